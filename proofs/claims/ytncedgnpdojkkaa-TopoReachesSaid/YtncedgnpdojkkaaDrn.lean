/-
  A region that draws its order, where the last store may change what the reads ahead of it saw: S is asked behind every operation but number z, and z waits for whatever was read under S. No function of the program is named here; no condition.
-/
import Derived.StillTailTactics
import Derived.Deep.RegionHeld3
namespace Go.Proofs.Ytncedgnpdojkkaa.xpt

section
variable {P : Program} {ops : Array Oper} {Q : Exit → Act → World → Prop} {md : Region.Mode} {S : World → Prop} {z : Nat}
/-- What has come up had nothing left to wait for. -/
def Shd (md : Region.Mode) (ops : Array Oper) (L : Array Bool) : Prop := ∀ j oj, ops[j]? = some oj → L.getD j false = true → ∀ e ∈ oj.after, Region.binds md e = true → L.getD e.on false = true
/-- Operation t waits for i, at once or by others. -/
def rch (md : Region.Mode) (ops : Array Oper) (i : Nat) : Nat → Nat → Bool
  | 0, _ => false
  | f + 1, t => Region.waitsFor md ops t i || (List.range ops.size).any fun j => Region.waitsFor md ops t j && rch md ops i f j
theorem rch_no {i : Nat} {L : Array Bool} (hL : Shd md ops L) (hi : L.getD i true = false) : ∀ (f t : Nat), rch md ops i f t = true → (∀ oj, ops[t]? = some oj → ∀ e ∈ oj.after, Region.binds md e = true → L.getD e.on false = true) → False := by
  intro f
  induction f with
  | zero => intro t h; cases h
  | succ f ih =>
    intro t h ht
    unfold rch at h
    rw [Bool.or_eq_true] at h
    rcases h with h | h
    · obtain ⟨oj, hj, e, he, hb, hon⟩ := Region.waitsFor_spec h
      have := ht oj hj e he hb
      rw [hon, getD_both hi] at this
      cases this
    · obtain ⟨j, -, h2⟩ := List.any_eq_true.1 h
      rw [Bool.and_eq_true] at h2
      obtain ⟨oj, hj, e, he, hb, hon⟩ := Region.waitsFor_spec h2.1
      have := ht oj hj e he hb
      rw [hon] at this
      exact ih j h2.2 fun ok hk e' he' hb' => hL j ok hk this e' he' hb'
/-- Whatever order is picked from here on; S holds behind every operation but number z. -/
def wpZ (P : Program) (md : Region.Mode) (ops : Array Oper) (Q : Exit → Act → World → Prop) (S : World → Prop) (z : Nat) : Nat → Array Bool → Act → World → Prop
  | 0, L, a, w => Region.ready md ops L = [] ∧ Q .normal a w
  | f + 1, L, a, w => (Region.ready md ops L = [] → Q .normal a w) ∧ ∀ i ∈ Region.ready md ops L, wpOp P ops Q i (fun a' w' => (i ≠ z → S w') ∧ wpZ P md ops Q S z f (L.setIfInBounds i true) a' w') a w
theorem any_of_z : ∀ (f : Nat) (L : Array Bool) (a : Act) (w : World), wpZ P md ops Q S z f L a w → wpAny P md ops Q f L a w
  | 0, _, _, _, h => h
  | f + 1, _, _, _, h => ⟨h.1, fun i hi => wpOp_mono (fun a' w' h' => any_of_z f _ a' w' h'.2) (h.2 i hi)⟩
theorem shd_set {i : Nat} {L : Array Bool} (hL : Shd md ops L) (hi : i ∈ Region.ready md ops L) : Shd md ops (L.setIfInBounds i true) := by
  obtain ⟨_, oi, hoi, hall⟩ := mem_ready.1 hi
  intro j oj hj hl e he hb
  by_cases hij : i = j
  · subst hij
    have : oj = oi := Option.some.inj (hj.symm.trans hoi)
    subst this
    exact getD_set_true (hall e he hb)
  · rw [getD_set_ne false hij] at hl
    exact getD_set_true (hL j oj hj hl e he hb)
theorem z_first {i : Nat} {oi : Oper} {v : Value} (hi : ops[i]? = some oi) (hsel : ∀ (j : Nat) (o : Oper) cs b, ops[j]? = some o → o.op ≠ .select cs b)
    (hQ : ∀ c a w, Q (.panic c) (a.put oi.dst v) w → Q (.panic c) a w) (d : Nat) (hz : rch md ops i d z = true) :
    ∀ (f : Nat) (L : Array Bool) (a : Act) (w : World),
      (∀ j oj, ops[j]? = some oj → j ≠ i → L.getD j true = false → (∀ e ∈ oj.after, Region.binds md e = true → e.on ≠ i) → oi.apart ops oj = true) → Shd md ops L →
      i ∈ Region.ready md ops L → YieldsIf P ops S oi v a → S w →
      wpZ P md ops Q S z f (L.setIfInBounds i true) (a.put oi.dst v) w → wpZ P md ops Q S z (f + 1) L a w := by
  intro f
  induction f with
  | zero =>
    intro L a w _ hL hr hy hS H
    refine ⟨fun h => (by rw [h] at hr; cases hr), fun j hj => ?_⟩
    by_cases hji : j = i
    · subst hji; exact hy.wpOp hi hS ⟨fun _ => hS, H⟩
    · have := ready_mono hj hji
      rw [H.1] at this
      cases this
  | succ f ih =>
    intro L a w hfree hL hr hy hS H
    refine ⟨fun h => (by rw [h] at hr; cases hr), fun j hj => ?_⟩
    by_cases hji : j = i
    · subst hji; exact hy.wpOp hi hS ⟨fun _ => hS, H⟩
    · have h1 := H.2 j (ready_mono hj hji)
      obtain ⟨hjun, oj, hoj, hall⟩ := mem_ready.1 hj
      have hun := (mem_ready.1 hr).1
      have hjz : j ≠ z := fun e => by
        subst e
        exact rch_no hL hun d j hz fun ok hk => by rw [hoj] at hk; cases hk; exact hall
      have hnot : ∀ e ∈ oj.after, Region.binds md e = true → e.on ≠ i := fun e he hb heq => by
        have h1 := hall e he hb
        rw [heq, getD_both hun] at h1
        cases h1
      have h2 := wpOp_putIf hoj (hfree j oj hoj hji hjun hnot) (fun cs b => hsel i oi cs b hi) (fun cs b => hsel j oj cs b hoj) hQ hy h1
      have hfree' : ∀ k ok, ops[k]? = some ok → k ≠ i → (L.setIfInBounds j true).getD k true = false →
          (∀ e ∈ ok.after, Region.binds md e = true → e.on ≠ i) → oi.apart ops ok = true := fun k ok hk hki hun' hno => by
        refine hfree k ok hk hki ?_ hno
        by_cases hjk : j = k
        · subst hjk; exact hjun
        · rw [getD_set_ne true hjk] at hun'; exact hun'
      refine wpOp_mono (fun a' w' h3 => ⟨h3.2.1, ih (L.setIfInBounds j true) a' w' hfree' (shd_set hL hj) (ready_mono hr (Ne.symm hji)) h3.1 (h3.2.1 hjz) ?_⟩) h2
      rw [Array.setIfInBounds_comm _ _ hji]
      exact h3.2.2
/-- The same, where what has come up is known to have had nothing to wait for. -/
def wpS (P : Program) (md : Region.Mode) (ops : Array Oper) (Q : Exit → Act → World → Prop) (S : World → Prop) (z : Nat) (f : Nat) (L : Array Bool) (a : Act) (w : World) : Prop := Shd md ops L → wpZ P md ops Q S z f L a w
/-- A read is taken first. -/
theorem ton {f : Nat} {L : Array Bool} {a : Act} {w : World} (i k : Nat) (v : Value) (h : wpS P md ops Q S z f (L.setIfInBounds i true) ⟨a.tmps.setIfInBounds k v, a.defers⟩ w)
    (hd : (ops[i]?).map (·.dst) = some (some k) := by kernel_rfl) (hs : Region.noSelect ops = true := by kernel_rfl) (hf : Region.free md ops L i = true := by kernel_rfl) (hr : (Region.ready md ops L).contains i = true := by kernel_rfl)
    (hz : rch md ops i 9 z = true := by kernel_rfl) (hQ : ∀ c (d : Tmp) v a w, Q (.panic c) (a.put (some d) v) w → Q (.panic c) a w := by exact fun _ _ _ _ _ h => by first | exact h | cases h.1)
    (hy : ∀ oi, ops[i]? = some oi → Region.wanted oi (yielded ops a.tmps) = true ∧ ∀ W, S W → (execOp a.eval oi).run P W = .ok (.value v) W := by (rintro oi h; cases h; refine ⟨by rfl, ?_⟩; intro W hSw; (try dsimp only at hSw); go_simp)) (hS : S w := by assumption) : wpS P md ops Q S z (f + 1) L a w := fun hL => by
  obtain ⟨oi, hi⟩ : ∃ oi, ops[i]? = some oi := by
    cases h : ops[i]? with
    | none => rw [h] at hd; cases hd
    | some o => exact ⟨o, rfl⟩
  have e : oi.dst = some k := by rw [hi] at hd; simpa using hd
  have hr2 : i ∈ Region.ready md ops L := by simpa using hr
  refine z_first hi (Region.noSelect_spec hs) (fun c a w => by rw [e]; exact hQ c _ _ a w) 9 hz f L a w (Region.free_spec hi hf) hL hr2 (Or.inl (hy oi hi)) hS ?_
  rw [e]
  exact h (shd_set hL hr2)
/-- An operation whose guard says no is taken first. -/
theorem tof {f : Nat} {L : Array Bool} {a : Act} {w : World} (i k : Nat) (h : wpS P md ops Q S z f (L.setIfInBounds i true) ⟨a.tmps.setIfInBounds k undef, a.defers⟩ w)
    (hd : (ops[i]?).map (·.dst) = some (some k) := by kernel_rfl) (hs : Region.noSelect ops = true := by kernel_rfl) (hf : Region.free md ops L i = true := by kernel_rfl) (hr : (Region.ready md ops L).contains i = true := by kernel_rfl)
    (hz : rch md ops i 9 z = true := by kernel_rfl) (hQ : ∀ c (d : Tmp) v a w, Q (.panic c) (a.put (some d) v) w → Q (.panic c) a w := by exact fun _ _ _ _ _ h => by first | exact h | cases h.1)
    (hn : ∀ oi, ops[i]? = some oi → Region.wanted oi (yielded ops a.tmps) = false := by (rintro oi h; cases h; rfl)) (hS : S w := by assumption) : wpS P md ops Q S z (f + 1) L a w := fun hL => by
  obtain ⟨oi, hi⟩ : ∃ oi, ops[i]? = some oi := by
    cases h : ops[i]? with
    | none => rw [h] at hd; cases hd
    | some o => exact ⟨o, rfl⟩
  have e : oi.dst = some k := by rw [hi] at hd; simpa using hd
  have hr2 : i ∈ Region.ready md ops L := by simpa using hr
  refine z_first hi (Region.noSelect_spec hs) (fun c a w => by rw [e]; exact hQ c _ _ a w) 9 hz f L a w (Region.free_spec hi hf) hL hr2 (Or.inr ⟨hn oi hi, rfl⟩) hS ?_
  rw [e]
  exact h (shd_set hL hr2)
/-- Only one operation may come up. -/
theorem tgo {i : Nat} {o : Oper} {f : Nat} {L : Array Bool} {a : Act} {w : World} (hr : Region.ready md ops L = [i]) (ho : ops[i]? = some o)
    (h : ∀ K' : Act → World → Prop, Shut (∀ a w, (i ≠ z → S w) → ((i ≠ z → S w) → wpS P md ops Q S z f (L.setIfInBounds i true) a w) → K' a w) → if Region.wanted o (yielded ops a.tmps) = true then Oper.wp P o a w K' Q else K' (a.put o.dst undef) w) : wpS P md ops Q S z (f + 1) L a w := fun hL =>
  ⟨fun h0 => (by rw [hr] at h0; cases h0), fun j hj => by
    have hj2 := hj
    rw [hr] at hj2
    obtain rfl : j = i := by simpa using hj2
    exact wpOp_step ho (fun K' hK => h K' (fun a w hS hW => hK a w ⟨hS, hW hS (shd_set hL hj)⟩))⟩
/-- One of two may come up. -/
theorem tgo2 {i j : Nat} {o o' : Oper} {f : Nat} {L : Array Bool} {a : Act} {w : World} (hr : Region.ready md ops L = [i, j]) (ho : ops[i]? = some o) (ho' : ops[j]? = some o')
    (h : ∀ K' : Act → World → Prop, Shut (∀ a w, (i ≠ z → S w) → ((i ≠ z → S w) → wpS P md ops Q S z f (L.setIfInBounds i true) a w) → K' a w) → if Region.wanted o (yielded ops a.tmps) = true then Oper.wp P o a w K' Q else K' (a.put o.dst undef) w)
    (h' : ∀ K' : Act → World → Prop, Shut (∀ a w, (j ≠ z → S w) → ((j ≠ z → S w) → wpS P md ops Q S z f (L.setIfInBounds j true) a w) → K' a w) → if Region.wanted o' (yielded ops a.tmps) = true then Oper.wp P o' a w K' Q else K' (a.put o'.dst undef) w) : wpS P md ops Q S z (f + 1) L a w := fun hL =>
  ⟨fun h0 => (by rw [hr] at h0; cases h0), fun m hm => by
    have hm2 := hm
    rw [hr] at hm2
    rcases (by simpa using hm2 : m = i ∨ m = j) with rfl | rfl
    · exact wpOp_step ho (fun K' hK => h K' (fun a w hS hW => hK a w ⟨hS, hW hS (shd_set hL hm)⟩))
    · exact wpOp_step ho' (fun K' hK => h' K' (fun a w hS hW => hK a w ⟨hS, hW hS (shd_set hL hm)⟩))⟩
theorem tdone {L : Array Bool} {a : Act} {w : World} (hr : Region.ready md ops L = []) (h : Q .normal a w) : ∀ f, wpS P md ops Q S z f L a w
  | 0 => fun _ => ⟨hr, h⟩
  | _ + 1 => fun _ => ⟨fun _ => h, by rw [hr]; simp⟩
theorem tstart {id : Nat} {a : Act} {w : World} (S : World → Prop) (z : Nat) (hm : P.follows .mixedOrders = true) (hS : S w.drew)
    (h : S w.drew → wpS P .any ops Q S z ops.size (Array.replicate ops.size false) a w.drew) : (Code.region id ops true).wp P Q a w :=
  wp_region_any hm (any_of_z _ _ _ _ (h hS (fun j oj _ hl => by rw [getD_replicate_false] at hl; cases hl)))
end
end Go.Proofs.Ytncedgnpdojkkaa.xpt
