/-
  What divides and Hits of layer 3 return. Conditions: of divides, valid ends and corners; of Hits, none.
-/
import Derived.Test.YtifliljlacmmlaaBoxCont
import Derived.Deep.RegionHeld3
namespace Go.Proofs.Ytifliljlacmmlaa
open Go.RowKit

theorem orient_of (a1 a2 b1 b2 c1 c2 n : Int) (w : World) (hn : Hid (orient a1 a2 b1 b2 c1 c2 = n)) :
    Calls Try.prog 43 #[.agg #[.int .i64 a1, .int .i64 a2], .agg #[.int .i64 b1, .int .i64 b2], .agg #[.int .i64 c1, .int .i64 c2]] w fun e w' => e = .returned (.int .i64 n) ∧ Below w.heap.size w w' := by
  have := orient_any a1 a2 b1 b2 c1 c2 w
  rw [hn.out] at this
  exact this

theorem at4_of {w : World} {b : Nat} {x y z u : Int} (h0 : w.cell? ⟨b, 0, none⟩ = some (.int .i64 x)) (h1 : w.cell? ⟨b, 1, none⟩ = some (.int .i64 y)) (h2 : w.cell? ⟨b, 2, none⟩ = some (.int .i64 z)) (h3 : w.cell? ⟨b, 3, none⟩ = some (.int .i64 u)) : at4 w b x y z u := ⟨h0, h1, h2, h3⟩

theorem sidec_of (x y a1 a2 b1 b2 n : Int) (b : Nat) (w : World) (hk : at4 w b a1 a2 b1 b2) (hn : Hid (orient a1 a2 b1 b2 x y = n)) :
    Calls Try.prog 42 #[.int .i64 x, .int .i64 y, .pointer (some ⟨b, 0, none⟩)] w fun e w' => e = .returned (.int .i64 n) ∧ Below w.heap.size w w' := by
  obtain ⟨k0, k1, k2, k3⟩ := hk
  go_enter Try.func42, Try.ntmps42
  go_wp2_with fail
  refine (orient_of _ _ _ _ _ _ _ _ hn).mono ?_
  rintro e w1 ⟨rfl, hb1⟩
  go_wp2
  go_ret
  exact ⟨rfl, hb1⟩

/-- An operation whose guard lets it by and that yields v, taken first: the state laid out. -/
theorem take_on {P : Program} {ops : Array Oper} {Q : Exit → Act → World → Prop} {md : Region.Mode} {S : World → Prop} {fuel : Nat} {listed : Array Bool} {a : Act} {w : World} (i k : Nat) (v : Value) (hd : (ops[i]?).map (·.dst) = some (some k))
    (hs : Region.noSelect ops = true) (hf : Region.free md ops listed i = true) (hr : (Region.ready md ops listed).contains i = true)
    (hQ : ∀ c (d : Tmp) v a w, Q (.panic c) (a.put (some d) v) w → Q (.panic c) a w) (hy : ∀ oi, ops[i]? = some oi → Region.wanted oi (yielded ops a.tmps) = true ∧ ∀ W, S W → (execOp a.eval oi).run P W = .ok (.value v) W) (hS : S w)
    (h : wpAnyH P md ops Q S fuel (listed.setIfInBounds i true) ⟨a.tmps.setIfInBounds k v, a.defers⟩ w) : wpAnyH P md ops Q S (fuel + 1) listed a w := by
  obtain ⟨oi, hi⟩ : ∃ oi, ops[i]? = some oi := by
    cases h : ops[i]? with
    | none => rw [h] at hd; cases hd
    | some o => exact ⟨o, rfl⟩
  have e : oi.dst = some k := by rw [hi] at hd; simpa using hd
  refine wpAnyH_take hi hs hf hr (fun c a w => by rw [e]; exact hQ c _ _ a w) (Or.inl (hy oi hi)) hS ?_
  rw [e]
  exact h

/-- Operations whose guards say no, one behind the other: nothing changes but the list. -/
def offOk (md : Region.Mode) (ops : Array Oper) : Array Bool → List Nat → Bool
  | _, [] => true
  | l, i :: is => Region.free md ops l i && (Region.ready md ops l).contains i && offOk md ops (l.setIfInBounds i true) is
theorem take_off {P : Program} {ops : Array Oper} {Q : Exit → Act → World → Prop} {md : Region.Mode} {S : World → Prop} {a : Act} {w : World} (is : List Nat) (hs : Region.noSelect ops = true)
    (hQ : ∀ c (d : Tmp) v a w, Q (.panic c) (a.put (some d) v) w → Q (.panic c) a w) (hS : S w) : ∀ (fuel : Nat) (listed : Array Bool), offOk md ops listed is = true →
    (∀ i ∈ is, ∃ oi k, ops[i]? = some oi ∧ oi.dst = some k ∧ Region.wanted oi (yielded ops a.tmps) = false ∧ a.put (some k) undef = a) →
    wpAnyH P md ops Q S fuel (is.foldl (fun l i => l.setIfInBounds i true) listed) a w → wpAnyH P md ops Q S (fuel + is.length) listed a w := by
  induction is with
  | nil => intro fuel listed _ _ h; exact h
  | cons i is ih =>
    intro fuel listed ho hw h
    simp only [offOk, Bool.and_eq_true] at ho
    obtain ⟨oi, k, hi, e, hn, hp⟩ := hw i (by simp)
    refine wpAnyH_take (v := undef) hi hs ho.1.1 ho.1.2 (fun c a w => by rw [e]; exact hQ c _ _ a w) (Or.inr ⟨hn, rfl⟩) hS ?_
    rw [e, hp]
    exact ih fuel _ ho.2 (fun j hj => hw j (by simp [hj])) h

set_option maxHeartbeats 4000000 in
theorem divides_of (a1 a2 b1 b2 x y z u : Int) (v : Bool) (w : World) (ha : vld a1 a2 = true) (hb : vld b1 b2 = true) (hl : vld x y = true) (hh : vld z u = true) (hv : Hid (dvds a1 a2 b1 b2 x y z u = v)) :
    Calls Try.prog 40 #[.agg #[.int .i64 a1, .int .i64 a2, .int .i64 b1, .int .i64 b2], .agg #[.int .i64 x, .int .i64 y, .int .i64 z, .int .i64 u]] w fun e w' => e = .returned (.bool v) ∧ Below w.heap.size w w' := by
  have hmf : ∀ (fn : Fn) (first cap : Array Value) (w : World), (Instr.makeFunc fn first cap).run Try.prog w = .ok (.func fn first cap) w := fun _ _ _ _ => rfl
  obtain ⟨m, hm⟩ : ∃ v, orient a1 a2 b1 b2 x y = v := ⟨_, rfl⟩
  obtain ⟨n, hn⟩ : ∃ v, orient a1 a2 b1 b2 z u = v := ⟨_, rfl⟩
  obtain ⟨r, hr⟩ : ∃ v, orient a1 a2 b1 b2 x u = v := ⟨_, rfl⟩
  obtain ⟨s, hs⟩ : ∃ v, orient a1 a2 b1 b2 z y = v := ⟨_, rfl⟩
  have h1 : ∀ p q, vld p q = true → orient a1 a2 b1 b2 p q = side a1 a2 b1 b2 p q := fun p q h => by unfold orient vld3; rw [ha, hb, h]; rfl
  have hxu : vld x u = true := by rw [vld_iff] at *; omega
  have hzy : vld z y = true := by rw [vld_iff] at *; omega
  have hO := hv.out
  unfold dvds at hO
  rw [← h1 _ _ hl, ← h1 _ _ hh, ← h1 _ _ hxu, ← h1 _ _ hzy, hm, hn, hr, hs] at hO
  have HO := Lib.hid hO
  have bm := orient_range a1 a2 b1 b2 x y
  have bn := orient_range a1 a2 b1 b2 z u
  have br := orient_range a1 a2 b1 b2 x u
  have bs := orient_range a1 a2 b1 b2 z y
  rw [hm] at bm
  rw [hn] at bn
  rw [hr] at br
  rw [hs] at bs
  obtain ⟨t0, t1⟩ := sep_sign m n bm.1 bm.2 bn.1 bn.2
  obtain ⟨t2, t3⟩ := sep_sign r s br.1 br.2 bs.1 bs.2
  have e1 : IntKind.i64.wrap (m * n) = m * n := IntWalk.i64_in _ (by omega)
  have e2 : IntKind.i64.wrap (r * s) = r * s := IntWalk.i64_in _ (by omega)
  have HM := Lib.hid hm
  have HN := Lib.hid hn
  have HR := Lib.hid hr
  have HS := Lib.hid hs
  have base : Below w.heap.size w ((w.alloc (.cells #[.int .i64 a1, .int .i64 a2, .int .i64 b1, .int .i64 b2] 42)).alloc (.cells #[.int .i64 x, .int .i64 y, .int .i64 z, .int .i64 u] 23)) := al2 ..
  clear hm hn hr hs hO bm bn br bs h1 hv ha hb hl hh hxu hzy
  by_cases hu : m * n < 0
  · have HU := Lib.hid hu
    have hd : decide (m * n < 0) = true := by simpa using hu
    clear e2 hu
    go_enter Try.func40, Try.ntmps40
    go_wp2_with fail
    refine wp_region_held_drew (S := (fun w' => Below ((w.alloc (.cells #[.int .i64 a1, .int .i64 a2, .int .i64 b1, .int .i64 b2] 42)).alloc (.cells #[.int .i64 x, .int .i64 y, .int .i64 z, .int .i64 u] 23)).heap.size ((w.alloc (.cells #[.int .i64 a1, .int .i64 a2, .int .i64 b1, .int .i64 b2] 42)).alloc (.cells #[.int .i64 x, .int .i64 y, .int .i64 z, .int .i64 u] 23)) w' ∧ w'.cell? ⟨w.heap.size, 0, none⟩ = some (.int .i64 a1) ∧ w'.cell? ⟨w.heap.size, 1, none⟩ = some (.int .i64 a2) ∧ w'.cell? ⟨w.heap.size, 2, none⟩ = some (.int .i64 b1) ∧ w'.cell? ⟨w.heap.size, 3, none⟩ = some (.int .i64 b2) ∧ w'.cell? ⟨w.heap.size + 1, 0, none⟩ = some (.int .i64 x) ∧ w'.cell? ⟨w.heap.size + 1, 1, none⟩ = some (.int .i64 y) ∧ w'.cell? ⟨w.heap.size + 1, 2, none⟩ = some (.int .i64 z) ∧ w'.cell? ⟨w.heap.size + 1, 3, none⟩ = some (.int .i64 u))) (by kernel_rfl) ⟨(Below.refl _ _).drew, by go_simp, by go_simp, by go_simp, by go_simp, by go_simp, by go_simp, by go_simp, by go_simp⟩ (fun hHeld => ?_)
    refine take_on 0 7 (.func (.func 42) #[] #[.pointer (some ⟨w.heap.size, 0, none⟩)]) rfl (by kernel_rfl) (by kernel_rfl) (by kernel_rfl) (fun _ _ _ _ _ h => h) ?_ (by assumption) ?_
    · (rintro oi h; cases h; refine ⟨by rfl, ?_⟩; intro W hSw; try dsimp only at hSw
       go_simp)
    simp only [List.setIfInBounds_toArray, List.set_cons_zero, List.set_cons_succ]
    refine take_on 1 8 (.pointer (some ⟨w.heap.size + 1, 0, none⟩)) rfl (by kernel_rfl) (by kernel_rfl) (by kernel_rfl) (fun _ _ _ _ _ h => h) ?_ (by assumption) ?_
    · (rintro oi h; cases h; refine ⟨by rfl, ?_⟩; intro W hSw; try dsimp only at hSw
       go_simp)
    simp only [List.setIfInBounds_toArray, List.set_cons_zero, List.set_cons_succ]
    refine take_on 2 9 (.int .i64 (x)) rfl (by kernel_rfl) (by kernel_rfl) (by kernel_rfl) (fun _ _ _ _ _ h => h) ?_ (by assumption) ?_
    · (rintro oi h; cases h; refine ⟨by rfl, ?_⟩; intro W hSw; try dsimp only at hSw
       go_simp)
    simp only [List.setIfInBounds_toArray, List.set_cons_zero, List.set_cons_succ]
    refine take_on 3 10 (.pointer (some ⟨w.heap.size + 1, 1, none⟩)) rfl (by kernel_rfl) (by kernel_rfl) (by kernel_rfl) (fun _ _ _ _ _ h => h) ?_ (by assumption) ?_
    · (rintro oi h; cases h; refine ⟨by rfl, ?_⟩; intro W hSw; try dsimp only at hSw
       go_simp)
    simp only [List.setIfInBounds_toArray, List.set_cons_zero, List.set_cons_succ]
    refine take_on 4 11 (.int .i64 (y)) rfl (by kernel_rfl) (by kernel_rfl) (by kernel_rfl) (fun _ _ _ _ _ h => h) ?_ (by assumption) ?_
    · (rintro oi h; cases h; refine ⟨by rfl, ?_⟩; intro W hSw; try dsimp only at hSw
       go_simp)
    simp only [List.setIfInBounds_toArray, List.set_cons_zero, List.set_cons_succ]
    refine take_on 6 13 (.func (.func 42) #[] #[.pointer (some ⟨w.heap.size, 0, none⟩)]) rfl (by kernel_rfl) (by kernel_rfl) (by kernel_rfl) (fun _ _ _ _ _ h => h) ?_ (by assumption) ?_
    · (rintro oi h; cases h; refine ⟨by rfl, ?_⟩; intro W hSw; try dsimp only at hSw
       go_simp)
    simp only [List.setIfInBounds_toArray, List.set_cons_zero, List.set_cons_succ]
    refine take_on 7 14 (.pointer (some ⟨w.heap.size + 1, 2, none⟩)) rfl (by kernel_rfl) (by kernel_rfl) (by kernel_rfl) (fun _ _ _ _ _ h => h) ?_ (by assumption) ?_
    · (rintro oi h; cases h; refine ⟨by rfl, ?_⟩; intro W hSw; try dsimp only at hSw
       go_simp)
    simp only [List.setIfInBounds_toArray, List.set_cons_zero, List.set_cons_succ]
    refine take_on 8 15 (.int .i64 (z)) rfl (by kernel_rfl) (by kernel_rfl) (by kernel_rfl) (fun _ _ _ _ _ h => h) ?_ (by assumption) ?_
    · (rintro oi h; cases h; refine ⟨by rfl, ?_⟩; intro W hSw; try dsimp only at hSw
       go_simp)
    simp only [List.setIfInBounds_toArray, List.set_cons_zero, List.set_cons_succ]
    refine take_on 9 16 (.pointer (some ⟨w.heap.size + 1, 3, none⟩)) rfl (by kernel_rfl) (by kernel_rfl) (by kernel_rfl) (fun _ _ _ _ _ h => h) ?_ (by assumption) ?_
    · (rintro oi h; cases h; refine ⟨by rfl, ?_⟩; intro W hSw; try dsimp only at hSw
       go_simp)
    simp only [List.setIfInBounds_toArray, List.set_cons_zero, List.set_cons_succ]
    refine take_on 10 17 (.int .i64 (u)) rfl (by kernel_rfl) (by kernel_rfl) (by kernel_rfl) (fun _ _ _ _ _ h => h) ?_ (by assumption) ?_
    · (rintro oi h; cases h; refine ⟨by rfl, ?_⟩; intro W hSw; try dsimp only at hSw
       go_simp)
    simp only [List.setIfInBounds_toArray, List.set_cons_zero, List.set_cons_succ]
    refine wpAnyH_ready (rs := [5]) (by kernel_rfl) (by simp) ?_
    refine AllReadyH.cons rfl (fun K hK => ?_) AllReadyH.nil
    go_simp
    go_at_call 42
    go_split_ands
    (with_reducible refine (sidec_of _ _ a1 a2 b1 b2 _ _ _ (at4_of (by assumption) (by assumption) (by assumption) (by assumption)) HM).mono ?_)
    rintro e w3 ⟨rfl, hb1⟩
    go_wp2_with fail
    refine hK.out _ _ ?_ (fun hHeld => ?_)
    · (go_split_ands
       exact ⟨below_keep (by assumption) (by assumption), cell_keep (by assumption) (by assumption), cell_keep (by assumption) (by assumption), cell_keep (by assumption) (by assumption), cell_keep (by assumption) (by assumption), cell_keep (by assumption) (by assumption), cell_keep (by assumption) (by assumption), cell_keep (by assumption) (by assumption), cell_keep (by assumption) (by assumption)⟩)
    clear hK K
    try simp only [List.setIfInBounds_toArray, List.set_cons_zero, List.set_cons_succ]
    refine wpAnyH_ready (rs := [11]) (by kernel_rfl) (by simp) ?_
    refine AllReadyH.cons rfl (fun K hK => ?_) AllReadyH.nil
    go_simp
    go_at_call 42
    go_split_ands
    (with_reducible refine (sidec_of _ _ a1 a2 b1 b2 _ _ _ (at4_of (by assumption) (by assumption) (by assumption) (by assumption)) HN).mono ?_)
    rintro e w3 ⟨rfl, hb1⟩
    go_wp2_with fail
    refine hK.out _ _ ?_ (fun hHeld => ?_)
    · (go_split_ands
       exact ⟨below_keep (by assumption) (by assumption), cell_keep (by assumption) (by assumption), cell_keep (by assumption) (by assumption), cell_keep (by assumption) (by assumption), cell_keep (by assumption) (by assumption), cell_keep (by assumption) (by assumption), cell_keep (by assumption) (by assumption), cell_keep (by assumption) (by assumption), cell_keep (by assumption) (by assumption)⟩)
    clear hK K
    try simp only [List.setIfInBounds_toArray, List.set_cons_zero, List.set_cons_succ]
    refine take_on 12 19 (.int .i64 (m * n)) rfl (by kernel_rfl) (by kernel_rfl) (by kernel_rfl) (fun _ _ _ _ _ h => h) ?_ (by assumption) ?_
    · (rintro oi h; cases h; refine ⟨by rfl, ?_⟩; intro W hSw; try dsimp only at hSw
       go_simp)
    simp only [List.setIfInBounds_toArray, List.set_cons_zero, List.set_cons_succ]
    refine take_on 13 20 (.bool true) rfl (by kernel_rfl) (by kernel_rfl) (by kernel_rfl) (fun _ _ _ _ _ h => h) ?_ (by assumption) ?_
    · (rintro oi h; cases h; refine ⟨by rfl, ?_⟩; intro W hSw; try dsimp only at hSw
       go_simp)
    simp only [List.setIfInBounds_toArray, List.set_cons_zero, List.set_cons_succ]
    refine take_on 14 21 (.bool true) rfl (by kernel_rfl) (by kernel_rfl) (by kernel_rfl) (fun _ _ _ _ _ h => h) ?_ (by assumption) ?_
    · (rintro oi h; cases h; refine ⟨by rfl, ?_⟩; intro W hSw; try dsimp only at hSw
       go_simp)
    simp only [List.setIfInBounds_toArray, List.set_cons_zero, List.set_cons_succ]
    refine take_off [15, 16, 17, 18, 19, 20, 21, 22, 23, 24, 25, 26, 27, 28] (by kernel_rfl) (fun _ _ _ _ _ h => h) (by assumption) _ _ (by kernel_rfl) ?_ ?_
    · simp only [List.mem_cons, List.not_mem_nil, or_false, forall_eq_or_imp, forall_eq]
      exact ⟨⟨_, _, rfl, rfl, rfl, rfl⟩, ⟨_, _, rfl, rfl, rfl, rfl⟩, ⟨_, _, rfl, rfl, rfl, rfl⟩, ⟨_, _, rfl, rfl, rfl, rfl⟩, ⟨_, _, rfl, rfl, rfl, rfl⟩, ⟨_, _, rfl, rfl, rfl, rfl⟩, ⟨_, _, rfl, rfl, rfl, rfl⟩, ⟨_, _, rfl, rfl, rfl, rfl⟩, ⟨_, _, rfl, rfl, rfl, rfl⟩, ⟨_, _, rfl, rfl, rfl, rfl⟩, ⟨_, _, rfl, rfl, rfl, rfl⟩, ⟨_, _, rfl, rfl, rfl, rfl⟩, ⟨_, _, rfl, rfl, rfl, rfl⟩, ⟨_, _, rfl, rfl, rfl, rfl⟩⟩
    simp only [List.foldl_cons, List.foldl_nil]
    refine take_on 29 36 (.bool true) rfl (by kernel_rfl) (by kernel_rfl) (by kernel_rfl) (fun _ _ _ _ _ h => h) ?_ (by assumption) ?_
    · (rintro oi h; cases h; refine ⟨by rfl, ?_⟩; intro W hSw; try dsimp only at hSw
       go_simp)
    simp only [List.setIfInBounds_toArray, List.set_cons_zero, List.set_cons_succ]
    refine take_on 30 4 (.bool true) rfl (by kernel_rfl) (by kernel_rfl) (by kernel_rfl) (fun _ _ _ _ _ h => h) ?_ (by assumption) ?_
    · (rintro oi h; cases h; refine ⟨by rfl, ?_⟩; intro W hSw; try dsimp only at hSw
       go_simp)
    simp only [List.setIfInBounds_toArray, List.set_cons_zero, List.set_cons_succ]
    refine wpAnyH_done (by kernel_rfl) ?_ _
    all_goals go_wp2
    all_goals go_ret
    all_goals (go_split_ands; exact ⟨ret_bool (by rw [← HO.out, show decide (m * n < 0) = true by simpa using HU.out]; rfl), base.trans (Below.mono (by assumption) base.size)⟩)
  · have HU := Lib.hid hu
    have hd : decide (m * n < 0) = false := by simpa using hu
    clear hu
    go_enter Try.func40, Try.ntmps40
    go_wp2_with fail
    go_region_held3 (fun w' => Below ((w.alloc (.cells #[.int .i64 a1, .int .i64 a2, .int .i64 b1, .int .i64 b2] 42)).alloc (.cells #[.int .i64 x, .int .i64 y, .int .i64 z, .int .i64 u] 23)).heap.size ((w.alloc (.cells #[.int .i64 a1, .int .i64 a2, .int .i64 b1, .int .i64 b2] 42)).alloc (.cells #[.int .i64 x, .int .i64 y, .int .i64 z, .int .i64 u] 23)) w' ∧ w'.cell? ⟨w.heap.size, 0, none⟩ = some (.int .i64 a1) ∧ w'.cell? ⟨w.heap.size, 1, none⟩ = some (.int .i64 a2) ∧ w'.cell? ⟨w.heap.size, 2, none⟩ = some (.int .i64 b1) ∧ w'.cell? ⟨w.heap.size, 3, none⟩ = some (.int .i64 b2) ∧ w'.cell? ⟨w.heap.size + 1, 0, none⟩ = some (.int .i64 x) ∧ w'.cell? ⟨w.heap.size + 1, 1, none⟩ = some (.int .i64 y) ∧ w'.cell? ⟨w.heap.size + 1, 2, none⟩ = some (.int .i64 z) ∧ w'.cell? ⟨w.heap.size + 1, 3, none⟩ = some (.int .i64 u))
      (first
        | exact ⟨(Below.refl _ _).drew, by go_simp, by go_simp, by go_simp, by go_simp, by go_simp, by go_simp, by go_simp, by go_simp⟩
        | (go_split_ands
           exact ⟨below_keep (by assumption) (by assumption), cell_keep (by assumption) (by assumption), cell_keep (by assumption) (by assumption), cell_keep (by assumption) (by assumption), cell_keep (by assumption) (by assumption), cell_keep (by assumption) (by assumption), cell_keep (by assumption) (by assumption), cell_keep (by assumption) (by assumption), cell_keep (by assumption) (by assumption)⟩))
      (first
        | (go_at_call 42; go_split_ands; (with_reducible refine (sidec_of _ _ a1 a2 b1 b2 _ _ _ (at4_of (by assumption) (by assumption) (by assumption) (by assumption)) HM).mono ?_); rintro e w1 ⟨rfl, hb1⟩)
        | (go_at_call 42; go_split_ands; (with_reducible refine (sidec_of _ _ a1 a2 b1 b2 _ _ _ (at4_of (by assumption) (by assumption) (by assumption) (by assumption)) HN).mono ?_); rintro e w1 ⟨rfl, hb1⟩)
        | (go_at_call 42; go_split_ands; (with_reducible refine (sidec_of _ _ a1 a2 b1 b2 _ _ _ (at4_of (by assumption) (by assumption) (by assumption) (by assumption)) HR).mono ?_); rintro e w1 ⟨rfl, hb1⟩)
        | (go_at_call 42; go_split_ands; (with_reducible refine (sidec_of _ _ a1 a2 b1 b2 _ _ _ (at4_of (by assumption) (by assumption) (by assumption) (by assumption)) HS).mono ?_); rintro e w1 ⟨rfl, hb1⟩))
    all_goals go_wp2
    all_goals go_ret
    all_goals (go_split_ands; exact ⟨ret_bool (by rw [← HO.out, show decide (m * n < 0) = false by simpa using HU.out]; simp), base.trans (Below.mono (by assumption) base.size)⟩)

end Go.Proofs.Ytifliljlacmmlaa
