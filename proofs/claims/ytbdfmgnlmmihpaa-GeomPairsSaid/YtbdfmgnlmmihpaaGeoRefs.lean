/-
  What Cross and Meet of layer 2's reference return. Conditions: arguments are ints; no other.
-/
import Derived.Test.YtbdfmgnlmmihpaaGeoRef
import Derived.Test.YtbdfmgnlmmihpaaGeoMeet
namespace Go.Proofs.Ytbdfmgnlmmihpaa
open Go.RowKit

theorem cross_parts (a1 a2 b1 b2 c1 c2 d1 d2 : Int) : cross a1 a2 b1 b2 c1 c2 d1 d2 = ((vld a1 a2 && vld b1 b2) && (vld c1 c2 && vld d1 d2) &&
    (decide (orient a1 a2 b1 b2 c1 c2 * orient a1 a2 b1 b2 d1 d2 < 0) && decide (orient c1 c2 d1 d2 a1 a2 * orient c1 c2 d1 d2 b1 b2 < 0))) := by
  unfold cross vld4 crs sep orient vld3
  cases vld a1 a2 <;> cases vld b1 b2 <;> cases vld c1 c2 <;> cases vld d1 d2 <;> simp

/-- An operation whose guard lets it by and that yields v, taken first: the state laid out. -/
theorem take_on {P : Program} {ops : Array Oper} {Q : Exit → Act → World → Prop} {md : Region.Mode} {S : World → Prop} {fuel : Nat} {listed : Array Bool} {a : Act} {w : World} (i k : Nat) (v : Value) (hd : (ops[i]?).map (·.dst) = some (some k))
    (hs : Region.noSelect ops = true) (hf : Region.free md ops listed i = true) (hr : (Region.ready md ops listed).contains i = true)
    (hQ : ∀ c (d : Tmp) v a w, Q (.panic c) (a.put (some d) v) w → Q (.panic c) a w) (hy : ∀ oi, ops[i]? = some oi → Region.wanted oi (yielded ops a.tmps) = true ∧ ∀ W, S W → (execOp a.eval oi).run P W = .ok (.value v) W) (hS : S w)
    (h : wpAnyH P md ops Q S fuel (listed.setIfInBounds i true) ⟨a.tmps.setIfInBounds k v, a.defers⟩ w) : wpAnyH P md ops Q S (fuel + 1) listed a w := by
  obtain ⟨oi, hi⟩ : ∃ oi, ops[i]? = some oi := by
    cases h : ops[i]? with
    | none => rw [h] at hd; cases hd
    | some o => exact ⟨o, rfl⟩
  have e : oi.dst = some k := by rw [hi] at hd; simpa using hd
  refine wpAnyH_take hi hs hf hr (fun c a w => by rw [e]; exact hQ c _ _ a w) (Or.inl (hy oi hi)) hS ?_
  rw [e]
  exact h

/-- Operations whose guards say no, one behind the other: nothing changes but the list. -/
def offOk (md : Region.Mode) (ops : Array Oper) : Array Bool → List Nat → Bool
  | _, [] => true
  | l, i :: is => Region.free md ops l i && (Region.ready md ops l).contains i && offOk md ops (l.setIfInBounds i true) is
theorem take_off {P : Program} {ops : Array Oper} {Q : Exit → Act → World → Prop} {md : Region.Mode} {S : World → Prop} {a : Act} {w : World} (is : List Nat) (hs : Region.noSelect ops = true)
    (hQ : ∀ c (d : Tmp) v a w, Q (.panic c) (a.put (some d) v) w → Q (.panic c) a w) (hS : S w) : ∀ (fuel : Nat) (listed : Array Bool), offOk md ops listed is = true →
    (∀ i ∈ is, ∃ oi k, ops[i]? = some oi ∧ oi.dst = some k ∧ Region.wanted oi (yielded ops a.tmps) = false ∧ a.put (some k) undef = a) →
    wpAnyH P md ops Q S fuel (is.foldl (fun l i => l.setIfInBounds i true) listed) a w → wpAnyH P md ops Q S (fuel + is.length) listed a w := by
  induction is with
  | nil => intro fuel listed _ _ h; exact h
  | cons i is ih =>
    intro fuel listed ho hw h
    simp only [offOk, Bool.and_eq_true] at ho
    obtain ⟨oi, k, hi, e, hn, hp⟩ := hw i (by simp)
    refine wpAnyH_take (v := undef) hi hs ho.1.1 ho.1.2 (fun c a w => by rw [e]; exact hQ c _ _ a w) (Or.inr ⟨hn, rfl⟩) hS ?_
    rw [e, hp]
    exact ih fuel _ ho.2 (fun j hj => hw j (by simp [hj])) h

set_option maxHeartbeats 4000000 in
theorem refCross_any (a1 a2 b1 b2 c1 c2 d1 d2 : Int) (w : World) :
    Calls Try.prog 21 #[.agg #[.int .i64 a1, .int .i64 a2, .int .i64 b1, .int .i64 b2], .agg #[.int .i64 c1, .int .i64 c2, .int .i64 d1, .int .i64 d2]] w fun e w' => e = .returned (.bool (cross a1 a2 b1 b2 c1 c2 d1 d2)) ∧ Below w.heap.size w w' := by
  obtain ⟨p, hp⟩ : ∃ v, (vld a1 a2 && vld b1 b2) = v := ⟨_, rfl⟩
  obtain ⟨q, hq⟩ : ∃ v, (vld c1 c2 && vld d1 d2) = v := ⟨_, rfl⟩
  obtain ⟨m, hm⟩ : ∃ v, orient a1 a2 b1 b2 c1 c2 = v := ⟨_, rfl⟩
  obtain ⟨n, hn⟩ : ∃ v, orient a1 a2 b1 b2 d1 d2 = v := ⟨_, rfl⟩
  obtain ⟨r, hr⟩ : ∃ v, orient c1 c2 d1 d2 a1 a2 = v := ⟨_, rfl⟩
  obtain ⟨s, hs⟩ : ∃ v, orient c1 c2 d1 d2 b1 b2 = v := ⟨_, rfl⟩
  have HO : Hid (cross a1 a2 b1 b2 c1 c2 d1 d2 = (p && q && (decide (m * n < 0) && decide (r * s < 0)))) := Lib.hid (by rw [cross_parts, hp, hq, hm, hn, hr, hs])
  have bm := orient_range a1 a2 b1 b2 c1 c2
  have bn := orient_range a1 a2 b1 b2 d1 d2
  have br := orient_range c1 c2 d1 d2 a1 a2
  have bs := orient_range c1 c2 d1 d2 b1 b2
  rw [hm] at bm
  rw [hn] at bn
  rw [hr] at br
  rw [hs] at bs
  obtain ⟨t0, t1⟩ := sep_sign m n bm.1 bm.2 bn.1 bn.2
  obtain ⟨t2, t3⟩ := sep_sign r s br.1 br.2 bs.1 bs.2
  clear bm bn br bs
  have e1 : IntKind.i64.wrap (m * n) = m * n := IntWalk.i64_in _ (by omega)
  have e2 : IntKind.i64.wrap (r * s) = r * s := IntWalk.i64_in _ (by omega)
  have HP := Lib.hid hp
  have HQ := Lib.hid hq
  have HM := Lib.hid hm
  have HN := Lib.hid hn
  have HR := Lib.hid hr
  have HS := Lib.hid hs
  have E1 := Lib.hid e1
  have E2 := Lib.hid e2
  clear hp hq hm hn hr hs e1 e2
  have base : Below w.heap.size w ((w.alloc (.cells #[.int .i64 a1, .int .i64 a2, .int .i64 b1, .int .i64 b2] 30)).alloc (.cells #[.int .i64 c1, .int .i64 c2, .int .i64 d1, .int .i64 d2] 30)) :=
    ((Below.refl _ _).alloc (Nat.le_refl _) _).alloc (by simp) _
  cases p
  · go_enter Try.func21, Try.ntmps21
    go_wp2_with fail
    refine (whole_of _ _ _ _ _ _ HP).mono ?_
    rintro e w1 ⟨rfl, hb1⟩
    go_wp2
    go_ret
    exact ⟨ret_bool HO.out.symm, base.trans (hb1.mono (by simp; omega))⟩
  cases q
  · go_enter Try.func21, Try.ntmps21
    go_wp2_with fail
    refine (whole_of _ _ _ _ _ _ HP).mono ?_
    rintro e w1 ⟨rfl, hb1⟩
    obtain ⟨hc1, hf1⟩ := bcell hb1
    go_wp2_with fail
    refine (whole_of _ _ _ _ _ _ HQ).mono ?_
    rintro e w2 ⟨rfl, hb2⟩
    go_wp2
    go_ret
    exact ⟨ret_bool HO.out.symm, base.trans ((below_keep hb2 hb1).mono (by simp; omega))⟩
  · go_enter Try.func21, Try.ntmps21
    go_wp2_with fail
    refine (whole_of _ _ _ _ _ _ HP).mono ?_
    rintro e w1 ⟨rfl, hb1⟩
    obtain ⟨hc1, hf1⟩ := bcell hb1
    go_wp2_with fail
    refine (whole_of _ _ _ _ _ _ HQ).mono ?_
    rintro e w2 ⟨rfl, hb2⟩
    have hb3 := below_keep hb2 hb1
    have k0 : w2.cell? ⟨w.heap.size, 0, none⟩ = some (.int .i64 a1) := by rw [hb3.cell (p := ⟨w.heap.size, 0, none⟩) (by simp; omega)]; go_simp
    have k1 : w2.cell? ⟨w.heap.size, 1, none⟩ = some (.int .i64 a2) := by rw [hb3.cell (p := ⟨w.heap.size, 1, none⟩) (by simp; omega)]; go_simp
    have k2 : w2.cell? ⟨w.heap.size, 2, none⟩ = some (.int .i64 b1) := by rw [hb3.cell (p := ⟨w.heap.size, 2, none⟩) (by simp; omega)]; go_simp
    have k3 : w2.cell? ⟨w.heap.size, 3, none⟩ = some (.int .i64 b2) := by rw [hb3.cell (p := ⟨w.heap.size, 3, none⟩) (by simp; omega)]; go_simp
    have k4 : w2.cell? ⟨w.heap.size + 1, 0, none⟩ = some (.int .i64 c1) := by rw [hb3.cell (p := ⟨w.heap.size + 1, 0, none⟩) (by simp)]; go_simp
    have k5 : w2.cell? ⟨w.heap.size + 1, 1, none⟩ = some (.int .i64 c2) := by rw [hb3.cell (p := ⟨w.heap.size + 1, 1, none⟩) (by simp)]; go_simp
    have k6 : w2.cell? ⟨w.heap.size + 1, 2, none⟩ = some (.int .i64 d1) := by rw [hb3.cell (p := ⟨w.heap.size + 1, 2, none⟩) (by simp)]; go_simp
    have k7 : w2.cell? ⟨w.heap.size + 1, 3, none⟩ = some (.int .i64 d2) := by rw [hb3.cell (p := ⟨w.heap.size + 1, 3, none⟩) (by simp)]; go_simp
    have HB3 : Below w.heap.size w w2 := base.trans (hb3.mono (by simp; omega))
    clear hb1 hb2 hb3 hc1 hf1
    by_cases hu : m * n < 0
    · have hd : decide (m * n < 0) = true := by simpa using hu
      have e1 := E1.out
      have e2 := E2.out
      go_wp2_with fail
      go_region_held3 (fun w' => Below w2.heap.size w2 w' ∧ w'.cell? ⟨w.heap.size, 0, none⟩ = some (.int .i64 a1) ∧ w'.cell? ⟨w.heap.size, 1, none⟩ = some (.int .i64 a2) ∧ w'.cell? ⟨w.heap.size, 2, none⟩ = some (.int .i64 b1) ∧ w'.cell? ⟨w.heap.size, 3, none⟩ = some (.int .i64 b2) ∧
          w'.cell? ⟨w.heap.size + 1, 0, none⟩ = some (.int .i64 c1) ∧ w'.cell? ⟨w.heap.size + 1, 1, none⟩ = some (.int .i64 c2) ∧ w'.cell? ⟨w.heap.size + 1, 2, none⟩ = some (.int .i64 d1) ∧ w'.cell? ⟨w.heap.size + 1, 3, none⟩ = some (.int .i64 d2))
        (first
          | exact ⟨(Below.refl _ _).drew, k0, k1, k2, k3, k4, k5, k6, k7⟩
          | (go_split_ands
             exact ⟨below_keep (by assumption) (by assumption), cell_keep (by assumption) (by assumption), cell_keep (by assumption) (by assumption), cell_keep (by assumption) (by assumption), cell_keep (by assumption) (by assumption), cell_keep (by assumption) (by assumption), cell_keep (by assumption) (by assumption), cell_keep (by assumption) (by assumption), cell_keep (by assumption) (by assumption)⟩))
        (first
          | (go_at_call 12; (with_reducible refine (refOrient_of _ _ _ _ _ _ _ _ HM).mono ?_); rintro e w1 ⟨rfl, hb1⟩)
          | (go_at_call 12; (with_reducible refine (refOrient_of _ _ _ _ _ _ _ _ HN).mono ?_); rintro e w1 ⟨rfl, hb1⟩)
          | (go_at_call 12; (with_reducible refine (refOrient_of _ _ _ _ _ _ _ _ HR).mono ?_); rintro e w1 ⟨rfl, hb1⟩)
          | (go_at_call 12; (with_reducible refine (refOrient_of _ _ _ _ _ _ _ _ HS).mono ?_); rintro e w1 ⟨rfl, hb1⟩))
      all_goals go_wp2
      all_goals go_ret
      all_goals (go_split_ands; exact ⟨ret_bool (by rw [HO.out, show decide (m * n < 0) = true by simpa using hu]; simp), HB3.trans (Below.mono (by assumption) HB3.size)⟩)
    · have hd : decide (m * n < 0) = false := by simpa using hu
      have e1 := E1.out
      go_wp2_with fail
      refine wp_region_held_drew (S := fun w' => Below w2.heap.size w2 w' ∧ w'.cell? ⟨w.heap.size, 0, none⟩ = some (.int .i64 a1) ∧ w'.cell? ⟨w.heap.size, 1, none⟩ = some (.int .i64 a2) ∧ w'.cell? ⟨w.heap.size, 2, none⟩ = some (.int .i64 b1) ∧ w'.cell? ⟨w.heap.size, 3, none⟩ = some (.int .i64 b2) ∧
          w'.cell? ⟨w.heap.size + 1, 0, none⟩ = some (.int .i64 c1) ∧ w'.cell? ⟨w.heap.size + 1, 1, none⟩ = some (.int .i64 c2) ∧ w'.cell? ⟨w.heap.size + 1, 2, none⟩ = some (.int .i64 d1) ∧ w'.cell? ⟨w.heap.size + 1, 3, none⟩ = some (.int .i64 d2)) (by kernel_rfl) ⟨(Below.refl _ _).drew, k0, k1, k2, k3, k4, k5, k6, k7⟩ (fun hHeld => ?_)
      refine take_on 0 13 (.pointer (some ⟨w.heap.size, 0, none⟩)) rfl (by kernel_rfl) (by kernel_rfl) (by kernel_rfl) (fun _ _ _ _ _ h => h) ?_ (by assumption) ?_
      · (rintro oi h; cases h; refine ⟨by rfl, ?_⟩; intro W hSw; try dsimp only at hSw
         go_simp)
      simp only [List.setIfInBounds_toArray, List.set_cons_zero, List.set_cons_succ]
      refine take_on 1 14 (.agg #[.int .i64 a1, .int .i64 a2]) rfl (by kernel_rfl) (by kernel_rfl) (by kernel_rfl) (fun _ _ _ _ _ h => h) ?_ (by assumption) ?_
      · (rintro oi h; cases h; refine ⟨by rfl, ?_⟩; intro W hSw; try dsimp only at hSw
         go_simp)
      simp only [List.setIfInBounds_toArray, List.set_cons_zero, List.set_cons_succ]
      refine take_on 2 15 (.pointer (some ⟨w.heap.size, 2, none⟩)) rfl (by kernel_rfl) (by kernel_rfl) (by kernel_rfl) (fun _ _ _ _ _ h => h) ?_ (by assumption) ?_
      · (rintro oi h; cases h; refine ⟨by rfl, ?_⟩; intro W hSw; try dsimp only at hSw
         go_simp)
      simp only [List.setIfInBounds_toArray, List.set_cons_zero, List.set_cons_succ]
      refine take_on 3 16 (.agg #[.int .i64 b1, .int .i64 b2]) rfl (by kernel_rfl) (by kernel_rfl) (by kernel_rfl) (fun _ _ _ _ _ h => h) ?_ (by assumption) ?_
      · (rintro oi h; cases h; refine ⟨by rfl, ?_⟩; intro W hSw; try dsimp only at hSw
         go_simp)
      simp only [List.setIfInBounds_toArray, List.set_cons_zero, List.set_cons_succ]
      refine take_on 4 17 (.pointer (some ⟨w.heap.size + 1, 0, none⟩)) rfl (by kernel_rfl) (by kernel_rfl) (by kernel_rfl) (fun _ _ _ _ _ h => h) ?_ (by assumption) ?_
      · (rintro oi h; cases h; refine ⟨by rfl, ?_⟩; intro W hSw; try dsimp only at hSw
         go_simp)
      simp only [List.setIfInBounds_toArray, List.set_cons_zero, List.set_cons_succ]
      refine take_on 5 18 (.agg #[.int .i64 c1, .int .i64 c2]) rfl (by kernel_rfl) (by kernel_rfl) (by kernel_rfl) (fun _ _ _ _ _ h => h) ?_ (by assumption) ?_
      · (rintro oi h; cases h; refine ⟨by rfl, ?_⟩; intro W hSw; try dsimp only at hSw
         go_simp)
      simp only [List.setIfInBounds_toArray, List.set_cons_zero, List.set_cons_succ]
      refine take_on 7 20 (.pointer (some ⟨w.heap.size, 0, none⟩)) rfl (by kernel_rfl) (by kernel_rfl) (by kernel_rfl) (fun _ _ _ _ _ h => h) ?_ (by assumption) ?_
      · (rintro oi h; cases h; refine ⟨by rfl, ?_⟩; intro W hSw; try dsimp only at hSw
         go_simp)
      simp only [List.setIfInBounds_toArray, List.set_cons_zero, List.set_cons_succ]
      refine take_on 8 21 (.agg #[.int .i64 a1, .int .i64 a2]) rfl (by kernel_rfl) (by kernel_rfl) (by kernel_rfl) (fun _ _ _ _ _ h => h) ?_ (by assumption) ?_
      · (rintro oi h; cases h; refine ⟨by rfl, ?_⟩; intro W hSw; try dsimp only at hSw
         go_simp)
      simp only [List.setIfInBounds_toArray, List.set_cons_zero, List.set_cons_succ]
      refine take_on 9 22 (.pointer (some ⟨w.heap.size, 2, none⟩)) rfl (by kernel_rfl) (by kernel_rfl) (by kernel_rfl) (fun _ _ _ _ _ h => h) ?_ (by assumption) ?_
      · (rintro oi h; cases h; refine ⟨by rfl, ?_⟩; intro W hSw; try dsimp only at hSw
         go_simp)
      simp only [List.setIfInBounds_toArray, List.set_cons_zero, List.set_cons_succ]
      refine take_on 10 23 (.agg #[.int .i64 b1, .int .i64 b2]) rfl (by kernel_rfl) (by kernel_rfl) (by kernel_rfl) (fun _ _ _ _ _ h => h) ?_ (by assumption) ?_
      · (rintro oi h; cases h; refine ⟨by rfl, ?_⟩; intro W hSw; try dsimp only at hSw
         go_simp)
      simp only [List.setIfInBounds_toArray, List.set_cons_zero, List.set_cons_succ]
      refine take_on 11 24 (.pointer (some ⟨w.heap.size + 1, 2, none⟩)) rfl (by kernel_rfl) (by kernel_rfl) (by kernel_rfl) (fun _ _ _ _ _ h => h) ?_ (by assumption) ?_
      · (rintro oi h; cases h; refine ⟨by rfl, ?_⟩; intro W hSw; try dsimp only at hSw
         go_simp)
      simp only [List.setIfInBounds_toArray, List.set_cons_zero, List.set_cons_succ]
      refine take_on 12 25 (.agg #[.int .i64 d1, .int .i64 d2]) rfl (by kernel_rfl) (by kernel_rfl) (by kernel_rfl) (fun _ _ _ _ _ h => h) ?_ (by assumption) ?_
      · (rintro oi h; cases h; refine ⟨by rfl, ?_⟩; intro W hSw; try dsimp only at hSw
         go_simp)
      simp only [List.setIfInBounds_toArray, List.set_cons_zero, List.set_cons_succ]
      refine wpAnyH_ready (rs := [6]) (by kernel_rfl) (by simp) ?_
      refine AllReadyH.cons rfl (fun K hK => ?_) AllReadyH.nil
      go_simp
      go_at_call 12
      refine (refOrient_of _ _ _ _ _ _ _ _ HM).mono ?_
      rintro e w3 ⟨rfl, hb1⟩
      go_wp2_with fail
      refine hK.out _ _ ?_ (fun hHeld => ?_)
      · (go_split_ands
         exact ⟨below_keep (by assumption) (by assumption), cell_keep (by assumption) (by assumption), cell_keep (by assumption) (by assumption), cell_keep (by assumption) (by assumption), cell_keep (by assumption) (by assumption), cell_keep (by assumption) (by assumption), cell_keep (by assumption) (by assumption), cell_keep (by assumption) (by assumption), cell_keep (by assumption) (by assumption)⟩)
      clear hK K
      try simp only [List.setIfInBounds_toArray, List.set_cons_zero, List.set_cons_succ]
      refine wpAnyH_ready (rs := [13]) (by kernel_rfl) (by simp) ?_
      refine AllReadyH.cons rfl (fun K hK => ?_) AllReadyH.nil
      go_simp
      go_at_call 12
      refine (refOrient_of _ _ _ _ _ _ _ _ HN).mono ?_
      rintro e w3 ⟨rfl, hb1⟩
      go_wp2_with fail
      refine hK.out _ _ ?_ (fun hHeld => ?_)
      · (go_split_ands
         exact ⟨below_keep (by assumption) (by assumption), cell_keep (by assumption) (by assumption), cell_keep (by assumption) (by assumption), cell_keep (by assumption) (by assumption), cell_keep (by assumption) (by assumption), cell_keep (by assumption) (by assumption), cell_keep (by assumption) (by assumption), cell_keep (by assumption) (by assumption), cell_keep (by assumption) (by assumption)⟩)
      clear hK K
      try simp only [List.setIfInBounds_toArray, List.set_cons_zero, List.set_cons_succ]
      refine take_on 14 27 (.int .i64 (m * n)) rfl (by kernel_rfl) (by kernel_rfl) (by kernel_rfl) (fun _ _ _ _ _ h => h) ?_ (by assumption) ?_
      · (rintro oi h; cases h; refine ⟨by rfl, ?_⟩; intro W hSw; try dsimp only at hSw
         go_simp)
      simp only [List.setIfInBounds_toArray, List.set_cons_zero, List.set_cons_succ]
      refine take_on 15 28 (.bool false) rfl (by kernel_rfl) (by kernel_rfl) (by kernel_rfl) (fun _ _ _ _ _ h => h) ?_ (by assumption) ?_
      · (rintro oi h; cases h; refine ⟨by rfl, ?_⟩; intro W hSw; try dsimp only at hSw
         go_simp)
      simp only [List.setIfInBounds_toArray, List.set_cons_zero, List.set_cons_succ]
      refine take_on 16 29 (.bool false) rfl (by kernel_rfl) (by kernel_rfl) (by kernel_rfl) (fun _ _ _ _ _ h => h) ?_ (by assumption) ?_
      · (rintro oi h; cases h; refine ⟨by rfl, ?_⟩; intro W hSw; try dsimp only at hSw
         go_simp)
      simp only [List.setIfInBounds_toArray, List.set_cons_zero, List.set_cons_succ]

      refine take_off [17, 18, 19, 20, 21, 22, 23, 24, 25, 26, 27, 28, 29, 30, 31, 32] (by kernel_rfl) (fun _ _ _ _ _ h => h) (by assumption) _ _ (by kernel_rfl) ?_ ?_
      · simp only [List.mem_cons, List.not_mem_nil, or_false, forall_eq_or_imp, forall_eq]
        exact ⟨⟨_, _, rfl, rfl, rfl, rfl⟩, ⟨_, _, rfl, rfl, rfl, rfl⟩, ⟨_, _, rfl, rfl, rfl, rfl⟩, ⟨_, _, rfl, rfl, rfl, rfl⟩, ⟨_, _, rfl, rfl, rfl, rfl⟩, ⟨_, _, rfl, rfl, rfl, rfl⟩, ⟨_, _, rfl, rfl, rfl, rfl⟩, ⟨_, _, rfl, rfl, rfl, rfl⟩,
          ⟨_, _, rfl, rfl, rfl, rfl⟩, ⟨_, _, rfl, rfl, rfl, rfl⟩, ⟨_, _, rfl, rfl, rfl, rfl⟩, ⟨_, _, rfl, rfl, rfl, rfl⟩, ⟨_, _, rfl, rfl, rfl, rfl⟩, ⟨_, _, rfl, rfl, rfl, rfl⟩, ⟨_, _, rfl, rfl, rfl, rfl⟩, ⟨_, _, rfl, rfl, rfl, rfl⟩⟩
      simp only [List.foldl_cons, List.foldl_nil]
      refine take_on 33 46 (.bool false) rfl (by kernel_rfl) (by kernel_rfl) (by kernel_rfl) (fun _ _ _ _ _ h => h) ?_ (by assumption) ?_
      · (rintro oi h; cases h; refine ⟨by rfl, ?_⟩; intro W hSw; try dsimp only at hSw
         go_simp)
      simp only [List.setIfInBounds_toArray, List.set_cons_zero, List.set_cons_succ]
      refine take_on 34 4 (.bool false) rfl (by kernel_rfl) (by kernel_rfl) (by kernel_rfl) (fun _ _ _ _ _ h => h) ?_ (by assumption) ?_
      · (rintro oi h; cases h; refine ⟨by rfl, ?_⟩; intro W hSw; try dsimp only at hSw
         go_simp)
      simp only [List.setIfInBounds_toArray, List.set_cons_zero, List.set_cons_succ]
      refine wpAnyH_done (by kernel_rfl) ?_ _
      all_goals go_wp2
      all_goals go_ret
      all_goals (go_split_ands; exact ⟨ret_bool (by rw [HO.out, show decide (m * n < 0) = false by simpa using hu]; rfl), HB3.trans (Below.mono (by assumption) HB3.size)⟩)

theorem refCross_of (a1 a2 b1 b2 c1 c2 d1 d2 : Int) (v : Bool) (w : World) (hv : Hid (cross a1 a2 b1 b2 c1 c2 d1 d2 = v)) :
    Calls Try.prog 21 #[.agg #[.int .i64 a1, .int .i64 a2, .int .i64 b1, .int .i64 b2], .agg #[.int .i64 c1, .int .i64 c2, .int .i64 d1, .int .i64 d2]] w fun e w' => e = .returned (.bool v) ∧ Below w.heap.size w w' := by
  have := refCross_any a1 a2 b1 b2 c1 c2 d1 d2 w
  rw [hv.out] at this
  exact this
theorem refOn_of (p1 p2 a1 a2 b1 b2 : Int) (v : Bool) (w : World) (hv : Hid (on p1 p2 a1 a2 b1 b2 = v)) :
    Calls Try.prog 17 #[.agg #[.int .i64 p1, .int .i64 p2], .agg #[.int .i64 a1, .int .i64 a2, .int .i64 b1, .int .i64 b2]] w fun e w' => e = .returned (.bool v) ∧ Below w.heap.size w w' := by
  have := refOn_any p1 p2 a1 a2 b1 b2 w
  rw [hv.out] at this
  exact this

theorem meet_parts (a1 a2 b1 b2 c1 c2 d1 d2 : Int) : meet a1 a2 b1 b2 c1 c2 d1 d2 = (cross a1 a2 b1 b2 c1 c2 d1 d2 || (on a1 a2 c1 c2 d1 d2 && (vld a1 a2 && vld b1 b2)) || (on b1 b2 c1 c2 d1 d2 && (vld a1 a2 && vld b1 b2)) ||
    (on c1 c2 a1 a2 b1 b2 && (vld c1 c2 && vld d1 d2)) || (on d1 d2 a1 a2 b1 b2 && (vld c1 c2 && vld d1 d2))) := by
  unfold meet cross on vld4 vld3
  generalize crs a1 a2 b1 b2 c1 c2 d1 d2 = x
  generalize has a1 a2 b1 b2 c1 c2 = y
  generalize has a1 a2 b1 b2 d1 d2 = z
  generalize has c1 c2 d1 d2 a1 a2 = u
  generalize has c1 c2 d1 d2 b1 b2 = v
  generalize vld a1 a2 = p
  generalize vld b1 b2 = q
  generalize vld c1 c2 = r
  generalize vld d1 d2 = s
  revert x y z u v p q r s
  decide

set_option maxHeartbeats 4000000 in
theorem refMeet_any (a1 a2 b1 b2 c1 c2 d1 d2 : Int) (w : World) :
    Calls Try.prog 19 #[.agg #[.int .i64 a1, .int .i64 a2, .int .i64 b1, .int .i64 b2], .agg #[.int .i64 c1, .int .i64 c2, .int .i64 d1, .int .i64 d2]] w fun e w' => e = .returned (.bool (meet a1 a2 b1 b2 c1 c2 d1 d2)) ∧ Below w.heap.size w w' := by
  obtain ⟨p, hp⟩ : ∃ v, (vld a1 a2 && vld b1 b2) = v := ⟨_, rfl⟩
  obtain ⟨q, hq⟩ : ∃ v, (vld c1 c2 && vld d1 d2) = v := ⟨_, rfl⟩
  obtain ⟨r0, h0⟩ : ∃ v, cross a1 a2 b1 b2 c1 c2 d1 d2 = v := ⟨_, rfl⟩
  obtain ⟨r1, h1⟩ : ∃ v, on a1 a2 c1 c2 d1 d2 = v := ⟨_, rfl⟩
  obtain ⟨r2, h2⟩ : ∃ v, on b1 b2 c1 c2 d1 d2 = v := ⟨_, rfl⟩
  obtain ⟨r3, h3⟩ : ∃ v, on c1 c2 a1 a2 b1 b2 = v := ⟨_, rfl⟩
  obtain ⟨r4, h4⟩ : ∃ v, on d1 d2 a1 a2 b1 b2 = v := ⟨_, rfl⟩
  have HO : Hid (meet a1 a2 b1 b2 c1 c2 d1 d2 = (r0 || (r1 && p) || (r2 && p) || (r3 && q) || (r4 && q))) := Lib.hid (by rw [meet_parts, hp, hq, h0, h1, h2, h3, h4])
  have HP := Lib.hid hp
  have HQ := Lib.hid hq
  have H0 := Lib.hid h0
  have H1 := Lib.hid h1
  have H2 := Lib.hid h2
  have H3 := Lib.hid h3
  have H4 := Lib.hid h4
  clear hp hq h0 h1 h2 h3 h4
  have HB : Below w.heap.size w ((w.alloc (.cells #[.int .i64 a1, .int .i64 a2, .int .i64 b1, .int .i64 b2] 30)).alloc (.cells #[.int .i64 c1, .int .i64 c2, .int .i64 d1, .int .i64 d2] 30)) :=
    ((Below.refl _ _).alloc (Nat.le_refl _) _).alloc (by simp) _
  go_enter Try.func19, Try.ntmps19
  go_wp2_with fail
  refine (refCross_of _ _ _ _ _ _ _ _ _ _ H0).mono ?_
  rintro e w1 ⟨rfl, hb1⟩
  obtain ⟨hc1, hf1⟩ := bcell hb1
  have hz1 : w.heap.size < w1.heap.size := by have := hb1.size; simp at this; omega
  have hy1 : w.heap.size + 1 < w1.heap.size := by have := hb1.size; simp at this; omega
  go_wp2_with (first
    | (go_at_call 17; (with_reducible refine (refOn_of _ _ _ _ _ _ _ _ H1).mono ?_); rintro e w3 ⟨rfl, hb3⟩; obtain ⟨hc3, hf3⟩ := bcell hb3; have hz3 : w.heap.size < w3.heap.size := (by have := hb3.size; omega); have hy3 : w.heap.size + 1 < w3.heap.size := (by have := hb3.size; omega))
    | (go_at_call 17; (with_reducible refine (refOn_of _ _ _ _ _ _ _ _ H2).mono ?_); rintro e w3 ⟨rfl, hb3⟩; obtain ⟨hc3, hf3⟩ := bcell hb3; have hz3 : w.heap.size < w3.heap.size := (by have := hb3.size; omega); have hy3 : w.heap.size + 1 < w3.heap.size := (by have := hb3.size; omega))
    | (go_at_call 17; (with_reducible refine (refOn_of _ _ _ _ _ _ _ _ H3).mono ?_); rintro e w3 ⟨rfl, hb3⟩; obtain ⟨hc3, hf3⟩ := bcell hb3; have hz3 : w.heap.size < w3.heap.size := (by have := hb3.size; omega); have hy3 : w.heap.size + 1 < w3.heap.size := (by have := hb3.size; omega))
    | (go_at_call 17; (with_reducible refine (refOn_of _ _ _ _ _ _ _ _ H4).mono ?_); rintro e w3 ⟨rfl, hb3⟩; obtain ⟨hc3, hf3⟩ := bcell hb3; have hz3 : w.heap.size < w3.heap.size := (by have := hb3.size; omega); have hy3 : w.heap.size + 1 < w3.heap.size := (by have := hb3.size; omega))
    | (go_at_call 28; (with_reducible refine (whole_of _ _ _ _ _ _ HP).mono ?_); rintro e w3 ⟨rfl, hb3⟩; obtain ⟨hc3, hf3⟩ := bcell hb3; have hz3 : w.heap.size < w3.heap.size := (by have := hb3.size; omega); have hy3 : w.heap.size + 1 < w3.heap.size := (by have := hb3.size; omega))
    | (go_at_call 28; (with_reducible refine (whole_of _ _ _ _ _ _ HQ).mono ?_); rintro e w3 ⟨rfl, hb3⟩; obtain ⟨hc3, hf3⟩ := bcell hb3; have hz3 : w.heap.size < w3.heap.size := (by have := hb3.size; omega); have hy3 : w.heap.size + 1 < w3.heap.size := (by have := hb3.size; omega)))
  all_goals go_ret
  all_goals refine ⟨ret_bool ?_, ?_⟩
  all_goals first
    | (rw [HO.out]; simp_all; done)
    | (iterate 12 (try (first | exact HB | refine below_keep (by assumption) ?_ | exact HB.trans (hb1.mono (by simp; omega)))))

theorem refMeet_of (a1 a2 b1 b2 c1 c2 d1 d2 : Int) (v : Bool) (w : World) (hv : Hid (meet a1 a2 b1 b2 c1 c2 d1 d2 = v)) :
    Calls Try.prog 19 #[.agg #[.int .i64 a1, .int .i64 a2, .int .i64 b1, .int .i64 b2], .agg #[.int .i64 c1, .int .i64 c2, .int .i64 d1, .int .i64 d2]] w fun e w' => e = .returned (.bool v) ∧ Below w.heap.size w w' := by
  have := refMeet_any a1 a2 b1 b2 c1 c2 d1 d2 w
  rw [hv.out] at this
  exact this
theorem refDistance_of (a1 a2 b1 b2 n : Int) (w : World) (hn : Hid (dist a1 a2 b1 b2 = n)) :
    Calls Try.prog 14 #[.agg #[.int .i64 a1, .int .i64 a2], .agg #[.int .i64 b1, .int .i64 b2]] w fun e w' => e = .returned (.int .i64 n) ∧ Below w.heap.size w w' := by
  have := refDistance_any a1 a2 b1 b2 w
  rw [hn.out] at this
  exact this
end Go.Proofs.Ytbdfmgnlmmihpaa
