/-
  What validOrZero, Center, Make and Inflate of layer 3 and of its reference return. Conditions: arguments are ints; no other.
-/
import Derived.Test.YtifliljlacmmlaaBoxCont
import Derived.StillTailTactics
import Derived.BigQuiet
import Derived.WalkSmall
namespace Go.Proofs.Ytifliljlacmmlaa
open Go.RowKit

theorem orZero_yes {x y z u a b c d : Int} (hv : bvld x y z u = true) (h : orZero x y z u = (a, b, c, d)) : a = x ∧ b = y ∧ c = z ∧ d = u := by
  unfold orZero at h; rw [if_pos hv] at h; simp only [Prod.mk.injEq] at h; omega
theorem orZero_no {x y z u a b c d : Int} (hv : bvld x y z u = false) (h : orZero x y z u = (a, b, c, d)) : a = 0 ∧ b = 0 ∧ c = 0 ∧ d = 0 := by
  unfold orZero at h; rw [if_neg (by rw [hv]; simp)] at h; simp only [Prod.mk.injEq] at h; omega

/-- The same of a box, or a point, that may be written. -/
def ow4 (W : World) (b : Nat) (x y z u : Int) : Prop := W.cell? ⟨b, 0, none⟩ = some (.int .i64 x) ∧ W.cell? ⟨b, 1, none⟩ = some (.int .i64 y) ∧ W.cell? ⟨b, 2, none⟩ = some (.int .i64 z) ∧ W.cell? ⟨b, 3, none⟩ = some (.int .i64 u) ∧
  W.frozen? ⟨b, 0, none⟩ = false ∧ W.frozen? ⟨b, 1, none⟩ = false ∧ W.frozen? ⟨b, 2, none⟩ = false ∧ W.frozen? ⟨b, 3, none⟩ = false
def ow2 (W : World) (b : Nat) (x y : Int) : Prop := W.cell? ⟨b, 0, none⟩ = some (.int .i64 x) ∧ W.cell? ⟨b, 1, none⟩ = some (.int .i64 y) ∧ W.frozen? ⟨b, 0, none⟩ = false ∧ W.frozen? ⟨b, 1, none⟩ = false
theorem ow4_new (w : World) (x y z u : Int) (t : TypeId) : ow4 (w.alloc (.cells #[.int .i64 x, .int .i64 y, .int .i64 z, .int .i64 u] t)) w.heap.size x y z u := by
  refine ⟨?_, ?_, ?_, ?_, ?_, ?_, ?_, ?_⟩ <;> go_simp
theorem ow2_new (w : World) (x y : Int) (t : TypeId) : ow2 (w.alloc (.cells #[.int .i64 x, .int .i64 y] t)) w.heap.size x y := by
  refine ⟨?_, ?_, ?_, ?_⟩ <;> go_simp
theorem fr_keep {w1 w2 : World} {b o : Nat} {v : Value} (h2 : Below w1.heap.size w1 w2) (h1 : w1.cell? ⟨b, o, none⟩ = some v) (h : w1.frozen? ⟨b, o, none⟩ = false) : w2.frozen? ⟨b, o, none⟩ = false := by
  rw [h2.frozen (p := ⟨b, o, none⟩) (World.block_lt_of_cell? w1 _ h1)]; exact h
theorem ow4_keep {w1 w2 : World} {b : Nat} {x y z u : Int} (h2 : Below w1.heap.size w1 w2) (h : ow4 w1 b x y z u) : ow4 w2 b x y z u := by
  obtain ⟨a, b, c, d, e, f, g, i⟩ := h
  exact ⟨cell_keep h2 a, cell_keep h2 b, cell_keep h2 c, cell_keep h2 d, fr_keep h2 a e, fr_keep h2 b f, fr_keep h2 c g, fr_keep h2 d i⟩
theorem ow2_keep {w1 w2 : World} {b : Nat} {x y : Int} (h2 : Below w1.heap.size w1 w2) (h : ow2 w1 b x y) : ow2 w2 b x y := by
  obtain ⟨a, b, c, d⟩ := h
  exact ⟨cell_keep h2 a, cell_keep h2 b, fr_keep h2 a c, fr_keep h2 b d⟩

theorem set4 {B : Nat} {a w : World} {b : Nat} {v0 v1 v2 v3 : Value} (h : Below B a w) (hb : B ≤ b) : Below B a ((((w.setCell ⟨b, 0, none⟩ v0).setCell ⟨b, 1, none⟩ v1).setCell ⟨b, 2, none⟩ v2).setCell ⟨b, 3, none⟩ v3) :=
  (((h.setCell hb _).setCell hb _).setCell hb _).setCell hb _
theorem set2 {B : Nat} {a w : World} {b : Nat} {v0 v1 : Value} (h : Below B a w) (hb : B ≤ b) : Below B a ((w.setCell ⟨b, 0, none⟩ v0).setCell ⟨b, 1, none⟩ v1) :=
  (h.setCell hb _).setCell hb _

theorem validOrZero_of (x y z u a b c d : Int) (w : World) (h : Hid (orZero x y z u = (a, b, c, d))) :
    Calls Try.prog 36 #[.agg #[.int .i64 x, .int .i64 y, .int .i64 z, .int .i64 u]] w fun e w' => e = .returned (.agg #[.int .i64 a, .int .i64 b, .int .i64 c, .int .i64 d]) ∧ Below w.heap.size w w' := by
  obtain ⟨v, hv⟩ : ∃ v, bvld x y z u = v := ⟨_, rfl⟩
  have HV := Lib.hid hv
  cases v
  · obtain ⟨rfl, rfl, rfl, rfl⟩ := orZero_no hv h.out
    clear hv h
    go_enter Try.func36, Try.ntmps36
    go_wp2_with fail
    refine (bvalid_of _ _ _ _ _ _ HV).mono ?_
    rintro e w1 ⟨rfl, hb1⟩
    have hq1 := below_keep hb1 (al2 ..)
    have f0 := ow4_keep hb1 (ow4_new (w.alloc (.cells #[.int .i64 x, .int .i64 y, .int .i64 z, .int .i64 u] 23)) 0 0 0 0 23)
    simp at f0
    obtain ⟨c0, c1, c2, c3, c4, c5, c6, c7⟩ := f0
    clear hb1
    go_wp2
    exact bodyPost_ret (v := .agg #[.int .i64 0, .int .i64 0, .int .i64 0, .int .i64 0]) (by simp [results, Try.results36, go_sem, c0, c1, c2, c3]) rfl ⟨rfl, set4 hq1 (by omega)⟩
  · obtain ⟨rfl, rfl, rfl, rfl⟩ := orZero_yes hv h.out
    clear hv h
    go_enter Try.func36, Try.ntmps36
    go_wp2_with fail
    refine (bvalid_of _ _ _ _ _ _ HV).mono ?_
    rintro e w1 ⟨rfl, hb1⟩
    have hq1 := below_keep hb1 (al2 ..)
    have f0 := ow4_keep hb1 (ow4_new (w.alloc (.cells #[.int .i64 a, .int .i64 b, .int .i64 c, .int .i64 d] 23)) 0 0 0 0 23)
    have f1 := at4_keep hb1 (at4_keep (al1 ..) (at4_new w a b c d 23))
    simp at f0
    obtain ⟨c0, c1, c2, c3, c4, c5, c6, c7⟩ := f0
    obtain ⟨d0, d1, d2, d3⟩ := f1
    clear hb1
    go_wp2
    exact bodyPost_ret (v := .agg #[.int .i64 a, .int .i64 b, .int .i64 c, .int .i64 d]) (by simp [results, Try.results36, go_sem, c0, c1, c2, c3]) rfl ⟨rfl, set4 hq1 (by omega)⟩

theorem center_yes {x y z u a b : Int} (hv : bvld x y z u = true) (h : center x y z u = (a, b)) : a = (x + z) / 2 ∧ b = (y + u) / 2 := by
  unfold center at h; rw [if_pos hv] at h; simp only [Prod.mk.injEq] at h; omega
theorem center_no {x y z u a b : Int} (hv : bvld x y z u = false) (h : center x y z u = (a, b)) : a = 0 ∧ b = 0 := by
  unfold center at h; rw [if_neg (by rw [hv]; simp)] at h; simp only [Prod.mk.injEq] at h; omega

set_option maxHeartbeats 1000000 in
theorem center_of (x y z u a b : Int) (w : World) (h : Hid (center x y z u = (a, b))) :
    Calls Try.prog 11 #[.agg #[.int .i64 x, .int .i64 y, .int .i64 z, .int .i64 u]] w fun e w' => e = .returned (.agg #[.int .i64 a, .int .i64 b]) ∧ Below w.heap.size w w' := by
  obtain ⟨v, hv⟩ : ∃ v, bvld x y z u = v := ⟨_, rfl⟩
  have HV := Lib.hid hv
  cases v
  · obtain ⟨rfl, rfl⟩ := center_no hv h.out
    clear hv h
    go_enter Try.func11, Try.ntmps11
    go_wp2_with fail
    refine (bvalid_of _ _ _ _ _ _ HV).mono ?_
    rintro e w1 ⟨rfl, hb1⟩
    have hq1 := below_keep hb1 (al2 ..)
    have f0 := ow2_keep hb1 (ow2_new (w.alloc (.cells #[.int .i64 x, .int .i64 y, .int .i64 z, .int .i64 u] 23)) 0 0 25)
    simp at f0
    obtain ⟨c0, c1, c2, c3⟩ := f0
    clear hb1
    go_wp2
    exact bodyPost_ret (v := .agg #[.int .i64 0, .int .i64 0]) (by simp [results, Try.results11, go_sem, c0, c1]) rfl ⟨rfl, set2 hq1 (by omega)⟩
  · obtain ⟨rfl, rfl⟩ := center_yes hv h.out
    have hB := (bvld_iff _ _ _ _).1 hv
    have HB := Lib.hid hB
    clear hv h hB
    go_enter Try.func11, Try.ntmps11
    go_wp2_with fail
    refine (bvalid_of _ _ _ _ _ _ HV).mono ?_
    rintro e w1 ⟨rfl, hb1⟩
    have hq1 := below_keep hb1 (al2 ..)
    have f0 : ow2 w1 (w.heap.size + 1) 0 0 := by simpa using ow2_keep hb1 (ow2_new (w.alloc (.cells #[.int .i64 x, .int .i64 y, .int .i64 z, .int .i64 u] 23)) 0 0 25)
    have f1 := at4_keep hb1 (at4_keep (al1 ..) (at4_new w x y z u 23))
    clear hb1
    go_wp2_with fail
    refine wp_region_still_tail 11 (by kernel_rfl) (by kernel_rfl) ?_
    change wpStill _ _ w1.drew (fun a' => wpList _ _ _ _ a' w1.drew) _ _
    have g0 : ow2 w1.drew (w.heap.size + 1) 0 0 := f0
    have g1 : at4 w1.drew w.heap.size x y z u := f1
    have hqd := hq1.drew
    generalize w1.drew = wd at *
    clear f0 f1 hq1
    obtain ⟨c0, c1, c2, c3⟩ := g0
    obtain ⟨d0, d1, d2, d3⟩ := g1
    simp only [List.take_succ_cons, List.take_zero, List.drop_succ_cons, List.drop_zero]
    repeat still_step
    still_call ((middle_any x z wd (by have := HB.out; omega) (by have := HB.out; omega) (by have := HB.out; omega) (by have := HB.out; omega)).mono fun _ _ h => ⟨h.1, h.2.symm⟩)
    repeat still_step
    still_call ((middle_any y u wd (by have := HB.out; omega) (by have := HB.out; omega) (by have := HB.out; omega) (by have := HB.out; omega)).mono fun _ _ h => ⟨h.1, h.2.symm⟩)
    repeat still_step
    refine wpStill_nil ?_
    go_wp2
    exact bodyPost_ret (v := .agg #[.int .i64 ((x + z) / 2), .int .i64 ((y + u) / 2)]) (by simp [results, Try.results11, go_sem, c0, c1]) rfl ⟨rfl, set2 hqd (by omega)⟩

set_option maxHeartbeats 1000000 in
theorem rcenter_of (x y z u a b : Int) (w : World) (h : Hid (center x y z u = (a, b))) :
    Calls Try.prog 12 #[.agg #[.int .i64 x, .int .i64 y, .int .i64 z, .int .i64 u]] w fun e w' => e = .returned (.agg #[.int .i64 a, .int .i64 b]) ∧ Below w.heap.size w w' := by
  obtain ⟨v, hv⟩ : ∃ v, bvld x y z u = v := ⟨_, rfl⟩
  have HV := Lib.hid hv
  cases v
  · obtain ⟨rfl, rfl⟩ := center_no hv h.out
    clear hv h
    go_enter Try.func12, Try.ntmps12
    go_wp2_with fail
    refine (rvalid_of _ _ _ _ _ _ HV).mono ?_
    rintro e w1 ⟨rfl, hb1⟩
    have hq1 := below_keep hb1 (al2 ..)
    have f0 := ow2_keep hb1 (ow2_new (w.alloc (.cells #[.int .i64 x, .int .i64 y, .int .i64 z, .int .i64 u] 23)) 0 0 25)
    simp at f0
    obtain ⟨c0, c1, c2, c3⟩ := f0
    clear hb1
    go_wp2
    exact bodyPost_ret (v := .agg #[.int .i64 0, .int .i64 0]) (by simp [results, Try.results12, go_sem, c0, c1]) rfl ⟨rfl, set2 hq1 (by omega)⟩
  · obtain ⟨rfl, rfl⟩ := center_yes hv h.out
    have hB := (bvld_iff _ _ _ _).1 hv
    have HB := Lib.hid hB
    have e1 : IntKind.i64.wrap (x + z) = x + z := IntWalk.i64_in _ (by omega)
    have e2 : IntKind.i64.wrap (y + u) = y + u := IntWalk.i64_in _ (by omega)
    have E1 := Lib.hid e1
    have E2 := Lib.hid e2
    clear hv h hB e1 e2
    go_enter Try.func12, Try.ntmps12
    go_wp2_with fail
    refine (rvalid_of _ _ _ _ _ _ HV).mono ?_
    rintro e w1 ⟨rfl, hb1⟩
    have hq1 := below_keep hb1 (al2 ..)
    have f0 : ow2 w1 (w.heap.size + 1) 0 0 := by simpa using ow2_keep hb1 (ow2_new (w.alloc (.cells #[.int .i64 x, .int .i64 y, .int .i64 z, .int .i64 u] 23)) 0 0 25)
    have f1 := at4_keep hb1 (at4_keep (al1 ..) (at4_new w x y z u 23))
    clear hb1
    go_wp2_with fail
    refine wp_region_still_tail 13 (by kernel_rfl) (by kernel_rfl) ?_
    change wpStill _ _ w1.drew (fun a' => wpList _ _ _ _ a' w1.drew) _ _
    have g0 : ow2 w1.drew (w.heap.size + 1) 0 0 := f0
    have g1 : at4 w1.drew w.heap.size x y z u := f1
    have hqd := hq1.drew
    generalize w1.drew = wd at *
    clear f0 f1 hq1
    obtain ⟨c0, c1, c2, c3⟩ := g0
    obtain ⟨d0, d1, d2, d3⟩ := g1
    simp only [List.take_succ_cons, List.take_zero, List.drop_succ_cons, List.drop_zero]
    have e1 := E1.out
    have e2 := E2.out
    repeat still_step
    still_call ((down_any (x + z) wd (by have := HB.out; omega) (by have := HB.out; omega)).mono fun _ _ h => ⟨h.1, h.2.symm⟩)
    repeat still_step
    still_call ((down_any (y + u) wd (by have := HB.out; omega) (by have := HB.out; omega)).mono fun _ _ h => ⟨h.1, h.2.symm⟩)
    repeat still_step
    refine wpStill_nil ?_
    clear e1 e2
    go_wp2
    exact bodyPost_ret (v := .agg #[.int .i64 ((x + z) / 2), .int .i64 ((y + u) / 2)]) (by simp [results, Try.results12, go_sem, c0, c1]) rfl ⟨rfl, set2 hqd (by omega)⟩

theorem isSize_of (n : Int) (v : Bool) (w : World) (hv : Hid (siz n = v)) :
    Calls Try.prog 35 #[.int .i64 n] w fun e w' => e = .returned (.bool v) ∧ w = w' := by
  have := isSize_any n w
  rw [hv.out] at this
  exact this

theorem mk_no {c d w h x y z u : Int} (hg : (vld c d && siz w && siz h) = false) (hm : mk c d w h = (x, y, z, u)) : x = 0 ∧ y = 0 ∧ z = 0 ∧ u = 0 := by
  unfold mk at hm; rw [if_neg (by rw [hg]; simp)] at hm; simp only [Prod.mk.injEq] at hm; omega
theorem mk_yes {c d w h x y z u : Int} (hg : (vld c d && siz w && siz h) = true) (hm : mk c d w h = (x, y, z, u)) : orZero (c - w / 2) (d - h / 2) (c - w / 2 + w) (d - h / 2 + h) = (x, y, z, u) := by
  unfold mk at hm; rw [if_pos hg] at hm; exact hm

set_option maxHeartbeats 1000000 in
theorem mk_of (c d m n x y z u : Int) (w : World) (hm : Hid (mk c d m n = (x, y, z, u))) :
    Calls Try.prog 13 #[.agg #[.int .i64 c, .int .i64 d], .int .i64 m, .int .i64 n] w fun e w' => e = .returned (.agg #[.int .i64 x, .int .i64 y, .int .i64 z, .int .i64 u]) ∧ Below w.heap.size w w' := by
  obtain ⟨p, hp⟩ : ∃ v, vld c d = v := ⟨_, rfl⟩
  obtain ⟨q, hq⟩ : ∃ v, siz m = v := ⟨_, rfl⟩
  obtain ⟨r, hr⟩ : ∃ v, siz n = v := ⟨_, rfl⟩
  have HP := Lib.hid hp
  have HQ := Lib.hid hq
  have HR := Lib.hid hr
  cases p
  · obtain ⟨rfl, rfl, rfl, rfl⟩ := mk_no (by rw [hp]; rfl) hm.out
    clear hp hq hr hm
    go_enter Try.func13, Try.ntmps13
    go_wp2_with fail
    refine (valid_of _ _ _ _ HP).mono ?_
    rintro e w1 ⟨rfl, hb1⟩
    have hq1 := below_keep hb1 (al2 ..)
    have f0 : ow4 w1 (w.heap.size + 1) 0 0 0 0 := by simpa using ow4_keep hb1 (ow4_new (w.alloc (.cells #[.int .i64 c, .int .i64 d] 25)) 0 0 0 0 23)
    obtain ⟨c0, c1, c2, c3, c4, c5, c6, c7⟩ := f0
    clear hb1
    go_wp2
    exact bodyPost_ret (v := .agg #[.int .i64 0, .int .i64 0, .int .i64 0, .int .i64 0]) (by simp [results, Try.results13, go_sem, c0, c1, c2, c3]) rfl ⟨rfl, set4 hq1 (by omega)⟩
  by_cases hqr : (q && r) = false
  · obtain ⟨rfl, rfl, rfl, rfl⟩ := mk_no (by rw [hp, hq, hr]; simpa using hqr) hm.out
    clear hp hq hr hm
    cases q
    · clear hqr
      go_enter Try.func13, Try.ntmps13
      go_wp2_with fail
      refine (valid_of _ _ _ _ HP).mono ?_
      rintro e w1 ⟨rfl, hb1⟩
      have hq1 := below_keep hb1 (al2 ..)
      have f0 : ow4 w1 (w.heap.size + 1) 0 0 0 0 := by simpa using ow4_keep hb1 (ow4_new (w.alloc (.cells #[.int .i64 c, .int .i64 d] 25)) 0 0 0 0 23)
      obtain ⟨c0, c1, c2, c3, c4, c5, c6, c7⟩ := f0
      clear hb1
      go_wp2_with fail
      refine (isSize_of _ _ _ HQ).mono ?_
      rintro e w2 ⟨rfl, rfl⟩
      go_wp2
      exact bodyPost_ret (v := .agg #[.int .i64 0, .int .i64 0, .int .i64 0, .int .i64 0]) (by simp [results, Try.results13, go_sem, c0, c1, c2, c3]) rfl ⟨rfl, set4 hq1 (by omega)⟩
    · cases r
      · clear hqr
        go_enter Try.func13, Try.ntmps13
        go_wp2_with fail
        refine (valid_of _ _ _ _ HP).mono ?_
        rintro e w1 ⟨rfl, hb1⟩
        have hq1 := below_keep hb1 (al2 ..)
        have f0 : ow4 w1 (w.heap.size + 1) 0 0 0 0 := by simpa using ow4_keep hb1 (ow4_new (w.alloc (.cells #[.int .i64 c, .int .i64 d] 25)) 0 0 0 0 23)
        obtain ⟨c0, c1, c2, c3, c4, c5, c6, c7⟩ := f0
        clear hb1
        go_wp2_with fail
        refine (isSize_of _ _ _ HQ).mono ?_
        rintro e w2 ⟨rfl, rfl⟩
        go_wp2_with fail
        refine (isSize_of _ _ _ HR).mono ?_
        rintro e w2 ⟨rfl, rfl⟩
        go_wp2
        exact bodyPost_ret (v := .agg #[.int .i64 0, .int .i64 0, .int .i64 0, .int .i64 0]) (by simp [results, Try.results13, go_sem, c0, c1, c2, c3]) rfl ⟨rfl, set4 hq1 (by omega)⟩
      · cases hqr
  · have hq' : q = true := by cases q <;> simp_all
    have hr' : r = true := by cases r <;> simp_all
    subst hq' hr'
    have HO := Lib.hid (mk_yes (by rw [hp, hq, hr]; rfl) hm.out)
    rw [vld_iff] at hp
    rw [siz_iff] at hq hr
    obtain ⟨x1, x2, x3, x4⟩ := hp
    obtain ⟨y1, y2⟩ := hq
    obtain ⟨z1, z2⟩ := hr
    clear hqr hm
    go_enter Try.func13, Try.ntmps13
    go_wp2_with fail
    refine (valid_of _ _ _ _ HP).mono ?_
    rintro e w1 ⟨rfl, hb1⟩
    have hq1 := below_keep hb1 (al2 ..)
    have f0 : ow4 w1 (w.heap.size + 1) 0 0 0 0 := by simpa using ow4_keep hb1 (ow4_new (w.alloc (.cells #[.int .i64 c, .int .i64 d] 25)) 0 0 0 0 23)
    have f1 := at2_keep hb1 (at2_keep (al1 ..) (at2_new w c d 25))
    obtain ⟨d0, d1⟩ := id f1
    clear hb1
    go_wp2_with fail
    refine (isSize_of _ _ _ HQ).mono ?_
    rintro e w2 ⟨rfl, rfl⟩
    go_wp2_with fail
    refine (isSize_of _ _ _ HR).mono ?_
    rintro e w2 ⟨rfl, rfl⟩
    go_wp2_with fail
    go_quiet (fail)
    go_wp2_with fail
    refine (validOrZero_of _ _ _ _ _ _ _ _ _ HO).mono ?_
    rintro e w2 ⟨rfl, hb2⟩
    have hq2 : Below w.heap.size w w2 := below_keep hb2 (below_drewN hq1 _)
    have g0 := ow4_keep hb2 (show ow4 (w1.drewN nq) (w.heap.size + 1) 0 0 0 0 from f0)
    obtain ⟨c0, c1, c2, c3, c4, c5, c6, c7⟩ := g0
    clear hb2 f0 hq1 HO
    go_wp2
    exact bodyPost_ret (v := .agg #[.int .i64 x, .int .i64 y, .int .i64 z, .int .i64 u]) (by simp [results, Try.results13, go_sem, c0, c1, c2, c3]) rfl ⟨rfl, set4 hq2 (by omega)⟩
end Go.Proofs.Ytifliljlacmmlaa
