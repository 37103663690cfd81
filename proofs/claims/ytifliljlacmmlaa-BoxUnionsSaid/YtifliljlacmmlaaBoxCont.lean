/-
  What Contains, Inside and Overlap of layer 3 and of its reference return. Conditions: arguments are ints; no other.
-/
import Derived.Test.YtifliljlacmmlaaBoxValid
import Derived.Lib.MinMax
namespace Go.Proofs.Ytifliljlacmmlaa
open Go.RowKit

theorem cont_any (x y z u p q : Int) (w : World) :
    Calls Try.prog 16 #[.agg #[.int .i64 x, .int .i64 y, .int .i64 z, .int .i64 u], .agg #[.int .i64 p, .int .i64 q]] w fun e w' => e = .returned (.bool (cont x y z u p q)) ∧ Below w.heap.size w w' := by
  obtain ⟨b, hb⟩ : ∃ v, bvld x y z u = v := ⟨_, rfl⟩
  obtain ⟨v, hv⟩ : ∃ v, vld p q = v := ⟨_, rfl⟩
  have HV : Hid (cont x y z u p q = (b && v && within x y z u p q)) := Lib.hid (by unfold cont; rw [hb, hv])
  have HB := Lib.hid hb
  have HW := Lib.hid hv
  clear hb hv
  cases b
  ·
    go_enter Try.func16, Try.ntmps16
    go_wp2_with fail
    refine (bvalid_of _ _ _ _ _ _ HB).mono ?_
    rintro e w1 ⟨rfl, hb1⟩
    go_wp2
    go_ret
    exact ⟨ret_bool HV.out.symm, below_keep hb1 (al2 ..)⟩
  cases v
  ·
    go_enter Try.func16, Try.ntmps16
    go_wp2_with fail
    refine (bvalid_of _ _ _ _ _ _ HB).mono ?_
    rintro e w1 ⟨rfl, hb1⟩
    obtain ⟨hc1, hf1⟩ := bcell hb1
    go_wp2_with fail
    refine (valid_of _ _ _ _ HW).mono ?_
    rintro e w2 ⟨rfl, hb2⟩
    go_wp2
    go_ret
    exact ⟨ret_bool HV.out.symm, below_keep hb2 (below_keep hb1 (al2 ..))⟩
  ·
    go_enter Try.func16, Try.ntmps16
    go_wp2_with fail
    refine (bvalid_of _ _ _ _ _ _ HB).mono ?_
    rintro e w1 ⟨rfl, hb1⟩
    obtain ⟨hc1, hf1⟩ := bcell hb1
    go_wp2_with fail
    refine (valid_of _ _ _ _ HW).mono ?_
    rintro e w2 ⟨rfl, hb2⟩
    have hb4 : Below w.heap.size w w2 := below_keep hb2 (below_keep hb1 (al2 ..))
    obtain ⟨k0, k1, k2, k3⟩ := at4_keep (below_keep hb2 hb1) (at4_keep (al1 ..) (at4_new w x y z u 23))
    obtain ⟨k4, k5⟩ := at2_keep (below_keep hb2 hb1) (at2_new (w.alloc (.cells #[.int .i64 x, .int .i64 y, .int .i64 z, .int .i64 u] 23)) p q 25)
    simp at k4 k5
    clear hb1 hb2 hc1 hf1
    go_wp2
    all_goals go_ret
    all_goals refine ⟨ret_bool ?_, hb4⟩
    all_goals (rw [HV.out, Bool.eq_iff_iff]; unfold within; simp; omega)

theorem cont_of (x y z u p q : Int) (v : Bool) (w : World) (hv : Hid (cont x y z u p q = v)) :
    Calls Try.prog 16 #[.agg #[.int .i64 x, .int .i64 y, .int .i64 z, .int .i64 u], .agg #[.int .i64 p, .int .i64 q]] w fun e w' => e = .returned (.bool v) ∧ Below w.heap.size w w' := by
  have := cont_any x y z u p q w
  rw [hv.out] at this
  exact this

theorem rcont_any (x y z u p q : Int) (w : World) :
    Calls Try.prog 17 #[.agg #[.int .i64 x, .int .i64 y, .int .i64 z, .int .i64 u], .agg #[.int .i64 p, .int .i64 q]] w fun e w' => e = .returned (.bool (cont x y z u p q)) ∧ Below w.heap.size w w' := by
  obtain ⟨b, hb⟩ : ∃ v, bvld x y z u = v := ⟨_, rfl⟩
  obtain ⟨v, hv⟩ : ∃ v, vld p q = v := ⟨_, rfl⟩
  have HV : Hid (cont x y z u p q = (b && v && within x y z u p q)) := Lib.hid (by unfold cont; rw [hb, hv])
  have HB := Lib.hid hb
  have HW := Lib.hid hv
  clear hb hv
  cases b
  ·
    go_enter Try.func17, Try.ntmps17
    go_wp2_with fail
    refine (rvalid_of _ _ _ _ _ _ HB).mono ?_
    rintro e w1 ⟨rfl, hb1⟩
    go_wp2
    go_ret
    exact ⟨ret_bool HV.out.symm, below_keep hb1 (al2 ..)⟩
  cases v
  ·
    go_enter Try.func17, Try.ntmps17
    go_wp2_with fail
    refine (rvalid_of _ _ _ _ _ _ HB).mono ?_
    rintro e w1 ⟨rfl, hb1⟩
    obtain ⟨hc1, hf1⟩ := bcell hb1
    go_wp2_with fail
    refine (point_of _ _ _ _ HW).mono ?_
    rintro e w2 ⟨rfl, hb2⟩
    go_wp2
    go_ret
    exact ⟨ret_bool HV.out.symm, below_keep hb2 (below_keep hb1 (al2 ..))⟩
  ·
    go_enter Try.func17, Try.ntmps17
    go_wp2_with fail
    refine (rvalid_of _ _ _ _ _ _ HB).mono ?_
    rintro e w1 ⟨rfl, hb1⟩
    obtain ⟨hc1, hf1⟩ := bcell hb1
    go_wp2_with fail
    refine (point_of _ _ _ _ HW).mono ?_
    rintro e w2 ⟨rfl, hb2⟩
    have hb4 : Below w.heap.size w w2 := below_keep hb2 (below_keep hb1 (al2 ..))
    obtain ⟨k0, k1, k2, k3⟩ := at4_keep (below_keep hb2 hb1) (at4_keep (al1 ..) (at4_new w x y z u 23))
    obtain ⟨k4, k5⟩ := at2_keep (below_keep hb2 hb1) (at2_new (w.alloc (.cells #[.int .i64 x, .int .i64 y, .int .i64 z, .int .i64 u] 23)) p q 25)
    simp at k4 k5
    clear hb1 hb2 hc1 hf1
    go_wp2
    all_goals go_ret
    all_goals refine ⟨ret_bool ?_, hb4⟩
    all_goals (rw [HV.out, Bool.eq_iff_iff]; unfold within; simp; omega)

theorem rcont_of (x y z u p q : Int) (v : Bool) (w : World) (hv : Hid (cont x y z u p q = v)) :
    Calls Try.prog 17 #[.agg #[.int .i64 x, .int .i64 y, .int .i64 z, .int .i64 u], .agg #[.int .i64 p, .int .i64 q]] w fun e w' => e = .returned (.bool v) ∧ Below w.heap.size w w' := by
  have := rcont_any x y z u p q w
  rw [hv.out] at this
  exact this

theorem insd_any (a b c d x y z u : Int) (w : World) :
    Calls Try.prog 18 #[.agg #[.int .i64 a, .int .i64 b, .int .i64 c, .int .i64 d], .agg #[.int .i64 x, .int .i64 y, .int .i64 z, .int .i64 u]] w fun e w' => e = .returned (.bool (insd a b c d x y z u)) ∧ Below w.heap.size w w' := by
  obtain ⟨v, hv⟩ : ∃ v, bvld a b c d = v := ⟨_, rfl⟩
  obtain ⟨m, hm⟩ : ∃ v, cont x y z u a b = v := ⟨_, rfl⟩
  obtain ⟨n, hn⟩ : ∃ v, cont x y z u c d = v := ⟨_, rfl⟩
  have HV : Hid (insd a b c d x y z u = (v && m && n)) := Lib.hid (by unfold insd; rw [hv, hm, hn])
  have HB := Lib.hid hv
  have HM := Lib.hid hm
  have HN := Lib.hid hn
  clear hv hm hn
  cases v
  ·
    go_enter Try.func18, Try.ntmps18
    go_wp2_with fail
    refine (corners_any _ _ _ _ _).mono ?_
    rintro e w1 ⟨rfl, hb1⟩
    have hq1 := below_keep hb1 (al2 ..)
    have f0_1 : at4 w1 (w.heap.size) a b c d := by simpa using at4_keep hb1 (at4_keep (al1 ..) (at4_new w a b c d 23))
    have f1_1 : at4 w1 (w.heap.size + 1) x y z u := by simpa using at4_keep hb1 (at4_new (w.alloc (.cells #[.int .i64 a, .int .i64 b, .int .i64 c, .int .i64 d] 23)) x y z u 23)
    have g := f0_1; obtain ⟨c0_1_0, c0_1_1, c0_1_2, c0_1_3⟩ := g
    have g := f1_1; obtain ⟨c1_1_0, c1_1_1, c1_1_2, c1_1_3⟩ := g
    have hz := hb1.size
    simp at hz
    have hz0 : w.heap.size < w1.heap.size := by omega
    have hz1 : w.heap.size + 1 < w1.heap.size := by omega
    clear hz
    go_wp2_with fail
    refine (bvalid_of _ _ _ _ _ _ HB).mono ?_
    rintro e w2 ⟨rfl, hb2⟩
    have hq2 := below_keep hb2 (below_keep (al2 ..) hq1)
    have f0_2 : at4 w2 (w.heap.size) a b c d := at4_keep hb2 (at4_keep (al2 ..) f0_1)
    have f1_2 : at4 w2 (w.heap.size + 1) x y z u := at4_keep hb2 (at4_keep (al2 ..) f1_1)
    have f2_2 : at2 w2 (w1.heap.size) a b := by simpa using at2_keep hb2 (at2_keep (al1 ..) (at2_new w1 a b 25))
    have f3_2 : at2 w2 (w1.heap.size + 1) c d := by simpa using at2_keep hb2 (at2_new (w1.alloc (.cells #[.int .i64 a, .int .i64 b] 25)) c d 25)
    clear f0_1 c0_1_0 c0_1_1 c0_1_2 c0_1_3
    clear f1_1 c1_1_0 c1_1_1 c1_1_2 c1_1_3
    have g := f0_2; obtain ⟨c0_2_0, c0_2_1, c0_2_2, c0_2_3⟩ := g
    have g := f1_2; obtain ⟨c1_2_0, c1_2_1, c1_2_2, c1_2_3⟩ := g
    have g := f2_2; obtain ⟨c2_2_0, c2_2_1⟩ := g
    have g := f3_2; obtain ⟨c3_2_0, c3_2_1⟩ := g
    go_wp2
    go_ret
    exact ⟨ret_bool HV.out.symm, hq2⟩
  cases m
  ·
    go_enter Try.func18, Try.ntmps18
    go_wp2_with fail
    refine (corners_any _ _ _ _ _).mono ?_
    rintro e w1 ⟨rfl, hb1⟩
    have hq1 := below_keep hb1 (al2 ..)
    have f0_1 : at4 w1 (w.heap.size) a b c d := by simpa using at4_keep hb1 (at4_keep (al1 ..) (at4_new w a b c d 23))
    have f1_1 : at4 w1 (w.heap.size + 1) x y z u := by simpa using at4_keep hb1 (at4_new (w.alloc (.cells #[.int .i64 a, .int .i64 b, .int .i64 c, .int .i64 d] 23)) x y z u 23)
    have g := f0_1; obtain ⟨c0_1_0, c0_1_1, c0_1_2, c0_1_3⟩ := g
    have g := f1_1; obtain ⟨c1_1_0, c1_1_1, c1_1_2, c1_1_3⟩ := g
    have hz := hb1.size
    simp at hz
    have hz0 : w.heap.size < w1.heap.size := by omega
    have hz1 : w.heap.size + 1 < w1.heap.size := by omega
    clear hz
    go_wp2_with fail
    refine (bvalid_of _ _ _ _ _ _ HB).mono ?_
    rintro e w2 ⟨rfl, hb2⟩
    have hq2 := below_keep hb2 (below_keep (al2 ..) hq1)
    have f0_2 : at4 w2 (w.heap.size) a b c d := at4_keep hb2 (at4_keep (al2 ..) f0_1)
    have f1_2 : at4 w2 (w.heap.size + 1) x y z u := at4_keep hb2 (at4_keep (al2 ..) f1_1)
    have f2_2 : at2 w2 (w1.heap.size) a b := by simpa using at2_keep hb2 (at2_keep (al1 ..) (at2_new w1 a b 25))
    have f3_2 : at2 w2 (w1.heap.size + 1) c d := by simpa using at2_keep hb2 (at2_new (w1.alloc (.cells #[.int .i64 a, .int .i64 b] 25)) c d 25)
    clear f0_1 c0_1_0 c0_1_1 c0_1_2 c0_1_3
    clear f1_1 c1_1_0 c1_1_1 c1_1_2 c1_1_3
    have g := f0_2; obtain ⟨c0_2_0, c0_2_1, c0_2_2, c0_2_3⟩ := g
    have g := f1_2; obtain ⟨c1_2_0, c1_2_1, c1_2_2, c1_2_3⟩ := g
    have g := f2_2; obtain ⟨c2_2_0, c2_2_1⟩ := g
    have g := f3_2; obtain ⟨c3_2_0, c3_2_1⟩ := g
    go_wp2_with fail
    refine (cont_of _ _ _ _ _ _ _ _ HM).mono ?_
    rintro e w3 ⟨rfl, hb3⟩
    have hq3 := below_keep hb3 (hq2)
    have f0_3 : at4 w3 (w.heap.size) a b c d := at4_keep hb3 (f0_2)
    have f1_3 : at4 w3 (w.heap.size + 1) x y z u := at4_keep hb3 (f1_2)
    have f2_3 : at2 w3 (w1.heap.size) a b := at2_keep hb3 (f2_2)
    have f3_3 : at2 w3 (w1.heap.size + 1) c d := at2_keep hb3 (f3_2)
    clear f0_2 c0_2_0 c0_2_1 c0_2_2 c0_2_3
    clear f1_2 c1_2_0 c1_2_1 c1_2_2 c1_2_3
    clear f2_2 c2_2_0 c2_2_1
    clear f3_2 c3_2_0 c3_2_1
    have g := f0_3; obtain ⟨c0_3_0, c0_3_1, c0_3_2, c0_3_3⟩ := g
    have g := f1_3; obtain ⟨c1_3_0, c1_3_1, c1_3_2, c1_3_3⟩ := g
    have g := f2_3; obtain ⟨c2_3_0, c2_3_1⟩ := g
    have g := f3_3; obtain ⟨c3_3_0, c3_3_1⟩ := g
    go_wp2
    go_ret
    exact ⟨ret_bool HV.out.symm, hq3⟩
  ·
    go_enter Try.func18, Try.ntmps18
    go_wp2_with fail
    refine (corners_any _ _ _ _ _).mono ?_
    rintro e w1 ⟨rfl, hb1⟩
    have hq1 := below_keep hb1 (al2 ..)
    have f0_1 : at4 w1 (w.heap.size) a b c d := by simpa using at4_keep hb1 (at4_keep (al1 ..) (at4_new w a b c d 23))
    have f1_1 : at4 w1 (w.heap.size + 1) x y z u := by simpa using at4_keep hb1 (at4_new (w.alloc (.cells #[.int .i64 a, .int .i64 b, .int .i64 c, .int .i64 d] 23)) x y z u 23)
    have g := f0_1; obtain ⟨c0_1_0, c0_1_1, c0_1_2, c0_1_3⟩ := g
    have g := f1_1; obtain ⟨c1_1_0, c1_1_1, c1_1_2, c1_1_3⟩ := g
    have hz := hb1.size
    simp at hz
    have hz0 : w.heap.size < w1.heap.size := by omega
    have hz1 : w.heap.size + 1 < w1.heap.size := by omega
    clear hz
    go_wp2_with fail
    refine (bvalid_of _ _ _ _ _ _ HB).mono ?_
    rintro e w2 ⟨rfl, hb2⟩
    have hq2 := below_keep hb2 (below_keep (al2 ..) hq1)
    have f0_2 : at4 w2 (w.heap.size) a b c d := at4_keep hb2 (at4_keep (al2 ..) f0_1)
    have f1_2 : at4 w2 (w.heap.size + 1) x y z u := at4_keep hb2 (at4_keep (al2 ..) f1_1)
    have f2_2 : at2 w2 (w1.heap.size) a b := by simpa using at2_keep hb2 (at2_keep (al1 ..) (at2_new w1 a b 25))
    have f3_2 : at2 w2 (w1.heap.size + 1) c d := by simpa using at2_keep hb2 (at2_new (w1.alloc (.cells #[.int .i64 a, .int .i64 b] 25)) c d 25)
    clear f0_1 c0_1_0 c0_1_1 c0_1_2 c0_1_3
    clear f1_1 c1_1_0 c1_1_1 c1_1_2 c1_1_3
    have g := f0_2; obtain ⟨c0_2_0, c0_2_1, c0_2_2, c0_2_3⟩ := g
    have g := f1_2; obtain ⟨c1_2_0, c1_2_1, c1_2_2, c1_2_3⟩ := g
    have g := f2_2; obtain ⟨c2_2_0, c2_2_1⟩ := g
    have g := f3_2; obtain ⟨c3_2_0, c3_2_1⟩ := g
    go_wp2_with fail
    refine (cont_of _ _ _ _ _ _ _ _ HM).mono ?_
    rintro e w3 ⟨rfl, hb3⟩
    have hq3 := below_keep hb3 (hq2)
    have f0_3 : at4 w3 (w.heap.size) a b c d := at4_keep hb3 (f0_2)
    have f1_3 : at4 w3 (w.heap.size + 1) x y z u := at4_keep hb3 (f1_2)
    have f2_3 : at2 w3 (w1.heap.size) a b := at2_keep hb3 (f2_2)
    have f3_3 : at2 w3 (w1.heap.size + 1) c d := at2_keep hb3 (f3_2)
    clear f0_2 c0_2_0 c0_2_1 c0_2_2 c0_2_3
    clear f1_2 c1_2_0 c1_2_1 c1_2_2 c1_2_3
    clear f2_2 c2_2_0 c2_2_1
    clear f3_2 c3_2_0 c3_2_1
    have g := f0_3; obtain ⟨c0_3_0, c0_3_1, c0_3_2, c0_3_3⟩ := g
    have g := f1_3; obtain ⟨c1_3_0, c1_3_1, c1_3_2, c1_3_3⟩ := g
    have g := f2_3; obtain ⟨c2_3_0, c2_3_1⟩ := g
    have g := f3_3; obtain ⟨c3_3_0, c3_3_1⟩ := g
    go_wp2_with fail
    refine (cont_of _ _ _ _ _ _ _ _ HN).mono ?_
    rintro e w4 ⟨rfl, hb4⟩
    have hq4 := below_keep hb4 (hq3)
    have f0_4 : at4 w4 (w.heap.size) a b c d := at4_keep hb4 (f0_3)
    have f1_4 : at4 w4 (w.heap.size + 1) x y z u := at4_keep hb4 (f1_3)
    have f2_4 : at2 w4 (w1.heap.size) a b := at2_keep hb4 (f2_3)
    have f3_4 : at2 w4 (w1.heap.size + 1) c d := at2_keep hb4 (f3_3)
    clear f0_3 c0_3_0 c0_3_1 c0_3_2 c0_3_3
    clear f1_3 c1_3_0 c1_3_1 c1_3_2 c1_3_3
    clear f2_3 c2_3_0 c2_3_1
    clear f3_3 c3_3_0 c3_3_1
    have g := f0_4; obtain ⟨c0_4_0, c0_4_1, c0_4_2, c0_4_3⟩ := g
    have g := f1_4; obtain ⟨c1_4_0, c1_4_1, c1_4_2, c1_4_3⟩ := g
    have g := f2_4; obtain ⟨c2_4_0, c2_4_1⟩ := g
    have g := f3_4; obtain ⟨c3_4_0, c3_4_1⟩ := g
    go_wp2
    go_ret
    exact ⟨ret_bool HV.out.symm, hq4⟩

theorem insd_of (a b c d x y z u : Int) (v : Bool) (w : World) (hv : Hid (insd a b c d x y z u = v)) :
    Calls Try.prog 18 #[.agg #[.int .i64 a, .int .i64 b, .int .i64 c, .int .i64 d], .agg #[.int .i64 x, .int .i64 y, .int .i64 z, .int .i64 u]] w fun e w' => e = .returned (.bool v) ∧ Below w.heap.size w w' := by
  have := insd_any a b c d x y z u w
  rw [hv.out] at this
  exact this

theorem rinsd_any (a b c d x y z u : Int) (w : World) :
    Calls Try.prog 19 #[.agg #[.int .i64 a, .int .i64 b, .int .i64 c, .int .i64 d], .agg #[.int .i64 x, .int .i64 y, .int .i64 z, .int .i64 u]] w fun e w' => e = .returned (.bool (insd a b c d x y z u)) ∧ Below w.heap.size w w' := by
  obtain ⟨v, hv⟩ : ∃ v, bvld a b c d = v := ⟨_, rfl⟩
  obtain ⟨m, hm⟩ : ∃ v, cont x y z u a b = v := ⟨_, rfl⟩
  obtain ⟨n, hn⟩ : ∃ v, cont x y z u c d = v := ⟨_, rfl⟩
  have HV : Hid (insd a b c d x y z u = (v && m && n)) := Lib.hid (by unfold insd; rw [hv, hm, hn])
  have HB := Lib.hid hv
  have HM := Lib.hid hm
  have HN := Lib.hid hn
  clear hv hm hn
  cases v
  ·
    go_enter Try.func19, Try.ntmps19
    go_wp2_with fail
    refine (rvalid_of _ _ _ _ _ _ HB).mono ?_
    rintro e w1 ⟨rfl, hb1⟩
    have hq1 := below_keep hb1 (al2 ..)
    have f0_1 : at4 w1 (w.heap.size) a b c d := by simpa using at4_keep hb1 (at4_keep (al1 ..) (at4_new w a b c d 23))
    have f1_1 : at4 w1 (w.heap.size + 1) x y z u := by simpa using at4_keep hb1 (at4_new (w.alloc (.cells #[.int .i64 a, .int .i64 b, .int .i64 c, .int .i64 d] 23)) x y z u 23)
    have g := f0_1; obtain ⟨c0_1_0, c0_1_1, c0_1_2, c0_1_3⟩ := g
    have g := f1_1; obtain ⟨c1_1_0, c1_1_1, c1_1_2, c1_1_3⟩ := g
    go_wp2
    go_ret
    exact ⟨ret_bool HV.out.symm, hq1⟩
  cases m
  ·
    go_enter Try.func19, Try.ntmps19
    go_wp2_with fail
    refine (rvalid_of _ _ _ _ _ _ HB).mono ?_
    rintro e w1 ⟨rfl, hb1⟩
    have hq1 := below_keep hb1 (al2 ..)
    have f0_1 : at4 w1 (w.heap.size) a b c d := by simpa using at4_keep hb1 (at4_keep (al1 ..) (at4_new w a b c d 23))
    have f1_1 : at4 w1 (w.heap.size + 1) x y z u := by simpa using at4_keep hb1 (at4_new (w.alloc (.cells #[.int .i64 a, .int .i64 b, .int .i64 c, .int .i64 d] 23)) x y z u 23)
    have g := f0_1; obtain ⟨c0_1_0, c0_1_1, c0_1_2, c0_1_3⟩ := g
    have g := f1_1; obtain ⟨c1_1_0, c1_1_1, c1_1_2, c1_1_3⟩ := g
    go_wp2_with fail
    refine (rcont_of _ _ _ _ _ _ _ _ HM).mono ?_
    rintro e w2 ⟨rfl, hb2⟩
    have hq2 := below_keep hb2 (hq1)
    have f0_2 : at4 w2 (w.heap.size) a b c d := at4_keep hb2 (f0_1)
    have f1_2 : at4 w2 (w.heap.size + 1) x y z u := at4_keep hb2 (f1_1)
    clear f0_1 c0_1_0 c0_1_1 c0_1_2 c0_1_3
    clear f1_1 c1_1_0 c1_1_1 c1_1_2 c1_1_3
    have g := f0_2; obtain ⟨c0_2_0, c0_2_1, c0_2_2, c0_2_3⟩ := g
    have g := f1_2; obtain ⟨c1_2_0, c1_2_1, c1_2_2, c1_2_3⟩ := g
    go_wp2
    go_ret
    exact ⟨ret_bool HV.out.symm, hq2⟩
  ·
    go_enter Try.func19, Try.ntmps19
    go_wp2_with fail
    refine (rvalid_of _ _ _ _ _ _ HB).mono ?_
    rintro e w1 ⟨rfl, hb1⟩
    have hq1 := below_keep hb1 (al2 ..)
    have f0_1 : at4 w1 (w.heap.size) a b c d := by simpa using at4_keep hb1 (at4_keep (al1 ..) (at4_new w a b c d 23))
    have f1_1 : at4 w1 (w.heap.size + 1) x y z u := by simpa using at4_keep hb1 (at4_new (w.alloc (.cells #[.int .i64 a, .int .i64 b, .int .i64 c, .int .i64 d] 23)) x y z u 23)
    have g := f0_1; obtain ⟨c0_1_0, c0_1_1, c0_1_2, c0_1_3⟩ := g
    have g := f1_1; obtain ⟨c1_1_0, c1_1_1, c1_1_2, c1_1_3⟩ := g
    go_wp2_with fail
    refine (rcont_of _ _ _ _ _ _ _ _ HM).mono ?_
    rintro e w2 ⟨rfl, hb2⟩
    have hq2 := below_keep hb2 (hq1)
    have f0_2 : at4 w2 (w.heap.size) a b c d := at4_keep hb2 (f0_1)
    have f1_2 : at4 w2 (w.heap.size + 1) x y z u := at4_keep hb2 (f1_1)
    clear f0_1 c0_1_0 c0_1_1 c0_1_2 c0_1_3
    clear f1_1 c1_1_0 c1_1_1 c1_1_2 c1_1_3
    have g := f0_2; obtain ⟨c0_2_0, c0_2_1, c0_2_2, c0_2_3⟩ := g
    have g := f1_2; obtain ⟨c1_2_0, c1_2_1, c1_2_2, c1_2_3⟩ := g
    go_wp2_with fail
    refine (rcont_of _ _ _ _ _ _ _ _ HN).mono ?_
    rintro e w3 ⟨rfl, hb3⟩
    have hq3 := below_keep hb3 (hq2)
    have f0_3 : at4 w3 (w.heap.size) a b c d := at4_keep hb3 (f0_2)
    have f1_3 : at4 w3 (w.heap.size + 1) x y z u := at4_keep hb3 (f1_2)
    clear f0_2 c0_2_0 c0_2_1 c0_2_2 c0_2_3
    clear f1_2 c1_2_0 c1_2_1 c1_2_2 c1_2_3
    have g := f0_3; obtain ⟨c0_3_0, c0_3_1, c0_3_2, c0_3_3⟩ := g
    have g := f1_3; obtain ⟨c1_3_0, c1_3_1, c1_3_2, c1_3_3⟩ := g
    go_wp2
    go_ret
    exact ⟨ret_bool HV.out.symm, hq3⟩

theorem rinsd_of (a b c d x y z u : Int) (v : Bool) (w : World) (hv : Hid (insd a b c d x y z u = v)) :
    Calls Try.prog 19 #[.agg #[.int .i64 a, .int .i64 b, .int .i64 c, .int .i64 d], .agg #[.int .i64 x, .int .i64 y, .int .i64 z, .int .i64 u]] w fun e w' => e = .returned (.bool v) ∧ Below w.heap.size w w' := by
  have := rinsd_any a b c d x y z u w
  rw [hv.out] at this
  exact this

theorem inr_of (x y z u : Int) (v : Bool) (w : World) (hv : Hid (inr x y z u = v)) :
    Calls Try.prog 37 #[.agg #[.int .i64 x, .int .i64 y, .int .i64 z, .int .i64 u]] w fun e w' => e = .returned (.bool v) ∧ Below w.heap.size w w' := by
  have := hasInterior_any x y z u w
  rw [hv.out] at this
  exact this

theorem ovl_any (a b c d x y z u : Int) (w : World) :
    Calls Try.prog 20 #[.agg #[.int .i64 a, .int .i64 b, .int .i64 c, .int .i64 d], .agg #[.int .i64 x, .int .i64 y, .int .i64 z, .int .i64 u]] w fun e w' => e = .returned (.bool (ovl a b c d x y z u)) ∧ Below w.heap.size w w' := by
  obtain ⟨v, hv⟩ : ∃ v, bvld a b c d = v := ⟨_, rfl⟩
  obtain ⟨m, hm⟩ : ∃ v, bvld x y z u = v := ⟨_, rfl⟩
  obtain ⟨n, hn⟩ : ∃ v, inr (max a x) (max b y) (min c z) (min d u) = v := ⟨_, rfl⟩
  have HV : Hid (ovl a b c d x y z u = (v && m && n)) := Lib.hid (by unfold ovl; rw [hv, hm, hn])
  have HB := Lib.hid hv
  have HM := Lib.hid hm
  have HN := Lib.hid hn
  clear hv hm hn
  cases v
  ·
    go_enter Try.func20, Try.ntmps20
    go_wp2_with fail
    refine (bvalid_of _ _ _ _ _ _ HB).mono ?_
    rintro e w1 ⟨rfl, hb1⟩
    have hq1 := below_keep hb1 (al3 ..)
    have f0_1 : at4 w1 (w.heap.size) a b c d := by simpa using at4_keep hb1 (at4_keep (al2 ..) (at4_new w a b c d 23))
    have f1_1 : at4 w1 (w.heap.size + 1) x y z u := by simpa using at4_keep hb1 (at4_keep (al1 ..) (at4_new (w.alloc (.cells #[.int .i64 a, .int .i64 b, .int .i64 c, .int .i64 d] 23)) x y z u 23))
    have f2_1 : at4 w1 (w.heap.size + 1 + 1) (max a x) (max b y) (min c z) (min d u) := by simpa using at4_keep hb1 (at4_new ((w.alloc (.cells #[.int .i64 a, .int .i64 b, .int .i64 c, .int .i64 d] 23)).alloc (.cells #[.int .i64 x, .int .i64 y, .int .i64 z, .int .i64 u] 23)) (max a x) (max b y) (min c z) (min d u) 23)
    have g := f0_1; obtain ⟨c0_1_0, c0_1_1, c0_1_2, c0_1_3⟩ := g
    have g := f1_1; obtain ⟨c1_1_0, c1_1_1, c1_1_2, c1_1_3⟩ := g
    have g := f2_1; obtain ⟨c2_1_0, c2_1_1, c2_1_2, c2_1_3⟩ := g
    go_wp2
    go_ret
    exact ⟨ret_bool HV.out.symm, hq1⟩
  cases m
  ·
    go_enter Try.func20, Try.ntmps20
    go_wp2_with fail
    refine (bvalid_of _ _ _ _ _ _ HB).mono ?_
    rintro e w1 ⟨rfl, hb1⟩
    have hq1 := below_keep hb1 (al3 ..)
    have f0_1 : at4 w1 (w.heap.size) a b c d := by simpa using at4_keep hb1 (at4_keep (al2 ..) (at4_new w a b c d 23))
    have f1_1 : at4 w1 (w.heap.size + 1) x y z u := by simpa using at4_keep hb1 (at4_keep (al1 ..) (at4_new (w.alloc (.cells #[.int .i64 a, .int .i64 b, .int .i64 c, .int .i64 d] 23)) x y z u 23))
    have f2_1 : at4 w1 (w.heap.size + 1 + 1) (max a x) (max b y) (min c z) (min d u) := by simpa using at4_keep hb1 (at4_new ((w.alloc (.cells #[.int .i64 a, .int .i64 b, .int .i64 c, .int .i64 d] 23)).alloc (.cells #[.int .i64 x, .int .i64 y, .int .i64 z, .int .i64 u] 23)) (max a x) (max b y) (min c z) (min d u) 23)
    have g := f0_1; obtain ⟨c0_1_0, c0_1_1, c0_1_2, c0_1_3⟩ := g
    have g := f1_1; obtain ⟨c1_1_0, c1_1_1, c1_1_2, c1_1_3⟩ := g
    have g := f2_1; obtain ⟨c2_1_0, c2_1_1, c2_1_2, c2_1_3⟩ := g
    go_wp2_with fail
    refine (bvalid_of _ _ _ _ _ _ HM).mono ?_
    rintro e w2 ⟨rfl, hb2⟩
    have hq2 := below_keep hb2 (hq1)
    have f0_2 : at4 w2 (w.heap.size) a b c d := at4_keep hb2 (f0_1)
    have f1_2 : at4 w2 (w.heap.size + 1) x y z u := at4_keep hb2 (f1_1)
    have f2_2 : at4 w2 (w.heap.size + 1 + 1) (max a x) (max b y) (min c z) (min d u) := at4_keep hb2 (f2_1)
    clear f0_1 c0_1_0 c0_1_1 c0_1_2 c0_1_3
    clear f1_1 c1_1_0 c1_1_1 c1_1_2 c1_1_3
    clear f2_1 c2_1_0 c2_1_1 c2_1_2 c2_1_3
    have g := f0_2; obtain ⟨c0_2_0, c0_2_1, c0_2_2, c0_2_3⟩ := g
    have g := f1_2; obtain ⟨c1_2_0, c1_2_1, c1_2_2, c1_2_3⟩ := g
    have g := f2_2; obtain ⟨c2_2_0, c2_2_1, c2_2_2, c2_2_3⟩ := g
    go_wp2
    go_ret
    exact ⟨ret_bool HV.out.symm, hq2⟩
  ·
    go_enter Try.func20, Try.ntmps20
    go_wp2_with fail
    refine (bvalid_of _ _ _ _ _ _ HB).mono ?_
    rintro e w1 ⟨rfl, hb1⟩
    have hq1 := below_keep hb1 (al3 ..)
    have f0_1 : at4 w1 (w.heap.size) a b c d := by simpa using at4_keep hb1 (at4_keep (al2 ..) (at4_new w a b c d 23))
    have f1_1 : at4 w1 (w.heap.size + 1) x y z u := by simpa using at4_keep hb1 (at4_keep (al1 ..) (at4_new (w.alloc (.cells #[.int .i64 a, .int .i64 b, .int .i64 c, .int .i64 d] 23)) x y z u 23))
    have f2_1 : at4 w1 (w.heap.size + 1 + 1) (max a x) (max b y) (min c z) (min d u) := by simpa using at4_keep hb1 (at4_new ((w.alloc (.cells #[.int .i64 a, .int .i64 b, .int .i64 c, .int .i64 d] 23)).alloc (.cells #[.int .i64 x, .int .i64 y, .int .i64 z, .int .i64 u] 23)) (max a x) (max b y) (min c z) (min d u) 23)
    have g := f0_1; obtain ⟨c0_1_0, c0_1_1, c0_1_2, c0_1_3⟩ := g
    have g := f1_1; obtain ⟨c1_1_0, c1_1_1, c1_1_2, c1_1_3⟩ := g
    have g := f2_1; obtain ⟨c2_1_0, c2_1_1, c2_1_2, c2_1_3⟩ := g
    go_wp2_with fail
    refine (bvalid_of _ _ _ _ _ _ HM).mono ?_
    rintro e w2 ⟨rfl, hb2⟩
    have hq2 := below_keep hb2 (hq1)
    have f0_2 : at4 w2 (w.heap.size) a b c d := at4_keep hb2 (f0_1)
    have f1_2 : at4 w2 (w.heap.size + 1) x y z u := at4_keep hb2 (f1_1)
    have f2_2 : at4 w2 (w.heap.size + 1 + 1) (max a x) (max b y) (min c z) (min d u) := at4_keep hb2 (f2_1)
    clear f0_1 c0_1_0 c0_1_1 c0_1_2 c0_1_3
    clear f1_1 c1_1_0 c1_1_1 c1_1_2 c1_1_3
    clear f2_1 c2_1_0 c2_1_1 c2_1_2 c2_1_3
    have g := f0_2; obtain ⟨c0_2_0, c0_2_1, c0_2_2, c0_2_3⟩ := g
    have g := f1_2; obtain ⟨c1_2_0, c1_2_1, c1_2_2, c1_2_3⟩ := g
    have g := f2_2; obtain ⟨c2_2_0, c2_2_1, c2_2_2, c2_2_3⟩ := g
    go_wp2_with fail
    refine (inr_of _ _ _ _ _ _ HN).mono ?_
    rintro e w3 ⟨rfl, hb3⟩
    have hq3 := below_keep hb3 (hq2)
    have f0_3 : at4 w3 (w.heap.size) a b c d := at4_keep hb3 (f0_2)
    have f1_3 : at4 w3 (w.heap.size + 1) x y z u := at4_keep hb3 (f1_2)
    have f2_3 : at4 w3 (w.heap.size + 1 + 1) (max a x) (max b y) (min c z) (min d u) := at4_keep hb3 (f2_2)
    clear f0_2 c0_2_0 c0_2_1 c0_2_2 c0_2_3
    clear f1_2 c1_2_0 c1_2_1 c1_2_2 c1_2_3
    clear f2_2 c2_2_0 c2_2_1 c2_2_2 c2_2_3
    have g := f0_3; obtain ⟨c0_3_0, c0_3_1, c0_3_2, c0_3_3⟩ := g
    have g := f1_3; obtain ⟨c1_3_0, c1_3_1, c1_3_2, c1_3_3⟩ := g
    have g := f2_3; obtain ⟨c2_3_0, c2_3_1, c2_3_2, c2_3_3⟩ := g
    go_wp2
    go_ret
    exact ⟨ret_bool HV.out.symm, hq3⟩

theorem ovl_of (a b c d x y z u : Int) (v : Bool) (w : World) (hv : Hid (ovl a b c d x y z u = v)) :
    Calls Try.prog 20 #[.agg #[.int .i64 a, .int .i64 b, .int .i64 c, .int .i64 d], .agg #[.int .i64 x, .int .i64 y, .int .i64 z, .int .i64 u]] w fun e w' => e = .returned (.bool v) ∧ Below w.heap.size w w' := by
  have := ovl_any a b c d x y z u w
  rw [hv.out] at this
  exact this

theorem rovl_any (a b c d x y z u : Int) (w : World) :
    Calls Try.prog 21 #[.agg #[.int .i64 a, .int .i64 b, .int .i64 c, .int .i64 d], .agg #[.int .i64 x, .int .i64 y, .int .i64 z, .int .i64 u]] w fun e w' => e = .returned (.bool (ovl a b c d x y z u)) ∧ Below w.heap.size w w' := by
  obtain ⟨v, hv⟩ : ∃ v, bvld a b c d = v := ⟨_, rfl⟩
  obtain ⟨m, hm⟩ : ∃ v, bvld x y z u = v := ⟨_, rfl⟩
  obtain ⟨n, hn⟩ : ∃ v, inr (max a x) (max b y) (min c z) (min d u) = v := ⟨_, rfl⟩
  have HV : Hid (ovl a b c d x y z u = (v && m && n)) := Lib.hid (by unfold ovl; rw [hv, hm, hn])
  have HB := Lib.hid hv
  have HM := Lib.hid hm
  have HN := Lib.hid hn
  clear hv hm hn
  cases v
  ·
    go_enter Try.func21, Try.ntmps21
    go_wp2_with fail
    refine (rvalid_of _ _ _ _ _ _ HB).mono ?_
    rintro e w1 ⟨rfl, hb1⟩
    have hq1 := below_keep hb1 (al2 ..)
    have f0_1 : at4 w1 (w.heap.size) a b c d := by simpa using at4_keep hb1 (at4_keep (al1 ..) (at4_new w a b c d 23))
    have f1_1 : at4 w1 (w.heap.size + 1) x y z u := by simpa using at4_keep hb1 (at4_new (w.alloc (.cells #[.int .i64 a, .int .i64 b, .int .i64 c, .int .i64 d] 23)) x y z u 23)
    have g := f0_1; obtain ⟨c0_1_0, c0_1_1, c0_1_2, c0_1_3⟩ := g
    have g := f1_1; obtain ⟨c1_1_0, c1_1_1, c1_1_2, c1_1_3⟩ := g
    go_wp2
    go_ret
    exact ⟨ret_bool HV.out.symm, hq1⟩
  cases m
  ·
    go_enter Try.func21, Try.ntmps21
    go_wp2_with fail
    refine (rvalid_of _ _ _ _ _ _ HB).mono ?_
    rintro e w1 ⟨rfl, hb1⟩
    have hq1 := below_keep hb1 (al2 ..)
    have f0_1 : at4 w1 (w.heap.size) a b c d := by simpa using at4_keep hb1 (at4_keep (al1 ..) (at4_new w a b c d 23))
    have f1_1 : at4 w1 (w.heap.size + 1) x y z u := by simpa using at4_keep hb1 (at4_new (w.alloc (.cells #[.int .i64 a, .int .i64 b, .int .i64 c, .int .i64 d] 23)) x y z u 23)
    have g := f0_1; obtain ⟨c0_1_0, c0_1_1, c0_1_2, c0_1_3⟩ := g
    have g := f1_1; obtain ⟨c1_1_0, c1_1_1, c1_1_2, c1_1_3⟩ := g
    go_wp2_with fail
    refine (rvalid_of _ _ _ _ _ _ HM).mono ?_
    rintro e w2 ⟨rfl, hb2⟩
    have hq2 := below_keep hb2 (hq1)
    have f0_2 : at4 w2 (w.heap.size) a b c d := at4_keep hb2 (f0_1)
    have f1_2 : at4 w2 (w.heap.size + 1) x y z u := at4_keep hb2 (f1_1)
    clear f0_1 c0_1_0 c0_1_1 c0_1_2 c0_1_3
    clear f1_1 c1_1_0 c1_1_1 c1_1_2 c1_1_3
    have g := f0_2; obtain ⟨c0_2_0, c0_2_1, c0_2_2, c0_2_3⟩ := g
    have g := f1_2; obtain ⟨c1_2_0, c1_2_1, c1_2_2, c1_2_3⟩ := g
    go_wp2
    go_ret
    exact ⟨ret_bool HV.out.symm, hq2⟩
  ·
    go_enter Try.func21, Try.ntmps21
    go_wp2_with fail
    refine (rvalid_of _ _ _ _ _ _ HB).mono ?_
    rintro e w2 ⟨rfl, hb2⟩
    obtain ⟨hc2, hf2⟩ := bcell hb2
    go_wp2_with fail
    refine (rvalid_of _ _ _ _ _ _ HM).mono ?_
    rintro e w3 ⟨rfl, hb3⟩
    have hb4 : Below w.heap.size w w3 := below_keep hb3 (below_keep hb2 (al2 ..))
    obtain ⟨k0, k1, k2, k3⟩ := at4_keep (below_keep hb3 hb2) (at4_keep (al1 ..) (at4_new w a b c d 23))
    obtain ⟨k4, k5, k6, k7⟩ := at4_keep (below_keep hb3 hb2) (at4_new (w.alloc (.cells #[.int .i64 a, .int .i64 b, .int .i64 c, .int .i64 d] 23)) x y z u 23)
    simp at k4 k5 k6 k7
    have HI := HN.out
    rw [Bool.eq_iff_iff, inr_iff] at HI
    have HJ := Lib.hid HI
    clear HI hb2 hb3 hc2 hf2
    go_wp2
    all_goals go_ret
    all_goals refine ⟨ret_bool ?_, hb4⟩
    all_goals (rw [HV.out, Bool.eq_iff_iff, Bool.true_and, Bool.true_and, ← HJ.out]; simp; omega)

theorem rovl_of (a b c d x y z u : Int) (v : Bool) (w : World) (hv : Hid (ovl a b c d x y z u = v)) :
    Calls Try.prog 21 #[.agg #[.int .i64 a, .int .i64 b, .int .i64 c, .int .i64 d], .agg #[.int .i64 x, .int .i64 y, .int .i64 z, .int .i64 u]] w fun e w' => e = .returned (.bool v) ∧ Below w.heap.size w w' := by
  have := rovl_any a b c d x y z u w
  rw [hv.out] at this
  exact this

end Go.Proofs.Ytifliljlacmmlaa
