/-
  BoxStrikes: for every box and segment, the statement returns true. No condition.
-/
import Derived.Test.YtifliljlacmmlaaBoxFrame
import Derived.Test.YtifliljlacmmlaaBoxAwake
import Derived.Deep.RegionHeld3
import Derived.Deep.DeepCutAuto
import Derived.Deep.CutBlock
namespace Go.Proofs.Ytifliljlacmmlaa.lstrikes
open Go.ChangeShapes Go.WideShapes Go.ChangeAt Go.RowKit

set_option maxHeartbeats 4000000 in
theorem bad1 (x y z u a1 a2 b1 b2 : Int) (w : World) (HP : Hid (bvld x y z u = false)) :
    Calls Try.prog 8 #[.agg #[.int .i64 x, .int .i64 y, .int .i64 z, .int .i64 u], .agg #[.int .i64 a1, .int .i64 a2, .int .i64 b1, .int .i64 b2]] w fun e w' => e = .returned (.bool true) ∧ Below w.heap.size w w' := by
  have HV : Hid (hits x y z u a1 a2 b1 b2 = false) := Lib.hid (by unfold hits; rw [HP.out]; simp)
  go_enter Try.func8, Try.ntmps8
  go_wp2_with fail
  refine (rvalid_of _ _ _ _ _ _ HP).mono ?_
  rintro e w1 ⟨rfl, hb1⟩
  have hq1 := below_keep hb1 (al2 ..)
  have f0_1 : at4 w1 (w.heap.size) x y z u := by simpa using at4_keep hb1 (at4_keep (al1 ..) (at4_new w x y z u 23))
  have f1_1 : at4 w1 (w.heap.size + 1) a1 a2 b1 b2 := by simpa using at4_keep hb1 (at4_new (w.alloc (.cells #[.int .i64 x, .int .i64 y, .int .i64 z, .int .i64 u] 23)) a1 a2 b1 b2 42)
  have g := f0_1; obtain ⟨c0_1_0, c0_1_1, c0_1_2, c0_1_3⟩ := g
  have g := f1_1; obtain ⟨c1_1_0, c1_1_1, c1_1_2, c1_1_3⟩ := g
  go_wp2_with fail
  refine (hits_of _ _ _ _ _ _ _ _ _ _ HV).mono ?_
  rintro e w2 ⟨rfl, hb2⟩
  have hq2 := below_keep hb2 (hq1)
  have f0_2 : at4 w2 (w.heap.size) x y z u := at4_keep hb2 (f0_1)
  have f1_2 : at4 w2 (w.heap.size + 1) a1 a2 b1 b2 := at4_keep hb2 (f1_1)
  clear f0_1 c0_1_0 c0_1_1 c0_1_2 c0_1_3
  clear f1_1 c1_1_0 c1_1_1 c1_1_2 c1_1_3
  have g := f0_2; obtain ⟨c0_2_0, c0_2_1, c0_2_2, c0_2_3⟩ := g
  have g := f1_2; obtain ⟨c1_2_0, c1_2_1, c1_2_2, c1_2_3⟩ := g
  go_wp2_with fail
  refine (awake_any _).mono ?_
  rintro e w3 ⟨rfl, hb3⟩
  have hq3 := below_keep hb3 (hq2)
  have f0_3 : at4 w3 (w.heap.size) x y z u := at4_keep hb3 (f0_2)
  have f1_3 : at4 w3 (w.heap.size + 1) a1 a2 b1 b2 := at4_keep hb3 (f1_2)
  clear f0_2 c0_2_0 c0_2_1 c0_2_2 c0_2_3
  clear f1_2 c1_2_0 c1_2_1 c1_2_2 c1_2_3
  have g := f0_3; obtain ⟨c0_3_0, c0_3_1, c0_3_2, c0_3_3⟩ := g
  have g := f1_3; obtain ⟨c1_3_0, c1_3_1, c1_3_2, c1_3_3⟩ := g
  go_wp2
  go_ret
  exact ⟨rfl, hq3⟩

set_option maxHeartbeats 4000000 in
theorem bad2 (x y z u a1 a2 b1 b2 : Int) (w : World) (HP : Hid (bvld x y z u = true)) (HR : Hid (vld a1 a2 = false)) :
    Calls Try.prog 8 #[.agg #[.int .i64 x, .int .i64 y, .int .i64 z, .int .i64 u], .agg #[.int .i64 a1, .int .i64 a2, .int .i64 b1, .int .i64 b2]] w fun e w' => e = .returned (.bool true) ∧ Below w.heap.size w w' := by
  have HV : Hid (hits x y z u a1 a2 b1 b2 = false) := Lib.hid (by unfold hits; rw [HR.out]; simp)
  go_enter Try.func8, Try.ntmps8
  go_wp2_with fail
  refine (rvalid_of _ _ _ _ _ _ HP).mono ?_
  rintro e w1 ⟨rfl, hb1⟩
  have hq1 := below_keep hb1 (al2 ..)
  have f0_1 : at4 w1 (w.heap.size) x y z u := by simpa using at4_keep hb1 (at4_keep (al1 ..) (at4_new w x y z u 23))
  have f1_1 : at4 w1 (w.heap.size + 1) a1 a2 b1 b2 := by simpa using at4_keep hb1 (at4_new (w.alloc (.cells #[.int .i64 x, .int .i64 y, .int .i64 z, .int .i64 u] 23)) a1 a2 b1 b2 42)
  have g := f0_1; obtain ⟨c0_1_0, c0_1_1, c0_1_2, c0_1_3⟩ := g
  have g := f1_1; obtain ⟨c1_1_0, c1_1_1, c1_1_2, c1_1_3⟩ := g
  go_wp2_with fail
  refine (point_of _ _ _ _ HR).mono ?_
  rintro e w2 ⟨rfl, hb2⟩
  have hq2 := below_keep hb2 (hq1)
  have f0_2 : at4 w2 (w.heap.size) x y z u := at4_keep hb2 (f0_1)
  have f1_2 : at4 w2 (w.heap.size + 1) a1 a2 b1 b2 := at4_keep hb2 (f1_1)
  clear f0_1 c0_1_0 c0_1_1 c0_1_2 c0_1_3
  clear f1_1 c1_1_0 c1_1_1 c1_1_2 c1_1_3
  have g := f0_2; obtain ⟨c0_2_0, c0_2_1, c0_2_2, c0_2_3⟩ := g
  have g := f1_2; obtain ⟨c1_2_0, c1_2_1, c1_2_2, c1_2_3⟩ := g
  go_wp2_with fail
  refine (hits_of _ _ _ _ _ _ _ _ _ _ HV).mono ?_
  rintro e w3 ⟨rfl, hb3⟩
  have hq3 := below_keep hb3 (hq2)
  have f0_3 : at4 w3 (w.heap.size) x y z u := at4_keep hb3 (f0_2)
  have f1_3 : at4 w3 (w.heap.size + 1) a1 a2 b1 b2 := at4_keep hb3 (f1_2)
  clear f0_2 c0_2_0 c0_2_1 c0_2_2 c0_2_3
  clear f1_2 c1_2_0 c1_2_1 c1_2_2 c1_2_3
  have g := f0_3; obtain ⟨c0_3_0, c0_3_1, c0_3_2, c0_3_3⟩ := g
  have g := f1_3; obtain ⟨c1_3_0, c1_3_1, c1_3_2, c1_3_3⟩ := g
  go_wp2_with fail
  refine (awake_any _).mono ?_
  rintro e w4 ⟨rfl, hb4⟩
  have hq4 := below_keep hb4 (hq3)
  have f0_4 : at4 w4 (w.heap.size) x y z u := at4_keep hb4 (f0_3)
  have f1_4 : at4 w4 (w.heap.size + 1) a1 a2 b1 b2 := at4_keep hb4 (f1_3)
  clear f0_3 c0_3_0 c0_3_1 c0_3_2 c0_3_3
  clear f1_3 c1_3_0 c1_3_1 c1_3_2 c1_3_3
  have g := f0_4; obtain ⟨c0_4_0, c0_4_1, c0_4_2, c0_4_3⟩ := g
  have g := f1_4; obtain ⟨c1_4_0, c1_4_1, c1_4_2, c1_4_3⟩ := g
  go_wp2
  go_ret
  exact ⟨rfl, hq4⟩

set_option maxHeartbeats 4000000 in
theorem bad3 (x y z u a1 a2 b1 b2 : Int) (w : World) (HP : Hid (bvld x y z u = true)) (HR : Hid (vld a1 a2 = true)) (HS : Hid (vld b1 b2 = false)) :
    Calls Try.prog 8 #[.agg #[.int .i64 x, .int .i64 y, .int .i64 z, .int .i64 u], .agg #[.int .i64 a1, .int .i64 a2, .int .i64 b1, .int .i64 b2]] w fun e w' => e = .returned (.bool true) ∧ Below w.heap.size w w' := by
  have HV : Hid (hits x y z u a1 a2 b1 b2 = false) := Lib.hid (by unfold hits; rw [HS.out]; simp)
  go_enter Try.func8, Try.ntmps8
  go_wp2_with fail
  refine (rvalid_of _ _ _ _ _ _ HP).mono ?_
  rintro e w1 ⟨rfl, hb1⟩
  have hq1 := below_keep hb1 (al2 ..)
  have f0_1 : at4 w1 (w.heap.size) x y z u := by simpa using at4_keep hb1 (at4_keep (al1 ..) (at4_new w x y z u 23))
  have f1_1 : at4 w1 (w.heap.size + 1) a1 a2 b1 b2 := by simpa using at4_keep hb1 (at4_new (w.alloc (.cells #[.int .i64 x, .int .i64 y, .int .i64 z, .int .i64 u] 23)) a1 a2 b1 b2 42)
  have g := f0_1; obtain ⟨c0_1_0, c0_1_1, c0_1_2, c0_1_3⟩ := g
  have g := f1_1; obtain ⟨c1_1_0, c1_1_1, c1_1_2, c1_1_3⟩ := g
  go_wp2_with fail
  refine (point_of _ _ _ _ HR).mono ?_
  rintro e w2 ⟨rfl, hb2⟩
  have hq2 := below_keep hb2 (hq1)
  have f0_2 : at4 w2 (w.heap.size) x y z u := at4_keep hb2 (f0_1)
  have f1_2 : at4 w2 (w.heap.size + 1) a1 a2 b1 b2 := at4_keep hb2 (f1_1)
  clear f0_1 c0_1_0 c0_1_1 c0_1_2 c0_1_3
  clear f1_1 c1_1_0 c1_1_1 c1_1_2 c1_1_3
  have g := f0_2; obtain ⟨c0_2_0, c0_2_1, c0_2_2, c0_2_3⟩ := g
  have g := f1_2; obtain ⟨c1_2_0, c1_2_1, c1_2_2, c1_2_3⟩ := g
  go_wp2_with fail
  refine (point_of _ _ _ _ HS).mono ?_
  rintro e w3 ⟨rfl, hb3⟩
  have hq3 := below_keep hb3 (hq2)
  have f0_3 : at4 w3 (w.heap.size) x y z u := at4_keep hb3 (f0_2)
  have f1_3 : at4 w3 (w.heap.size + 1) a1 a2 b1 b2 := at4_keep hb3 (f1_2)
  clear f0_2 c0_2_0 c0_2_1 c0_2_2 c0_2_3
  clear f1_2 c1_2_0 c1_2_1 c1_2_2 c1_2_3
  have g := f0_3; obtain ⟨c0_3_0, c0_3_1, c0_3_2, c0_3_3⟩ := g
  have g := f1_3; obtain ⟨c1_3_0, c1_3_1, c1_3_2, c1_3_3⟩ := g
  go_wp2_with fail
  refine (hits_of _ _ _ _ _ _ _ _ _ _ HV).mono ?_
  rintro e w4 ⟨rfl, hb4⟩
  have hq4 := below_keep hb4 (hq3)
  have f0_4 : at4 w4 (w.heap.size) x y z u := at4_keep hb4 (f0_3)
  have f1_4 : at4 w4 (w.heap.size + 1) a1 a2 b1 b2 := at4_keep hb4 (f1_3)
  clear f0_3 c0_3_0 c0_3_1 c0_3_2 c0_3_3
  clear f1_3 c1_3_0 c1_3_1 c1_3_2 c1_3_3
  have g := f0_4; obtain ⟨c0_4_0, c0_4_1, c0_4_2, c0_4_3⟩ := g
  have g := f1_4; obtain ⟨c1_4_0, c1_4_1, c1_4_2, c1_4_3⟩ := g
  go_wp2_with fail
  refine (awake_any _).mono ?_
  rintro e w5 ⟨rfl, hb5⟩
  have hq5 := below_keep hb5 (hq4)
  have f0_5 : at4 w5 (w.heap.size) x y z u := at4_keep hb5 (f0_4)
  have f1_5 : at4 w5 (w.heap.size + 1) a1 a2 b1 b2 := at4_keep hb5 (f1_4)
  clear f0_4 c0_4_0 c0_4_1 c0_4_2 c0_4_3
  clear f1_4 c1_4_0 c1_4_1 c1_4_2 c1_4_3
  have g := f0_5; obtain ⟨c0_5_0, c0_5_1, c0_5_2, c0_5_3⟩ := g
  have g := f1_5; obtain ⟨c1_5_0, c1_5_1, c1_5_2, c1_5_3⟩ := g
  go_wp2
  go_ret
  exact ⟨rfl, hq5⟩

set_option maxRecDepth 100000 in
set_option maxHeartbeats 4000000 in
theorem no (x y z u a1 a2 b1 b2 : Int) (w : World) (HP : Hid (bvld x y z u = true)) (HR : Hid (vld a1 a2 = true)) (HS : Hid (vld b1 b2 = true)) (HV : Hid (hits x y z u a1 a2 b1 b2 = false)) (hc : Hid ((a1 ≤ x) ∨ (x < a1 ∧ z ≤ a1) ∨ (x < a1 ∧ a1 < z ∧ a2 ≤ y) ∨ (x < a1 ∧ a1 < z ∧ y < a2 ∧ u ≤ a2))) :
    Calls Try.prog 8 #[.agg #[.int .i64 x, .int .i64 y, .int .i64 z, .int .i64 u], .agg #[.int .i64 a1, .int .i64 a2, .int .i64 b1, .int .i64 b2]] w fun e w' => e = .returned (.bool true) ∧ Below w.heap.size w w' := by
  go_enter Try.func8, Try.ntmps8
  go_wp2_with fail
  refine (rvalid_of _ _ _ _ _ _ HP).mono ?_
  rintro e w1 ⟨rfl, hb1⟩
  have hq1 := below_keep hb1 (al2 ..)
  have f0_1 : at4 w1 (w.heap.size) x y z u := by simpa using at4_keep hb1 (at4_keep (al1 ..) (at4_new w x y z u 23))
  have f1_1 : at4 w1 (w.heap.size + 1) a1 a2 b1 b2 := by simpa using at4_keep hb1 (at4_new (w.alloc (.cells #[.int .i64 x, .int .i64 y, .int .i64 z, .int .i64 u] 23)) a1 a2 b1 b2 42)
  have g := f0_1; obtain ⟨c0_1_0, c0_1_1, c0_1_2, c0_1_3⟩ := g
  have g := f1_1; obtain ⟨c1_1_0, c1_1_1, c1_1_2, c1_1_3⟩ := g
  go_wp2_with fail
  refine (point_of _ _ _ _ HR).mono ?_
  rintro e w2 ⟨rfl, hb2⟩
  have hq2 := below_keep hb2 (hq1)
  have f0_2 : at4 w2 (w.heap.size) x y z u := at4_keep hb2 (f0_1)
  have f1_2 : at4 w2 (w.heap.size + 1) a1 a2 b1 b2 := at4_keep hb2 (f1_1)
  clear f0_1 c0_1_0 c0_1_1 c0_1_2 c0_1_3
  clear f1_1 c1_1_0 c1_1_1 c1_1_2 c1_1_3
  have g := f0_2; obtain ⟨c0_2_0, c0_2_1, c0_2_2, c0_2_3⟩ := g
  have g := f1_2; obtain ⟨c1_2_0, c1_2_1, c1_2_2, c1_2_3⟩ := g
  go_wp2_with fail
  refine (point_of _ _ _ _ HS).mono ?_
  rintro e w3 ⟨rfl, hb3⟩
  have hq3 := below_keep hb3 (hq2)
  have f0_3 : at4 w3 (w.heap.size) x y z u := at4_keep hb3 (f0_2)
  have f1_3 : at4 w3 (w.heap.size + 1) a1 a2 b1 b2 := at4_keep hb3 (f1_2)
  clear f0_2 c0_2_0 c0_2_1 c0_2_2 c0_2_3
  clear f1_2 c1_2_0 c1_2_1 c1_2_2 c1_2_3
  have g := f0_3; obtain ⟨c0_3_0, c0_3_1, c0_3_2, c0_3_3⟩ := g
  have g := f1_3; obtain ⟨c1_3_0, c1_3_1, c1_3_2, c1_3_3⟩ := g
  go_wp2_with fail
  refine (hits_of _ _ _ _ _ _ _ _ _ _ HV).mono ?_
  rintro e w4 ⟨rfl, hb4⟩
  have hq4 := below_keep hb4 (hq3)
  have f0_4 : at4 w4 (w.heap.size) x y z u := at4_keep hb4 (f0_3)
  have f1_4 : at4 w4 (w.heap.size + 1) a1 a2 b1 b2 := at4_keep hb4 (f1_3)
  clear f0_3 c0_3_0 c0_3_1 c0_3_2 c0_3_3
  clear f1_3 c1_3_0 c1_3_1 c1_3_2 c1_3_3
  have g := f0_4; obtain ⟨c0_4_0, c0_4_1, c0_4_2, c0_4_3⟩ := g
  have g := f1_4; obtain ⟨c1_4_0, c1_4_1, c1_4_2, c1_4_3⟩ := g
  go_upto_region 4 with (fail)
  go_cut [65] (fun s wx => s = .bool false ∧ w4 = wx)
  case first =>
    rcases hc.out with g1 | ⟨g1, g2⟩ | ⟨g1, g2, g3⟩ | ⟨g1, g2, g3, g4⟩
    all_goals
      go_wp2_with fail
      go_meet
      exact ⟨rfl, rfl⟩
  case rest =>
    obtain ⟨rfl, rfl⟩ := hcut
    go_upto_region 6 with (fail)
    go_cut [6] (fun s wx => ∃ b : Bool, s = .bool b ∧ w4 = wx)
    case first =>
      go_wp2_with fail
      all_goals (go_meet; exact ⟨_, rfl, rfl⟩)
    case rest =>
      obtain ⟨b, rfl, rfl⟩ := hcut
      go_wp2_with (go_at_call 15; refine (awake_any _).mono ?_; rintro e w5 ⟨rfl, hb5⟩)
      all_goals go_ret
      all_goals exact ⟨rfl, below_keep hb5 hq4⟩

set_option maxHeartbeats 4000000 in
theorem yes (x y z u a1 a2 b1 b2 : Int) (w : World) (HP : Hid (bvld x y z u = true)) (HR : Hid (vld a1 a2 = true)) (HS : Hid (vld b1 b2 = true)) (HV : Hid (hits x y z u a1 a2 b1 b2 = true)) (m1 m2 m3 m4 : Int) (hm1 : max a1 b1 = m1) (hm2 : min a1 b1 = m2) (hm3 : max a2 b2 = m3) (hm4 : min a2 b2 = m4) (h1 : x < m1) (h2 : m2 < z) (h3 : y < m3) (h4 : m4 < u) :
    Calls Try.prog 8 #[.agg #[.int .i64 x, .int .i64 y, .int .i64 z, .int .i64 u], .agg #[.int .i64 a1, .int .i64 a2, .int .i64 b1, .int .i64 b2]] w fun e w' => e = .returned (.bool true) ∧ Below w.heap.size w w' := by
  go_enter Try.func8, Try.ntmps8
  go_wp2_with fail
  refine (rvalid_of _ _ _ _ _ _ HP).mono ?_
  rintro e w1 ⟨rfl, hb1⟩
  have hq1 := below_keep hb1 (al2 ..)
  have f0_1 : at4 w1 (w.heap.size) x y z u := by simpa using at4_keep hb1 (at4_keep (al1 ..) (at4_new w x y z u 23))
  have f1_1 : at4 w1 (w.heap.size + 1) a1 a2 b1 b2 := by simpa using at4_keep hb1 (at4_new (w.alloc (.cells #[.int .i64 x, .int .i64 y, .int .i64 z, .int .i64 u] 23)) a1 a2 b1 b2 42)
  have g := f0_1; obtain ⟨c0_1_0, c0_1_1, c0_1_2, c0_1_3⟩ := g
  have g := f1_1; obtain ⟨c1_1_0, c1_1_1, c1_1_2, c1_1_3⟩ := g
  go_wp2_with fail
  refine (point_of _ _ _ _ HR).mono ?_
  rintro e w2 ⟨rfl, hb2⟩
  have hq2 := below_keep hb2 (hq1)
  have f0_2 : at4 w2 (w.heap.size) x y z u := at4_keep hb2 (f0_1)
  have f1_2 : at4 w2 (w.heap.size + 1) a1 a2 b1 b2 := at4_keep hb2 (f1_1)
  clear f0_1 c0_1_0 c0_1_1 c0_1_2 c0_1_3
  clear f1_1 c1_1_0 c1_1_1 c1_1_2 c1_1_3
  have g := f0_2; obtain ⟨c0_2_0, c0_2_1, c0_2_2, c0_2_3⟩ := g
  have g := f1_2; obtain ⟨c1_2_0, c1_2_1, c1_2_2, c1_2_3⟩ := g
  go_wp2_with fail
  refine (point_of _ _ _ _ HS).mono ?_
  rintro e w3 ⟨rfl, hb3⟩
  have hq3 := below_keep hb3 (hq2)
  have f0_3 : at4 w3 (w.heap.size) x y z u := at4_keep hb3 (f0_2)
  have f1_3 : at4 w3 (w.heap.size + 1) a1 a2 b1 b2 := at4_keep hb3 (f1_2)
  clear f0_2 c0_2_0 c0_2_1 c0_2_2 c0_2_3
  clear f1_2 c1_2_0 c1_2_1 c1_2_2 c1_2_3
  have g := f0_3; obtain ⟨c0_3_0, c0_3_1, c0_3_2, c0_3_3⟩ := g
  have g := f1_3; obtain ⟨c1_3_0, c1_3_1, c1_3_2, c1_3_3⟩ := g
  go_wp2_with fail
  refine (hits_of _ _ _ _ _ _ _ _ _ _ HV).mono ?_
  rintro e w4 ⟨rfl, hb4⟩
  have hq4 := below_keep hb4 (hq3)
  have f0_4 : at4 w4 (w.heap.size) x y z u := at4_keep hb4 (f0_3)
  have f1_4 : at4 w4 (w.heap.size + 1) a1 a2 b1 b2 := at4_keep hb4 (f1_3)
  clear f0_3 c0_3_0 c0_3_1 c0_3_2 c0_3_3
  clear f1_3 c1_3_0 c1_3_1 c1_3_2 c1_3_3
  have g := f0_4; obtain ⟨c0_4_0, c0_4_1, c0_4_2, c0_4_3⟩ := g
  have g := f1_4; obtain ⟨c1_4_0, c1_4_1, c1_4_2, c1_4_3⟩ := g
  go_wp2_with (go_at_call 15; refine (awake_any _).mono ?_; rintro e w5 ⟨rfl, hb5⟩)
  all_goals go_ret
  all_goals exact ⟨ret_bool (by simp; omega), below_keep hb5 hq4⟩

theorem top (x y z u a1 a2 b1 b2 : Int) (w : World) :
    Calls Try.prog 8 #[.agg #[.int .i64 x, .int .i64 y, .int .i64 z, .int .i64 u], .agg #[.int .i64 a1, .int .i64 a2, .int .i64 b1, .int .i64 b2]] w fun e w' => e = .returned (.bool true) ∧ Below w.heap.size w w' := by
  obtain ⟨p, hp⟩ : ∃ v, bvld x y z u = v := ⟨_, rfl⟩
  obtain ⟨r, hr⟩ : ∃ v, vld a1 a2 = v := ⟨_, rfl⟩
  obtain ⟨s, hs⟩ : ∃ v, vld b1 b2 = v := ⟨_, rfl⟩
  obtain ⟨v, hv⟩ : ∃ v, hits x y z u a1 a2 b1 b2 = v := ⟨_, rfl⟩
  have HP := Lib.hid hp
  have HR := Lib.hid hr
  have HS := Lib.hid hs
  have HV := Lib.hid hv
  cases p
  · exact bad1 x y z u a1 a2 b1 b2 w HP
  cases r
  · exact bad2 x y z u a1 a2 b1 b2 w HP HR
  cases s
  · exact bad3 x y z u a1 a2 b1 b2 w HP HR HS
  cases v
  · have hn : ¬(x < a1 ∧ a1 < z ∧ y < a2 ∧ a2 < u) := fun ⟨g1, g2, g3, g4⟩ => by rw [hits_in x y z u a1 a2 b1 b2 hp hr hs g1 g2 g3 g4] at hv; cases hv
    have hc : (a1 ≤ x) ∨ (x < a1 ∧ z ≤ a1) ∨ (x < a1 ∧ a1 < z ∧ a2 ≤ y) ∨ (x < a1 ∧ a1 < z ∧ y < a2 ∧ u ≤ a2) := by omega
    exact no x y z u a1 a2 b1 b2 w HP HR HS HV (Lib.hid hc)
  · have hn := hits_aside x y z u a1 a2 b1 b2 hv
    exact yes x y z u a1 a2 b1 b2 w HP HR HS HV _ _ _ _ rfl rfl rfl rfl (by omega) (by omega) (by omega) (by omega)

set_option maxRecDepth 100000 in
theorem lifted (os : Os) (started : os.Started) (H : Type) (enc : TypeId × Value → H) :
    ReturnsInHanded {} Try.checked os 8 .any (Rows.boxStrikesSpec.pre6 enc Try.prog Try.f8 Rows.boxStrikesRow.domain false) (Rows.boxStrikesSpec.post enc Try.prog Try.f8 false true false false) := by
  refine returnsInHanded_of_change (C := Try.checked) own started (by kernel_rfl) Try.func8
    (ChangeSpec.witness6 (enc := enc) (C := Try.checked) false ⟨#[], #[.agg #[.int .i64 0, .int .i64 0, .int .i64 0, .int .i64 0], .agg #[.int .i64 0, .int .i64 0, .int .i64 0, .int .i64 0]], []⟩ 8 (by kernel_rfl) (by kernel_rfl) (by kernel_rfl) (by kernel_rfl)) ?_
  intro W base args ds gs before hval0 hW _ _
  have hval : ∀ (j : Nat) t v, Try.f8.params[j]? = some t → args[j]? = some v → Value.okWide Try.prog W .any base t v := hval0
  have hW' := hW
  obtain ⟨p, q, hA0, hV, rfl, hfz, hnd⟩ := hW
  have hA : DataW.TrodAll enc Try.prog W 0 (fun _ => true) true Try.f8.params.toList args.toList ds p := hA0
  rw [Try.params8] at hA hval
  obtain ⟨v0, v1, d0, d1, p0, p1, rfl, rfl, rfl, h0, h1⟩ := trodAll_two hA
  obtain ⟨rfl, rfl⟩ := trodVars_none hV
  obtain ⟨x0, y0, z0, u0, rfl, rfl, rfl, wx0, wy0, wz0, wu0⟩ := open_box (hval 0 23 v0 rfl rfl) h0
  obtain ⟨x1, y1, z1, u1, rfl, rfl, rfl, wx1, wy1, wz1, wu1⟩ := open_seg (hval 1 42 v1 rfl rfl) h1
  clear hA0 hval0
  simp only [List.append_nil] at hW'
  refine (top x0 y0 z0 u0 x1 y1 z1 u1  W).mono fun e W' ⟨he, hb⟩ => ?_
  subst he
  exact ⟨_, rfl, _, _, _, [], [], [], hW', trodAll_mk1 (shut_bool Try.underlying4 _), trodAll_mk2 (shut_box wx0 wy0 wz0 wu0) (shut_seg wx1 wy1 wz1 wu1), rfl, hb.frame _, fun h => by cases h⟩

/-- The statement. -/
theorem holds : Rows.BoxStrikesSaid :=
  OpenClaim.holds_of_wide 8 Try.f8 rfl rfl rfl rfl rfl rfl rfl ⟨rfl, rfl, rfl, rfl, rfl⟩ rfl rfl rfl rfl rfl (by kernel_rfl) Try.func8 (by kernel_rfl)
    (of_decide_eq_true (by kernel_rfl)) (by unfold Func.isWrapper; first | (rw [if_pos (by decide +kernel)]; kernel_rfl) | (rw [if_neg (by decide +kernel)]; exact ⟨rfl, rfl⟩))
    (fun os started H enc _ => lifted os started H enc)
#print axioms holds

end Go.Proofs.Ytifliljlacmmlaa.lstrikes
