/-
  The examples of the chapter of layer 3 come out as it says: awake returns true. No condition.
-/
import Derived.Test.YtifliljlacmmlaaBoxRHits
import Derived.Test.YtifliljlacmmlaaBoxMake2
namespace Go.Proofs.Ytifliljlacmmlaa
open Go.RowKit

theorem ex1 : mk 10 10 5 4 = (8, 8, 13, 12) := by decide
theorem ex2 : center 8 8 13 12 = (10, 10) := by decide
theorem ex3 : ovl 8 8 13 12 8 8 13 12 = true := by decide
theorem ex4 : hits 8 8 13 12 9 9 9 9 = true := by decide
theorem ex5 : eq4 8 8 13 12 8 8 13 12 = true := by decide
theorem ex6 : eq2 10 10 10 10 = true := by decide

set_option maxHeartbeats 2000000 in
theorem awake_any (w : World) :
    Calls Try.prog 15 #[] w fun e w' => e = .returned (.bool true) ∧ Below w.heap.size w w' := by
  have hG1 := guard_pt
  have hG2 := guard_box
  have heq1 := eql_box (Lib.hid ex5)
  have heq2 := eql_pt (Lib.hid ex6)
  go_enter Try.func15, Try.ntmps15
  go_wp2_with fail
  refine (mk_of _ _ _ _ _ _ _ _ _ (Lib.hid ex1)).mono ?_
  rintro e w1 ⟨rfl, hb1⟩
  have hq1 := below_keep hb1 (Below.refl _ _)
  go_wp2_with fail
  refine (center_of _ _ _ _ _ _ _ (Lib.hid ex2)).mono ?_
  rintro e w2 ⟨rfl, hb2⟩
  have hq2 := below_keep hb2 (below_keep (al1 ..) hq1)
  have f0_2 : at4 w2 (w1.heap.size) 8 8 13 12 := by simpa using at4_keep hb2 (at4_new w1 8 8 13 12 23)
  have g := f0_2; obtain ⟨c0_2_0, c0_2_1, c0_2_2, c0_2_3⟩ := g
  go_wp2_with fail
  refine (ovl_of _ _ _ _ _ _ _ _ _ _ (Lib.hid ex3)).mono ?_
  rintro e w3 ⟨rfl, hb3⟩
  have hq3 := below_keep hb3 (hq2)
  have f0_3 : at4 w3 (w1.heap.size) 8 8 13 12 := at4_keep hb3 (f0_2)
  clear f0_2 c0_2_0 c0_2_1 c0_2_2 c0_2_3
  have g := f0_3; obtain ⟨c0_3_0, c0_3_1, c0_3_2, c0_3_3⟩ := g
  go_wp2_with fail
  refine (hits_of _ _ _ _ _ _ _ _ _ _ (Lib.hid ex4)).mono ?_
  rintro e w4 ⟨rfl, hb4⟩
  have hq4 := below_keep hb4 (hq3)
  have f0_4 : at4 w4 (w1.heap.size) 8 8 13 12 := at4_keep hb4 (f0_3)
  clear f0_3 c0_3_0 c0_3_1 c0_3_2 c0_3_3
  have g := f0_4; obtain ⟨c0_4_0, c0_4_1, c0_4_2, c0_4_3⟩ := g
  go_wp2
  go_ret
  exact ⟨rfl, hq4⟩
end Go.Proofs.Ytifliljlacmmlaa
