/-
  The examples of the chapter of layer 5 come out as it says: awake returns true. No condition.
-/
import Derived.Test.YtfdhnjoiklhiaaaTrigPol
import Derived.Test.YtfdhnjoiklhiaaaPtKit
namespace Go.Proofs.Ytfdhnjoiklhiaaa
open Go.RowKit

set_option maxHeartbeats 2000000 in
theorem awake_any (w : World) :
    Calls Try.prog 12 #[] w fun e w' => e = .returned (.bool true) ∧ Below w.heap.size w w' := by
  have q1 := eql_pt (Lib.hid (by decide : eq2 866 500 866 500 = true))
  have q2 := eql_pt (Lib.hid (by decide : eq2 0 1000 0 1000 = true))
  have hg := guard_pt
  go_enter Try.func12, Try.ntmps12
  go_wp2_with fail
  refine (sin_of _ _ _ (Lib.hid ex_sin30)).mono ?_
  rintro e w1 ⟨rfl, hb1⟩
  go_wp2_with fail
  refine (sin_of _ _ _ (Lib.hid ex_sin90)).mono ?_
  rintro e w2 ⟨rfl, hb2⟩
  have hb2 := below_keep hb2 hb1
  clear hb1
  go_wp2_with fail
  refine (cos_of _ _ _ (Lib.hid ex_cos120)).mono ?_
  rintro e w3 ⟨rfl, hb3⟩
  have hb3 := below_keep hb3 hb2
  clear hb2
  go_wp2_with fail
  refine (pol_of _ _ _ _ _ _ _ (Lib.hid ex_pol30.1) (Lib.hid ex_pol30.2)).mono ?_
  rintro e w4 ⟨rfl, hb4⟩
  have hb4 := below_keep hb4 hb3
  clear hb3
  go_wp2_with fail
  refine (pol_of _ _ _ _ _ _ _ (Lib.hid ex_pol90.1) (Lib.hid ex_pol90.2)).mono ?_
  rintro e w5 ⟨rfl, hb5⟩
  have hb5 := below_keep hb5 hb4
  clear hb4
  go_wp2
  go_ret
  exact ⟨rfl, hb5⟩
end Go.Proofs.Ytfdhnjoiklhiaaa
