/-
  The absolute value in the statements of layer 5. Conditions: not the least int.
-/
import Derived.Test.YtfdhnjoiklhiaaaKit
import Derived.Test.YtfdhnjoiklhiaaaTrigPlain
namespace Go.Proofs.Ytfdhnjoiklhiaaa
open Go.RowKit

theorem labs_any (a : Int) (w : World) (h0 : -9223372036854775807 ≤ a) (h1 : a ≤ 9223372036854775807) :
    Calls Try.prog 15 #[.int .i64 a] w fun e w' => e = .returned (.int .i64 (absI a)) ∧ w = w' := by
  go_enter Try.func15, Try.ntmps15
  go_wp2
  all_goals go_ret
  all_goals refine ⟨ret_int ?_, rfl⟩
  · unfold absI; rw [if_pos (by omega)]
  · unfold absI; rw [if_neg (by omega)]
theorem labs_of (a v : Int) (w : World) (h : Hid (-9223372036854775807 ≤ a ∧ a ≤ 9223372036854775807)) (hv : Hid (absI a = v)) :
    Calls Try.prog 15 #[.int .i64 a] w fun e w' => e = .returned (.int .i64 v) ∧ w = w' := by
  rw [← hv.out]; exact labs_any a w h.out.1 h.out.2
/-- The absolute value as Go reckons it, at every int. -/
def labsV (a : Int) : Int := if a = -9223372036854775808 then a else absI a
theorem labsV_any (a : Int) (w : World) (h0 : -9223372036854775808 ≤ a) (h1 : a ≤ 9223372036854775807) :
    Calls Try.prog 15 #[.int .i64 a] w fun e w' => e = .returned (.int .i64 (labsV a)) ∧ w = w' := by
  by_cases h : a = -9223372036854775808
  · subst h
    go_enter Try.func15, Try.ntmps15
    go_wp2
    go_ret
    refine ⟨ret_int ?_, rfl⟩
    kernel_rfl
  · rw [show labsV a = absI a by unfold labsV; rw [if_neg h]]
    exact labs_any a w (by omega) h1
theorem labsV_of (a v : Int) (w : World) (h : Hid (-9223372036854775808 ≤ a ∧ a ≤ 9223372036854775807)) (hv : Hid (labsV a = v)) :
    Calls Try.prog 15 #[.int .i64 a] w fun e w' => e = .returned (.int .i64 v) ∧ w = w' := by
  rw [← hv.out]; exact labsV_any a w h.out.1 h.out.2
end Go.Proofs.Ytfdhnjoiklhiaaa
