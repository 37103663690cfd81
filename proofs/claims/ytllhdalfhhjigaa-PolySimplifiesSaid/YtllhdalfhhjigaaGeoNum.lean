/-
  What the small functions of layer 2 and of its reference return: between, the comparison of two ints, sign and absolute value, Valid. Conditions: arguments are ints; no other.
-/
import Derived.Test.YtllhdalfhhjigaaKit
import Derived.Test.YtllhdalfhhjigaaGeoPlain
namespace Go.Proofs.Ytllhdalfhhjigaa
open Go.RowKit

theorem isNaN_any (a : Int) (w : World) :
    Calls Try.prog 61 #[.int .i64 a] w fun e w' => e = .returned (.bool false) ∧ w = w' := by
  go_enter Try.func61, Try.ntmps61
  go_wp2
  go_ret
  exact ⟨by simp, rfl⟩

theorem compare_any (a b : Int) (w : World) :
    Calls Try.prog 60 #[.int .i64 a, .int .i64 b] w fun e w' => e = .returned (.int .i64 (sgn (a - b))) ∧ w = w' := by
  go_enter Try.func60, Try.ntmps60
  go_wp2_with (go_at_call 61; refine (isNaN_any _ _).mono ?_; rintro e w' ⟨rfl, rfl⟩)
  all_goals go_ret
  all_goals refine ⟨?_, rfl⟩
  all_goals unfold sgn
  · rw [if_pos (by omega)]; rfl
  · rw [if_neg (by omega), if_pos (by omega)]; rfl
  · rw [if_neg (by omega), if_neg (by omega)]; rfl



theorem between_any (n a b : Int) (w : World) :
    Calls Try.prog 59 #[.int .i64 n, .int .i64 a, .int .i64 b] w fun e w' => e = .returned (.bool (btw n a b)) ∧ w = w' := by
  go_enter Try.func59, Try.ntmps59
  go_wp2
  all_goals go_ret
  all_goals refine ⟨ret_bool ?_, rfl⟩
  all_goals (rw [Bool.eq_iff_iff, btw_eq]; simp; omega)

theorem between_of (n a b : Int) (v : Bool) (w : World) (hv : Hid (btw n a b = v)) :
    Calls Try.prog 59 #[.int .i64 n, .int .i64 a, .int .i64 b] w fun e w' => e = .returned (.bool v) ∧ w = w' := by
  have := between_any n a b w
  rw [hv.out] at this
  exact this

theorem valid_any (x y : Int) (w : World) :
    Calls Try.prog 54 #[.agg #[.int .i64 x, .int .i64 y]] w fun e w' => e = .returned (.bool (vld x y)) ∧ Below w.heap.size w w' := by
  obtain ⟨u, hu⟩ : ∃ u, btw x (-268435456) 268435456 = u := ⟨_, rfl⟩
  obtain ⟨v, hv⟩ : ∃ v, btw y (-268435456) 268435456 = v := ⟨_, rfl⟩
  have HV : Hid (vld x y = (u && v)) := Lib.hid (by rw [vld_btw, hu, hv])
  have HU := Lib.hid hu
  have HW := Lib.hid hv
  clear hu hv
  go_enter Try.func54, Try.ntmps54
  go_wp2_with (go_at_call 59; refine (between_of _ _ _ _ _ (by first | exact HU | exact HW)).mono ?_; rintro e w' ⟨rfl, rfl⟩)
  all_goals go_ret
  all_goals refine ⟨ret_bool ?_, (Below.refl _ _).alloc (Nat.le_refl _) _⟩
  all_goals (rw [HV.out]; simp_all)

end Go.Proofs.Ytllhdalfhhjigaa