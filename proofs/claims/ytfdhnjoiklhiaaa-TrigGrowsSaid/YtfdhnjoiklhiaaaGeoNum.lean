/-
  What the small functions of layer 2 and of its reference return: between, the comparison of two ints, sign and absolute value, Valid. Conditions: arguments are ints; no other.
-/
import Derived.Test.YtfdhnjoiklhiaaaKit
import Derived.Test.YtfdhnjoiklhiaaaGeoPlain
namespace Go.Proofs.Ytfdhnjoiklhiaaa
open Go.RowKit





theorem between_any (n a b : Int) (w : World) :
    Calls Try.prog 24 #[.int .i64 n, .int .i64 a, .int .i64 b] w fun e w' => e = .returned (.bool (btw n a b)) ∧ w = w' := by
  go_enter Try.func24, Try.ntmps24
  go_wp2
  all_goals go_ret
  all_goals refine ⟨ret_bool ?_, rfl⟩
  all_goals (rw [Bool.eq_iff_iff, btw_eq]; simp; omega)

theorem between_of (n a b : Int) (v : Bool) (w : World) (hv : Hid (btw n a b = v)) :
    Calls Try.prog 24 #[.int .i64 n, .int .i64 a, .int .i64 b] w fun e w' => e = .returned (.bool v) ∧ w = w' := by
  have := between_any n a b w
  rw [hv.out] at this
  exact this

theorem valid_any (x y : Int) (w : World) :
    Calls Try.prog 20 #[.agg #[.int .i64 x, .int .i64 y]] w fun e w' => e = .returned (.bool (vld x y)) ∧ Below w.heap.size w w' := by
  obtain ⟨u, hu⟩ : ∃ u, btw x (-268435456) 268435456 = u := ⟨_, rfl⟩
  obtain ⟨v, hv⟩ : ∃ v, btw y (-268435456) 268435456 = v := ⟨_, rfl⟩
  have HV : Hid (vld x y = (u && v)) := Lib.hid (by rw [vld_btw, hu, hv])
  have HU := Lib.hid hu
  have HW := Lib.hid hv
  clear hu hv
  go_enter Try.func20, Try.ntmps20
  go_wp2_with (go_at_call 24; refine (between_of _ _ _ _ _ (by first | exact HU | exact HW)).mono ?_; rintro e w' ⟨rfl, rfl⟩)
  all_goals go_ret
  all_goals refine ⟨ret_bool ?_, (Below.refl _ _).alloc (Nat.le_refl _) _⟩
  all_goals (rw [HV.out]; simp_all)

theorem refValid_any (x y : Int) (w : World) :
    Calls Try.prog 16 #[.agg #[.int .i64 x, .int .i64 y]] w fun e w' => e = .returned (.bool (vld x y)) ∧ Below w.heap.size w w' := by
  go_enter Try.func16, Try.ntmps16
  go_wp2
  all_goals go_ret
  all_goals refine ⟨ret_bool ?_, (Below.refl _ _).alloc (Nat.le_refl _) _⟩
  all_goals (rw [Bool.eq_iff_iff, vld_iff]; simp; omega)
end Go.Proofs.Ytfdhnjoiklhiaaa
