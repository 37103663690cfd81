/-
  What the small functions of layer 3 and of its reference return: corners, Valid, hasInterior, isSize, middle, Point, Down. Conditions: arguments are ints; no other.
-/
import Derived.Test.YtifliljlacmmlaaGeoApi
import Derived.Test.YtifliljlacmmlaaBoxPlain
import Derived.Laws.StructEq
namespace Go.Proofs.Ytifliljlacmmlaa
open Go.RowKit

theorem point_any (x y : Int) (w : World) :
    Calls Try.prog 30 #[.agg #[.int .i64 x, .int .i64 y]] w fun e w' => e = .returned (.bool (vld x y)) ∧ Below w.heap.size w w' := by
  go_enter Try.func30, Try.ntmps30
  go_wp2
  all_goals go_ret
  all_goals refine ⟨ret_bool ?_, (Below.refl _ _).alloc (Nat.le_refl _) _⟩
  all_goals (rw [Bool.eq_iff_iff, vld_iff]; simp; omega)

theorem point_of (x y : Int) (v : Bool) (w : World) (hv : Hid (vld x y = v)) :
    Calls Try.prog 30 #[.agg #[.int .i64 x, .int .i64 y]] w fun e w' => e = .returned (.bool v) ∧ Below w.heap.size w w' := by
  have := point_any x y w
  rw [hv.out] at this
  exact this

theorem hasInterior_any (x y z u : Int) (w : World) :
    Calls Try.prog 37 #[.agg #[.int .i64 x, .int .i64 y, .int .i64 z, .int .i64 u]] w fun e w' => e = .returned (.bool (inr x y z u)) ∧ Below w.heap.size w w' := by
  go_enter Try.func37, Try.ntmps37
  go_wp2
  all_goals go_ret
  all_goals refine ⟨ret_bool ?_, (Below.refl _ _).alloc (Nat.le_refl _) _⟩
  all_goals (rw [Bool.eq_iff_iff, inr_iff]; simp; omega)

theorem isSize_any (n : Int) (w : World) :
    Calls Try.prog 35 #[.int .i64 n] w fun e w' => e = .returned (.bool (siz n)) ∧ w = w' := by
  go_enter Try.func35, Try.ntmps35
  go_wp2
  all_goals go_ret
  all_goals refine ⟨ret_bool ?_, rfl⟩
  all_goals (rw [Bool.eq_iff_iff, siz_iff]; simp; omega)

theorem middle_any (a b : Int) (w : World) (h0 : -268435456 ≤ a) (h1 : a ≤ 268435456) (h2 : -268435456 ≤ b) (h3 : b ≤ 268435456) :
    Calls Try.prog 33 #[.int .i64 a, .int .i64 b] w fun e w' => e = .returned (.int .i64 ((a + b) / 2)) ∧ w = w' := by
  go_enter Try.func33, Try.ntmps33
  go_wp2
  all_goals go_ret
  all_goals exact ⟨rfl, rfl⟩

theorem tdiv2 (n : Int) (h : n < 0) : n.tdiv 2 = -((-n) / 2) := by
  rw [show n = -(-n) by omega, Int.neg_tdiv, Int.tdiv_eq_ediv_of_nonneg (by omega)]; omega
theorem tmod2 (n : Int) (h : n < 0) : n.tmod 2 = -((-n) % 2) := by
  rw [show n = -(-n) by omega, Int.neg_tmod, Int.tmod_eq_emod_of_nonneg (by omega)]; omega
theorem down_any (n : Int) (w : World) (h0 : -536870912 ≤ n) (h1 : n ≤ 536870912) :
    Calls Try.prog 34 #[.int .i64 n] w fun e w' => e = .returned (.int .i64 (n / 2)) ∧ w = w' := by
  have t0 := tdiv2 n
  have t1 := tmod2 n
  go_enter Try.func34, Try.ntmps34
  go_wp2
  all_goals go_ret
  all_goals refine ⟨ret_int ?_, rfl⟩
  · rename_i g0 g1; simp at g1; omega
  · rename_i g0 g1; simp at g1; omega
  · rfl
end Go.Proofs.Ytifliljlacmmlaa
