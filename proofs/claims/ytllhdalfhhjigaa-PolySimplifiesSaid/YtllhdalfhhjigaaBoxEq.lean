/-
  Comparing two points and two boxes, as the model does it. No condition.
-/
import Derived.Test.YtllhdalfhhjigaaBoxNum
import Derived.Laws.StructEq
namespace Go.Proofs.Ytllhdalfhhjigaa
open Go.RowKit

def eq2 (a b c d : Int) : Bool := a == c && b == d
def eq4 (a b c d x y z u : Int) : Bool := a == x && (b == y && (c == z && d == u))
theorem eq2_iff (a b c d : Int) : eq2 a b c d = true ↔ a = c ∧ b = d := by unfold eq2; simp
theorem eq4_iff (a b c d x y z u : Int) : eq4 a b c d x y z u = true ↔ a = x ∧ b = y ∧ c = z ∧ d = u := by unfold eq4; simp
theorem eq2_dec (a b c d : Int) : eq2 a b c d = (decide (a = c) && decide (b = d)) := by rw [Bool.eq_iff_iff, eq2_iff]; simp
theorem guard_pt : Try.prog.eqGuardType Try.prog.depth 33 = false := by kernel_rfl
theorem guard_box : Try.prog.eqGuardType Try.prog.depth 27 = false := by kernel_rfl

theorem in_pt (a b c d : Int) (w : World) : (Op.equalIn 10000 33 (.agg #[.int .i64 a, .int .i64 b]) (.agg #[.int .i64 c, .int .i64 d])).run Try.prog w = .ok (eq2 a b c d) w := by
  have hu : Try.prog.underlying 33 = some (.struct (Try.prog.fieldsOf 33)) := by kernel_rfl
  have hp : Try.prog.stoodInHeld 33 = false := by kernel_rfl
  rw [run_equalIn_agg w 9999 _ _ _ hu hp]
  unfold eq2
  simp [go_sem, Op.eqFields, Program.fieldsOf, Try.underlying33, Try.underlying3]
  by_cases h1 : a = c <;> by_cases h2 : b = d <;> simp [h1, h2]
theorem in_box (a b c d x y z u : Int) (w : World) : (Op.equalIn 10000 27 (.agg #[.int .i64 a, .int .i64 b, .int .i64 c, .int .i64 d]) (.agg #[.int .i64 x, .int .i64 y, .int .i64 z, .int .i64 u])).run Try.prog w = .ok (eq4 a b c d x y z u) w := by
  have hu : Try.prog.underlying 27 = some (.struct (Try.prog.fieldsOf 27)) := by kernel_rfl
  have hp : Try.prog.stoodInHeld 27 = false := by kernel_rfl
  rw [run_equalIn_agg w 9999 _ _ _ hu hp]
  unfold eq4
  simp [go_sem, Op.eqFields, Program.fieldsOf, Try.underlying27, Try.underlying3]
  by_cases h1 : a = x <;> by_cases h2 : b = y <;> by_cases h3 : c = z <;> by_cases h4 : d = u <;> simp [h1, h2, h3, h4]

theorem eql_pt {a b c d : Int} {v : Bool} (h : Hid (eq2 a b c d = v)) (w : World) : (binOp .eql 33 (.agg #[.int .i64 a, .int .i64 b]) (.agg #[.int .i64 c, .int .i64 d])).run Try.prog w = .ok (.bool v) w := by
  rw [run_eql_struct, in_pt, h.out]; rfl
theorem neq_pt {a b c d : Int} {v : Bool} (h : Hid (eq2 a b c d = v)) (w : World) : (binOp .neq 33 (.agg #[.int .i64 a, .int .i64 b]) (.agg #[.int .i64 c, .int .i64 d])).run Try.prog w = .ok (.bool (!v)) w := by
  rw [run_neq_struct, in_pt, h.out]; rfl
theorem eql_box {a b c d x y z u : Int} {v : Bool} (h : Hid (eq4 a b c d x y z u = v)) (w : World) : (binOp .eql 27 (.agg #[.int .i64 a, .int .i64 b, .int .i64 c, .int .i64 d]) (.agg #[.int .i64 x, .int .i64 y, .int .i64 z, .int .i64 u])).run Try.prog w = .ok (.bool v) w := by
  rw [run_eql_struct, in_box, h.out]; rfl
theorem neq_box {a b c d x y z u : Int} {v : Bool} (h : Hid (eq4 a b c d x y z u = v)) (w : World) : (binOp .neq 27 (.agg #[.int .i64 a, .int .i64 b, .int .i64 c, .int .i64 d]) (.agg #[.int .i64 x, .int .i64 y, .int .i64 z, .int .i64 u])).run Try.prog w = .ok (.bool (!v)) w := by
  rw [run_neq_struct, in_box, h.out]; rfl
end Go.Proofs.Ytllhdalfhhjigaa
