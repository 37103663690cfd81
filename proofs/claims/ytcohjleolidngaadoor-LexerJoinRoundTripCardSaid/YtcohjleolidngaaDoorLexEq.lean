/-
  Comparing a token of layer 6 with itself, as the model does it. No condition.
-/
import Derived.Test.YtcohjleolidngaaDoorToks
import Derived.Laws.StructEq
namespace Go.Proofs.YtcohjleolidngaaDoor
open Go.RowKit lex

theorem guard_tok : Tryd.prog.eqGuardType Tryd.prog.depth 31 = false := by kernel_rfl
theorem in_tok (k n l : Int) (x : ByteArray) (w : World) : (Op.equalIn 10000 31 (.agg #[.int .i64 k, .string x, .int .i64 n, .int .i64 l]) (.agg #[.int .i64 k, .string x, .int .i64 n, .int .i64 l])).run Tryd.prog w = .ok true w := by
  have hu : Tryd.prog.underlying 31 = some (.struct (Tryd.prog.fieldsOf 31)) := by kernel_rfl
  have hp : Tryd.prog.stoodInHeld 31 = false := by kernel_rfl
  rw [run_equalIn_agg w 9999 _ _ _ hu hp]
  simp [go_sem, Op.eqFields, Program.fieldsOf, Tryd.underlying31, Tryd.underlying3, Tryd.underlying9]
theorem eql_tok (k n l : Int) (x : ByteArray) (w : World) : (binOp .eql 31 (.agg #[.int .i64 k, .string x, .int .i64 n, .int .i64 l]) (.agg #[.int .i64 k, .string x, .int .i64 n, .int .i64 l])).run Tryd.prog w = .ok (.bool true) w := by
  rw [run_eql_struct, in_tok]; rfl
theorem neq_tok (k n l : Int) (x : ByteArray) (w : World) : (binOp .neq 31 (.agg #[.int .i64 k, .string x, .int .i64 n, .int .i64 l]) (.agg #[.int .i64 k, .string x, .int .i64 n, .int .i64 l])).run Tryd.prog w = .ok (.bool false) w := by
  rw [run_neq_struct, in_tok]; rfl
end Go.Proofs.YtcohjleolidngaaDoor
