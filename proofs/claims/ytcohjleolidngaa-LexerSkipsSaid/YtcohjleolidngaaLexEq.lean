/-
  Comparing a token of layer 6 with itself, as the model does it. No condition.
-/
import Derived.Test.YtcohjleolidngaaToks
import Derived.Laws.StructEq
namespace Go.Proofs.Ytcohjleolidngaa
open Go.RowKit lex

theorem guard_tok : Try.prog.eqGuardType Try.prog.depth 32 = false := by kernel_rfl
theorem in_tok (k n l : Int) (x : ByteArray) (w : World) : (Op.equalIn 10000 32 (.agg #[.int .i64 k, .string x, .int .i64 n, .int .i64 l]) (.agg #[.int .i64 k, .string x, .int .i64 n, .int .i64 l])).run Try.prog w = .ok true w := by
  have hu : Try.prog.underlying 32 = some (.struct (Try.prog.fieldsOf 32)) := by kernel_rfl
  have hp : Try.prog.stoodInHeld 32 = false := by kernel_rfl
  rw [run_equalIn_agg w 9999 _ _ _ hu hp]
  simp [go_sem, Op.eqFields, Program.fieldsOf, Try.underlying32, Try.underlying3, Try.underlying9]
theorem eql_tok (k n l : Int) (x : ByteArray) (w : World) : (binOp .eql 32 (.agg #[.int .i64 k, .string x, .int .i64 n, .int .i64 l]) (.agg #[.int .i64 k, .string x, .int .i64 n, .int .i64 l])).run Try.prog w = .ok (.bool true) w := by
  rw [run_eql_struct, in_tok]; rfl
theorem neq_tok (k n l : Int) (x : ByteArray) (w : World) : (binOp .neq 32 (.agg #[.int .i64 k, .string x, .int .i64 n, .int .i64 l]) (.agg #[.int .i64 k, .string x, .int .i64 n, .int .i64 l])).run Try.prog w = .ok (.bool false) w := by
  rw [run_neq_struct, in_tok]; rfl
end Go.Proofs.Ytcohjleolidngaa
