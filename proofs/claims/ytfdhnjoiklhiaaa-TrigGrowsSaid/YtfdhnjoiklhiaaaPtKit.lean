/-
  A point by value, for seats that hold no segment and no box: how it comes in and goes out, how two are compared. No condition.
-/
import Derived.Test.YtfdhnjoiklhiaaaKit
import Derived.ProofKit
import Derived.OpenShut
import Derived.Lib.SmallJoins
import Derived.Laws.StructEq
namespace Go.Proofs.Ytfdhnjoiklhiaaa
open Go.ChangeShapes Go.WideShapes Go.ChangeAt Go.RowKit Go.Joins

def eq2 (a b c d : Int) : Bool := a == c && b == d
theorem eq2_iff (a b c d : Int) : eq2 a b c d = true ↔ a = c ∧ b = d := by unfold eq2; simp
theorem guard_pt : Try.prog.eqGuardType Try.prog.depth 26 = false := by kernel_rfl
theorem in_pt (a b c d : Int) (w : World) : (Op.equalIn 10000 26 (.agg #[.int .i64 a, .int .i64 b]) (.agg #[.int .i64 c, .int .i64 d])).run Try.prog w = .ok (eq2 a b c d) w := by
  have hu : Try.prog.underlying 26 = some (.struct (Try.prog.fieldsOf 26)) := by kernel_rfl
  have hp : Try.prog.stoodInHeld 26 = false := by kernel_rfl
  rw [run_equalIn_agg w 9999 _ _ _ hu hp]
  unfold eq2
  simp [go_sem, Op.eqFields, Program.fieldsOf, Try.underlying26, Try.underlying3]
  by_cases h1 : a = c <;> by_cases h2 : b = d <;> simp [h1, h2]
theorem eql_pt {a b c d : Int} {v : Bool} (h : Hid (eq2 a b c d = v)) (w : World) : (binOp .eql 26 (.agg #[.int .i64 a, .int .i64 b]) (.agg #[.int .i64 c, .int .i64 d])).run Try.prog w = .ok (.bool v) w := by
  rw [run_eql_struct, in_pt, h.out]; rfl

theorem own : ownKnob Try.prog.godebug = none := by kernel_rfl
theorem cellsPt : Try.prog.cellsOf 26 = 2 := by kernel_rfl

section
variable {H : Type} {enc : TypeId × Value → H} {w : World} {base : Nat} {spare : Nat → Bool} {held : Bool}
/-- A point's datum. -/
abbrev ptD (x y : Int) : DataW H := .agg [.lit (.int .i64 x), .lit (.int .i64 y)]

theorem open_pt {r : Reach} {b0 : Nat} {v : Value} {d : DataW H} {p : List MemPlace} (hv : Value.okWide Try.prog w r b0 26 v) (h : DataW.Trod enc Try.prog w base spare held 26 v d p) :
    ∃ x y : Int, v = .agg #[.int .i64 x, .int .i64 y] ∧ d = ptD x y ∧ p = [] ∧ (Lit.int .i64 x).wf = true ∧ (Lit.int .i64 y).wf = true := by
  obtain ⟨c0, c1, y0, y1, m, rfl, rfl, rfl, hy0, hy1⟩ := open_agg2 Try.underlying26 (by kernel_rfl) cellsPt hv h
  obtain ⟨a, e0, rfl, wa⟩ := DataW.trod_int Try.underlying3 hy0
  obtain ⟨b, e1, rfl, wb⟩ := DataW.trod_int Try.underlying3 hy1
  simp at e0 e1
  subst e0 e1
  exact ⟨a, b, rfl, rfl, rfl, wa, wb⟩

theorem shut_pt {x y : Int} (wx : (Lit.int .i64 x).wf = true) (wy : (Lit.int .i64 y).wf = true) : DataW.Trod enc Try.prog w base spare held 26 (.agg #[.int .i64 x, .int .i64 y]) (ptD x y) [] :=
  shut_agg2 (y0 := (.lit (.int .i64 x), [])) (y1 := (.lit (.int .i64 y), [])) Try.underlying26 (by kernel_rfl) cellsPt ⟨1, by simp [DataW.trod, Try.underlying3, wx]⟩ ⟨1, by simp [DataW.trod, Try.underlying3, wy]⟩

end
end Go.Proofs.Ytfdhnjoiklhiaaa
