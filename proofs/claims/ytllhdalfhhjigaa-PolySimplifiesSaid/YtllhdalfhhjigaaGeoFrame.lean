/-
  What every statement of layer 2 needs of its row: how a point and a segment that came in are read; the examples of the chapter. No condition.
-/
import Derived.Test.YtllhdalfhhjigaaGeoApi
import Derived.ProofKit
import Derived.OpenShut
import Derived.Lib.SmallJoins
namespace Go.Proofs.Ytllhdalfhhjigaa
open Go.ChangeShapes Go.WideShapes Go.ChangeAt Go.RowKit Go.Joins

theorem own : ownKnob Try.prog.godebug = none := by kernel_rfl
theorem cellsPt : Try.prog.cellsOf 33 = 2 := by kernel_rfl
theorem cellsSeg : Try.prog.cellsOf 36 = 4 := by kernel_rfl

section
variable {H : Type} {enc : TypeId × Value → H} {w : World} {base : Nat} {spare : Nat → Bool} {held : Bool}
/-- A point's datum. -/
abbrev ptD (x y : Int) : DataW H := .agg [.lit (.int .i64 x), .lit (.int .i64 y)]

theorem open_pt {r : Reach} {b0 : Nat} {v : Value} {d : DataW H} {p : List MemPlace} (hv : Value.okWide Try.prog w r b0 33 v) (h : DataW.Trod enc Try.prog w base spare held 33 v d p) :
    ∃ x y : Int, v = .agg #[.int .i64 x, .int .i64 y] ∧ d = ptD x y ∧ p = [] ∧ (Lit.int .i64 x).wf = true ∧ (Lit.int .i64 y).wf = true := by
  obtain ⟨c0, c1, y0, y1, m, rfl, rfl, rfl, hy0, hy1⟩ := open_agg2 Try.underlying33 (by kernel_rfl) cellsPt hv h
  obtain ⟨a, e0, rfl, wa⟩ := DataW.trod_int Try.underlying3 hy0
  obtain ⟨b, e1, rfl, wb⟩ := DataW.trod_int Try.underlying3 hy1
  simp at e0 e1
  subst e0 e1
  exact ⟨a, b, rfl, rfl, rfl, wa, wb⟩

theorem shut_pt {x y : Int} (wx : (Lit.int .i64 x).wf = true) (wy : (Lit.int .i64 y).wf = true) : DataW.Trod enc Try.prog w base spare held 33 (.agg #[.int .i64 x, .int .i64 y]) (ptD x y) [] :=
  shut_agg2 (y0 := (.lit (.int .i64 x), [])) (y1 := (.lit (.int .i64 y), [])) Try.underlying33 (by kernel_rfl) cellsPt ⟨1, by simp [DataW.trod, Try.underlying3, wx]⟩ ⟨1, by simp [DataW.trod, Try.underlying3, wy]⟩

theorem open_seg {r : Reach} {b0 : Nat} {v : Value} {d : DataW H} {p : List MemPlace} (hv : Value.okWide Try.prog w r b0 36 v) (h : DataW.Trod enc Try.prog w base spare held 36 v d p) :
    ∃ x y z u : Int, v = .agg #[.int .i64 x, .int .i64 y, .int .i64 z, .int .i64 u] ∧ d = .agg [ptD x y, ptD z u] ∧ p = [] ∧ (Lit.int .i64 x).wf = true ∧ (Lit.int .i64 y).wf = true ∧ (Lit.int .i64 z).wf = true ∧ (Lit.int .i64 u).wf = true := by
  obtain ⟨cs, rfl, hsz⟩ := okWide_struct Try.underlying36 hv
  obtain ⟨c0, c1, c2, c3, rfl⟩ := array4 (hsz.trans cellsSeg)
  obtain ⟨fuel, hf⟩ := h
  obtain ⟨ya, yb, n, hx, _, ha, hb⟩ := trod_struct2 Try.underlying36 hf
  simp [cellsPt, Value.cells] at ha hb
  obtain ⟨y0, y1, m, rfl, _, h0, h1⟩ := trod_struct2 Try.underlying33 ha
  obtain ⟨y2, y3, m', rfl, _, h2, h3⟩ := trod_struct2 Try.underlying33 hb
  have hci : Try.prog.cellsOf 3 = 1 := by kernel_rfl
  simp [hci] at h0 h1 h2 h3
  obtain ⟨a, e0, rfl, w0⟩ := DataW.trod_int Try.underlying3 h0
  obtain ⟨b, e1, rfl, w1⟩ := DataW.trod_int Try.underlying3 h1
  obtain ⟨c, e2, rfl, w2⟩ := DataW.trod_int Try.underlying3 h2
  obtain ⟨d', e3, rfl, w3⟩ := DataW.trod_int Try.underlying3 h3
  simp at e0 e1 e2 e3
  subst e0 e1 e2 e3
  simp only [Prod.mk.injEq] at hx
  exact ⟨a, b, c, d', rfl, by simpa using hx.1, by simpa using hx.2, w0, w1, w2, w3⟩

theorem shut_seg {x y z u : Int} (wx : (Lit.int .i64 x).wf = true) (wy : (Lit.int .i64 y).wf = true) (wz : (Lit.int .i64 z).wf = true) (wu : (Lit.int .i64 u).wf = true) :
    DataW.Trod enc Try.prog w base spare held 36 (.agg #[.int .i64 x, .int .i64 y, .int .i64 z, .int .i64 u]) (.agg [ptD x y, ptD z u]) [] := by
  have hci : Try.prog.cellsOf 3 = 1 := by kernel_rfl
  refine ⟨3, ?_⟩
  simp [DataW.trod, Value.cells, Try.underlying36, Try.underlying33, Try.underlying3, cellsPt, cellsSeg, hci, wx, wy, wz, wu]
end
end Go.Proofs.Ytllhdalfhhjigaa
