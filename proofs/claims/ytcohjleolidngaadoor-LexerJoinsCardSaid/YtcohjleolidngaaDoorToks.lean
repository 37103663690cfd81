/-
  Slices of tokens of layer 6 in memory: as a row that a loop appends to, and as they are read. No condition.
-/
import Derived.Test.YtcohjleolidngaaDoorKit
import Derived.Test.YtcohjleolidngaaDoorLexPlain
namespace Go.Proofs.YtcohjleolidngaaDoor
open Go.RowKit lex

/-- The four cells of a token. -/
def cellsT (t : Tok) : List Value := [.int .i64 t.kind, .string ⟨t.text.toArray⟩, .int .i64 t.num, .int .i64 t.line]
def flatT (l : List Tok) : List Value := l.flatMap cellsT
def tokAt (l : List Tok) (i : Nat) : Tok := l.getD i ⟨0, [], 0, 0⟩
theorem flatT_snoc (l : List Tok) (t : Tok) : flatT (l ++ [t]) = flatT l ++ cellsT t := by
  unfold flatT; rw [List.flatMap_append]; simp
theorem flatT_length (l : List Tok) : (flatT l).length = l.length * 4 := by
  induction l with
  | nil => rfl
  | cons a t ih => unfold flatT at *; rw [List.flatMap_cons, List.length_append, ih]; simp [cellsT]; omega
theorem tokAt_succ (a : Tok) (t : List Tok) (i : Nat) : tokAt (a :: t) (i + 1) = tokAt t i := rfl
theorem flatT_get : ∀ (l : List Tok) (i : Nat), i < l.length → (flatT l)[i * 4]? = some (.int .i64 (tokAt l i).kind) ∧ (flatT l)[i * 4 + 1]? = some (.string ⟨(tokAt l i).text.toArray⟩) ∧ (flatT l)[i * 4 + 2]? = some (.int .i64 (tokAt l i).num) ∧ (flatT l)[i * 4 + 3]? = some (.int .i64 (tokAt l i).line)
  | [], i, h => absurd h (by simp)
  | a :: t, 0, _ => ⟨rfl, rfl, rfl, rfl⟩
  | a :: t, i + 1, h => by
    have ih := flatT_get t i (by simpa using h)
    have e : flatT (a :: t) = cellsT a ++ flatT t := by unfold flatT; rw [List.flatMap_cons]
    have hl : (cellsT a).length = 4 := rfl
    rw [e, List.getElem?_append_right (by omega), List.getElem?_append_right (by omega), List.getElem?_append_right (by omega), List.getElem?_append_right (by omega), tokAt_succ, hl]
    rw [show (i + 1) * 4 - 4 = i * 4 by omega, show (i + 1) * 4 + 1 - 4 = i * 4 + 1 by omega, show (i + 1) * 4 + 2 - 4 = i * 4 + 2 by omega, show (i + 1) * 4 + 3 - 4 = i * 4 + 3 by omega]
    exact ih
/-- The tokens of a slice in memory. -/
def Tl (w : World) (v : Value) (l : List Tok) : Prop := ∃ (ao : Option Addr) (cap : Nat), v = .slice ao l.length cap ∧ l.length ≤ cap ∧ (0 < l.length → ∃ A, ao = some A ∧ ∀ i, i < l.length →
  w.cell? (A.add (i * 4)) = some (.int .i64 (tokAt l i).kind) ∧ w.cell? ⟨(A.add (i * 4)).block, (A.add (i * 4)).off + 1, none⟩ = some (.string ⟨(tokAt l i).text.toArray⟩) ∧
  w.cell? ⟨(A.add (i * 4)).block, (A.add (i * 4)).off + 2, none⟩ = some (.int .i64 (tokAt l i).num) ∧ w.cell? ⟨(A.add (i * 4)).block, (A.add (i * 4)).off + 3, none⟩ = some (.int .i64 (tokAt l i).line))
theorem Tl.keep {w1 w2 : World} {v : Value} {l : List Tok} (h2 : Below w1.heap.size w1 w2) (h : Tl w1 v l) : Tl w2 v l := by
  obtain ⟨ao, cap, rfl, hc, hA⟩ := h
  refine ⟨ao, cap, rfl, hc, fun hn => ?_⟩
  obtain ⟨A, hA1, hA2⟩ := hA hn
  exact ⟨A, hA1, fun i hi => ⟨cell_later' h2 (hA2 i hi).1, cell_later' h2 (hA2 i hi).2.1, cell_later' h2 (hA2 i hi).2.2.1, cell_later' h2 (hA2 i hi).2.2.2⟩⟩
theorem Tl.nil (w : World) : Tl w (.slice none 0 0) [] := ⟨none, 0, rfl, Nat.le_refl _, fun h => absurd h (by simp)⟩
theorem info_tok : (Tryd.prog.info? 31).map (fun i => (i.zero, i.size, i.bytes)) = some (some (.agg #[.int .i64 0, .string ⟨#[]⟩, .int .i64 0, .int .i64 0]), 4, 40) := by kernel_rfl
theorem info_tok4 : ∃ i, Tryd.prog.info? 31 = some i ∧ i.zero = some (.agg #[.int .i64 0, .string ⟨#[]⟩, .int .i64 0, .int .i64 0]) ∧ i.size = 4 ∧ i.bytes = 40 := by
  have h := info_tok
  cases hq : Tryd.prog.info? 31 with
  | none => rw [hq] at h; cases h
  | some i =>
    rw [hq] at h
    simp only [Option.map_some, Option.some.injEq, Prod.mk.injEq] at h
    exact ⟨i, rfl, h.1, h.2.1, h.2.2⟩
theorem own_tl {w : World} {B e : Nat} {v : Value} {l : List Tok} (h : w.ownsRow B e 4 v l.length (flatT l)) : Tl w v l := by
  have h0 := h
  rcases h.2 with ⟨rfl, hz⟩ | ⟨g, cap, cur, rfl, hg, hc, hcap, h3⟩
  · obtain rfl : l = [] := List.eq_nil_of_length_eq_zero hz
    exact Tl.nil w
  · refine ⟨some ⟨g, 0, none⟩, cap, rfl, hcap, fun _ => ⟨_, rfl, fun i hi => ?_⟩⟩
    obtain ⟨f0, f1, f2, f3⟩ := flatT_get l i hi
    have c := h0.cells (g := g) rfl
    have c0 := c _ _ f0
    have c1 := c _ _ f1
    have c2 := c _ _ f2
    have c3 := c _ _ f3
    rw [add_one_of _ _ (by omega)] at c1 c2 c3
    have eb : ((⟨g, 0, none⟩ : Addr).add (i * 4)).block = g := by unfold Addr.add; split <;> rfl
    have eo : ((⟨g, 0, none⟩ : Addr).add (i * 4)).off = i * 4 := by
      unfold Addr.add; split
      · simp; omega
      · simp
    rw [eb, eo]
    simp only [Nat.zero_add] at c1 c2 c3
    exact ⟨c0, c1, c2, c3⟩
/-- The four cells of a place of a slice. -/
theorem Tl.at' {w : World} {ao : Option Addr} {n cap : Nat} {l : List Tok} (h : Tl w (.slice ao n cap) l) {i : Nat} (hi : i < l.length) : ∃ A, ao = some A ∧ n = l.length ∧
    w.cell? (A.add (i * 4)) = some (.int .i64 (tokAt l i).kind) ∧ w.cell? ⟨(A.add (i * 4)).block, (A.add (i * 4)).off + 1, none⟩ = some (.string ⟨(tokAt l i).text.toArray⟩) ∧
    w.cell? ⟨(A.add (i * 4)).block, (A.add (i * 4)).off + 2, none⟩ = some (.int .i64 (tokAt l i).num) ∧ w.cell? ⟨(A.add (i * 4)).block, (A.add (i * 4)).off + 3, none⟩ = some (.int .i64 (tokAt l i).line) := by
  obtain ⟨ao', cap', e, hc, hA⟩ := h
  cases e
  obtain ⟨A, rfl, hA2⟩ := hA (by omega)
  exact ⟨A, rfl, rfl, hA2 i hi⟩
theorem tokAt_mem {l : List Tok} {i : Nat} (h : i < l.length) : tokAt l i ∈ l := by
  unfold tokAt; rw [List.getD_eq_getElem?_getD, List.getElem?_eq_getElem h]; exact List.getElem_mem h
theorem take_tok {l : List Tok} {i : Nat} (h : i < l.length) : l.take (i + 1) = l.take i ++ [tokAt l i] := by
  unfold tokAt; rw [List.take_add_one, List.getD_eq_getElem?_getD, List.getElem?_eq_getElem h]; rfl
/-- A slice literal of one token. -/
theorem Tl.lit (w : World) (k n l : Int) (x : ByteArray) (t : TypeId) (tx : List UInt8) (h : x.data.toList = tx) : Tl (w.alloc (.cells #[.int .i64 k, .string x, .int .i64 n, .int .i64 l] t)) (.slice (some ⟨w.heap.size, 0, none⟩) 1 1) [⟨k, tx, n, l⟩] := by
  have hx : x = ⟨tx.toArray⟩ := by subst h; cases x; simp
  refine ⟨some ⟨w.heap.size, 0, none⟩, 1, rfl, Nat.le_refl _, fun _ => ⟨_, rfl, fun i hi => ?_⟩⟩
  obtain rfl : i = 0 := by simp at hi; exact hi
  have eA : (⟨w.heap.size, 0, none⟩ : Addr).add (0 * 4) = ⟨w.heap.size, 0, none⟩ := by unfold Addr.add; rfl
  rw [eA, hx]
  refine ⟨?_, ?_, ?_, ?_⟩ <;> go_simp <;> rfl
/-- What Tokenize leaves: tokens, line, error. -/
def TokOut (L : List Tok) (ln e0 : Int) (w : World) (e : Ending) (w' : World) : Prop := ∃ v, e = .returned (.tuple #[v, .int .i64 ln, .int .i64 e0]) ∧ Tl w' v L ∧ Below w.heap.size w w'
end Go.Proofs.YtcohjleolidngaaDoor
