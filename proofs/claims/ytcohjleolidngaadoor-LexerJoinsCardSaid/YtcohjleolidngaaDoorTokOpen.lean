/-
  A slice of tokens that comes in: its tokens. No condition.
-/
import Derived.Test.YtcohjleolidngaaDoorLexOk
import Derived.OpenShut
import Derived.Deep.Slices
namespace Go.Proofs.YtcohjleolidngaaDoor
open Go.ChangeShapes Go.WideShapes Go.ChangeAt Go.RowKit Go.Joins lex

theorem cellsTok : Tryd.prog.cellsOf 31 = 4 := by kernel_rfl
theorem tokAt_range (f : Nat → Tok) (n i : Nat) (h : i < n) : tokAt ((List.range n).map f) i = f i := by
  unfold tokAt; rw [List.getD_eq_getElem?_getD, List.getElem?_map, List.getElem?_range h]; rfl
theorem open_tokens {H : Type} {enc : TypeId × Value → H} {w : World} {base : Nat} {spare : Nat → Bool} {held : Bool} {r : Reach} {b0 : Nat} {v : Value} {d : DataW H} {p : List MemPlace}
    (hv : Value.okWide Tryd.prog w r b0 22 v) (h : DataW.Trod enc Tryd.prog w base spare held 22 v d p) : ∃ l : List Tok, Tl w v l ∧ l.length ≤ maxLen ∧ ∀ t ∈ l, numR t := by
  obtain ⟨a0, len, cap, rfl⟩ := okWide_slice Tryd.underlying22 hv
  obtain ⟨fuel, hf⟩ := h
  rcases Deep.open_slice Tryd.underlying22 hf with ⟨hcs, hx⟩ | ⟨a, len', cap', m, n, D, Pp, hcs, hb, hl, hm, hmm, hx, hi⟩
  · simp [Value.cells] at hcs
    obtain ⟨rfl, rfl, rfl⟩ := hcs
    exact ⟨[], Tl.nil w, by unfold maxLen; simp, fun t ht => by cases ht⟩
  · simp [Value.cells] at hcs
    obtain ⟨rfl, rfl, rfl⟩ := hcs
    have hlm : len ≤ m := by rw [hmm]; split <;> omega
    have hci : Tryd.prog.cellsOf 3 = 1 := by kernel_rfl
    have hcs : Tryd.prog.cellsOf 9 = 1 := by kernel_rfl
    have key : ∀ i, i < len → ∃ t : Tok, w.cell? (a.add (i * 4)) = some (.int .i64 t.kind) ∧ w.cell? ⟨(a.add (i * 4)).block, (a.add (i * 4)).off + 1, none⟩ = some (.string ⟨t.text.toArray⟩) ∧
        w.cell? ⟨(a.add (i * 4)).block, (a.add (i * 4)).off + 2, none⟩ = some (.int .i64 t.num) ∧ w.cell? ⟨(a.add (i * 4)).block, (a.add (i * 4)).off + 3, none⟩ = some (.int .i64 t.line) ∧ numR t := by
      intro i hil
      obtain ⟨cs', hc, ht'⟩ := hi i (by omega)
      rw [cellsTok] at hc
      obtain ⟨_, hcl, hat⟩ := World.cells?_some hc
      obtain ⟨y0, y1, y2, y3, q, _, _, g0, g1, g2, g3⟩ := trod_struct4 Tryd.underlying31 ht'
      obtain ⟨c0, c1, c2, c3, rfl⟩ : ∃ c0 c1 c2 c3, cs' = [c0, c1, c2, c3] := by
        match cs', hcl with
        | [c0, c1, c2, c3], _ => exact ⟨c0, c1, c2, c3, rfl⟩
      simp [hci, hcs] at g0 g1 g2 g3
      obtain ⟨x0, e0, _, _⟩ := DataW.trod_int Tryd.underlying3 g0
      obtain ⟨x1, e1, _, _⟩ := DataW.trod_string Tryd.underlying9 g1
      obtain ⟨x2, e2, _, wf2⟩ := DataW.trod_int Tryd.underlying3 g2
      obtain ⟨x3, e3, _, _⟩ := DataW.trod_int Tryd.underlying3 g3
      simp at e0 e1 e2 e3
      subst e0 e1 e2 e3
      have k0 := hat 0 (by omega)
      have k1 := hat 1 (by omega)
      have k2 := hat 2 (by omega)
      have k3 := hat 3 (by omega)
      rw [add_one_of _ 1 (by omega)] at k1
      rw [add_one_of _ 2 (by omega)] at k2
      rw [add_one_of _ 3 (by omega)] at k3
      exact ⟨⟨x0, x1.data.toList, x2, x3⟩, k0, k1, k2, k3, bounds_i64 wf2⟩
    haveI : Inhabited Tok := ⟨⟨0, [], 0, 0⟩⟩
    obtain ⟨f, hf'⟩ := Deep.choose_lt key
    have hlen : ((List.range len).map f).length = len := by simp
    refine ⟨(List.range len).map f, ⟨some a, cap, by rw [hlen], by rw [hlen]; exact hl, fun _ => ⟨a, rfl, fun i hi => ?_⟩⟩, by rw [hlen]; omega, fun t ht => ?_⟩
    · rw [hlen] at hi
      rw [tokAt_range f len i hi]
      obtain ⟨g0, g1, g2, g3, _⟩ := hf' i hi
      exact ⟨g0, g1, g2, g3⟩
    · obtain ⟨i, hi, rfl⟩ := List.mem_map.1 ht
      exact (hf' i (List.mem_range.1 hi)).2.2.2.2
end Go.Proofs.YtcohjleolidngaaDoor
