/-
  Slices of points of layer 4: as they come in, and as a row that a loop appends to. No condition.
-/
import Derived.Test.YtllhdalfhhjigaaKit
import Derived.Test.YtllhdalfhhjigaaPolyPlain
import Derived.Test.YtllhdalfhhjigaaGeoFrame
namespace Go.Proofs.Ytllhdalfhhjigaa
open Go.ChangeShapes Go.WideShapes Go.ChangeAt Go.RowKit Go.Joins

/-- The points of a slice in memory. -/
def Pl (w : World) (v : Value) (l : List Pt) : Prop := ∃ (ao : Option Addr) (cap : Nat), v = .slice ao l.length cap ∧ l.length ≤ cap ∧ (0 < l.length → ∃ A, ao = some A ∧ ∀ i, i < l.length →
  w.cell? (A.add (i * 2)) = some (.int .i64 (pa l i).1) ∧ w.cell? ⟨(A.add (i * 2)).block, (A.add (i * 2)).off + 1, none⟩ = some (.int .i64 (pa l i).2))
theorem Pl.keep {w1 w2 : World} {v : Value} {l : List Pt} (h2 : Below w1.heap.size w1 w2) (h : Pl w1 v l) : Pl w2 v l := by
  obtain ⟨ao, cap, rfl, hc, hA⟩ := h
  refine ⟨ao, cap, rfl, hc, fun hn => ?_⟩
  obtain ⟨A, hA1, hA2⟩ := hA hn
  exact ⟨A, hA1, fun i hi => ⟨cell_later' h2 (hA2 i hi).1, cell_later' h2 (hA2 i hi).2⟩⟩
theorem Pl.nil (w : World) : Pl w (.slice none 0 0) [] := ⟨none, 0, rfl, Nat.le_refl _, fun h => absurd h (by simp)⟩

theorem info_pt : (Try.prog.info? 33).map (fun i => (i.zero, i.size, i.bytes)) = some (some (.agg #[.int .i64 0, .int .i64 0]), 2, 16) := by kernel_rfl
theorem pa_range (f : Nat → Pt) (n i : Nat) (h : i < n) : pa ((List.range n).map f) i = f i := by
  unfold pa; rw [List.getD_eq_getElem?_getD, List.getElem?_map, List.getElem?_range h]; rfl

/-- A slice of points that came in: its points. -/
theorem open_points {H : Type} {enc : TypeId × Value → H} {w : World} {base : Nat} {spare : Nat → Bool} {held : Bool} {r : Reach} {b0 : Nat} {v : Value} {d : DataW H} {p : List MemPlace}
    (hv : Value.okWide Try.prog w r b0 22 v) (h : DataW.Trod enc Try.prog w base spare held 22 v d p) : ∃ l : List Pt, Pl w v l ∧ l.length ≤ maxLen := by
  obtain ⟨a0, len, cap, rfl⟩ := okWide_slice Try.underlying22 hv
  obtain ⟨fuel, hf⟩ := h
  rcases Deep.open_slice Try.underlying22 hf with ⟨hcs, hx⟩ | ⟨a, len', cap', m, n, D, Pp, hcs, hb, hl, hm, hmm, hx, hi⟩
  · simp [Value.cells] at hcs
    obtain ⟨rfl, rfl, rfl⟩ := hcs
    exact ⟨[], Pl.nil w, by unfold maxLen; simp⟩
  · simp [Value.cells] at hcs
    obtain ⟨rfl, rfl, rfl⟩ := hcs
    have hlm : len ≤ m := by rw [hmm]; split <;> omega
    have hci : Try.prog.cellsOf 3 = 1 := by kernel_rfl
    have key : ∀ i, i < len → ∃ t : Pt, w.cell? (a.add (i * 2)) = some (.int .i64 t.1) ∧ w.cell? ⟨(a.add (i * 2)).block, (a.add (i * 2)).off + 1, none⟩ = some (.int .i64 t.2) := by
      intro i hil
      obtain ⟨cs', hc, ht'⟩ := hi i (by omega)
      rw [cellsPt] at hc
      obtain ⟨_, hcl, hat⟩ := World.cells?_some hc
      obtain ⟨y0, y1, q, _, _, g0, g1⟩ := trod_struct2 Try.underlying33 ht'
      obtain ⟨c0, c1, rfl⟩ : ∃ c0 c1, cs' = [c0, c1] := by
        match cs', hcl with
        | [c0, c1], _ => exact ⟨c0, c1, rfl⟩
      simp [hci] at g0 g1
      obtain ⟨x0, e0, _, _⟩ := DataW.trod_int Try.underlying3 g0
      obtain ⟨x1, e1, _, _⟩ := DataW.trod_int Try.underlying3 g1
      simp at e0 e1
      subst e0 e1
      have k0 := hat 0 (by omega)
      have k1 := hat 1 (by omega)
      rw [add_one_of _ 1 (by omega)] at k1
      exact ⟨(x0, x1), k0, k1⟩
    obtain ⟨f, hf'⟩ := Deep.choose_lt key
    have hlen : ((List.range len).map f).length = len := by simp
    refine ⟨(List.range len).map f, ⟨some a, cap, by rw [hlen], by rw [hlen]; exact hl, fun _ => ⟨a, rfl, fun i hi => ?_⟩⟩, by rw [hlen]; omega⟩
    rw [hlen] at hi
    rw [pa_range f len i hi]
    exact hf' i hi

/-- The cells of points, one behind the other. -/
def flat2 (l : List Pt) : List Value := l.flatMap fun p => [.int .i64 p.1, .int .i64 p.2]
theorem flat2_nil : flat2 [] = [] := rfl
theorem flat2_snoc (l : List Pt) (p : Pt) : flat2 (l ++ [p]) = flat2 l ++ [.int .i64 p.1, .int .i64 p.2] := by
  unfold flat2; rw [List.flatMap_append]; simp
theorem flat2_length (l : List Pt) : (flat2 l).length = l.length * 2 := by
  induction l with
  | nil => rfl
  | cons a t ih => unfold flat2 at *; rw [List.flatMap_cons, List.length_append, ih]; simp; omega
theorem flat2_get : ∀ (l : List Pt) (i : Nat), i < l.length → (flat2 l)[i * 2]? = some (.int .i64 (pa l i).1) ∧ (flat2 l)[i * 2 + 1]? = some (.int .i64 (pa l i).2)
  | [], i, h => absurd h (by simp)
  | a :: t, 0, _ => ⟨rfl, rfl⟩
  | a :: t, i + 1, h => by
    have ih := flat2_get t i (by simpa using h)
    have e : flat2 (a :: t) = [.int .i64 a.1, .int .i64 a.2] ++ flat2 t := by unfold flat2; rw [List.flatMap_cons]
    rw [e, List.getElem?_append_right (by simp; omega), List.getElem?_append_right (by simp; omega), pa_succ]
    have e1 : (i + 1) * 2 - [Value.int .i64 a.1, Value.int .i64 a.2].length = i * 2 := by simp; omega
    have e2 : (i + 1) * 2 + 1 - [Value.int .i64 a.1, Value.int .i64 a.2].length = i * 2 + 1 := by simp; omega
    rw [e1, e2]
    exact ih
theorem own_pl {w : World} {B e : Nat} {v : Value} {l : List Pt} (h : w.ownsRow B e 2 v l.length (flat2 l)) : Pl w v l := by
  have h0 := h
  rcases h.2 with ⟨rfl, hz⟩ | ⟨g, cap, cur, rfl, hg, hc, hcap, h3⟩
  · obtain rfl : l = [] := List.eq_nil_of_length_eq_zero hz
    exact Pl.nil w
  · refine ⟨some ⟨g, 0, none⟩, cap, rfl, hcap, fun _ => ⟨_, rfl, fun i hi => ?_⟩⟩
    obtain ⟨f0, f1⟩ := flat2_get l i hi
    have c := h0.cells (g := g) rfl
    have c0 := c _ _ f0
    have c1 := c _ _ f1
    rw [add_one_of _ _ (by omega)] at c1
    have eb : ((⟨g, 0, none⟩ : Addr).add (i * 2)).block = g := by unfold Addr.add; split <;> rfl
    have eo : ((⟨g, 0, none⟩ : Addr).add (i * 2)).off = i * 2 := by
      unfold Addr.add; split
      · simp; omega
      · simp
    rw [eb, eo]
    simp only [Nat.zero_add] at c1
    exact ⟨c0, c1⟩
theorem cell2_new (w : World) (a b : Value) (t : TypeId) : ∀ j u, [a, b][j]? = some u → (w.alloc (.cells #[a, b] t)).cell? ((⟨w.heap.size, 0, none⟩ : Addr).add j) = some u := by
  intro j u hj
  match j, hj with
  | 0, hj => simp at hj; subst hj; simp [Addr.add]
  | 1, hj => simp at hj; subst hj; simp [Addr.add]
  | (j + 2), hj => simp at hj
end Go.Proofs.Ytllhdalfhhjigaa
