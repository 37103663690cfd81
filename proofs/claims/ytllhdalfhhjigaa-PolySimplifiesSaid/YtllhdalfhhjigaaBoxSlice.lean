/-
  Slices of boxes of layer 3: as they come in, and as a row that a loop appends to. No condition.
-/
import Derived.Test.YtllhdalfhhjigaaBoxUnion
import Derived.Test.YtllhdalfhhjigaaBoxFrame
import Derived.Deep.Slices
import Derived.Carry
import Derived.OwnWalk
import Derived.Laws.AppendOwn
namespace Go.Proofs.Ytllhdalfhhjigaa
open Go.ChangeShapes Go.WideShapes Go.ChangeAt Go.RowKit Go.Joins

theorem info_box : (Try.prog.info? 27).map (fun i => (i.zero, i.size, i.bytes)) = some (some (.agg #[.int .i64 0, .int .i64 0, .int .i64 0, .int .i64 0]), 4, 32) := by kernel_rfl

/-- A slice of boxes that came in: its length, and the boxes in its cells. -/
theorem open_boxes {H : Type} {enc : TypeId × Value → H} {w : World} {base : Nat} {spare : Nat → Bool} {held : Bool} {r : Reach} {b0 : Nat} {v : Value} {d : DataW H} {p : List MemPlace}
    (hv : Value.okWide Try.prog w r b0 44 v) (h : DataW.Trod enc Try.prog w base spare held 44 v d p) : ∃ (n : Nat) (X Y Z U : Nat → Int), Sl w v n X Y Z U ∧ n ≤ maxLen := by
  obtain ⟨a0, len, cap, rfl⟩ := okWide_slice Try.underlying44 hv
  obtain ⟨fuel, hf⟩ := h
  rcases Deep.open_slice Try.underlying44 hf with ⟨hcs, hx⟩ | ⟨a, len', cap', m, n, D, Pl, hcs, hb, hl, hm, hmm, hx, hi⟩
  · simp [Value.cells] at hcs
    obtain ⟨rfl, rfl, rfl⟩ := hcs
    exact ⟨0, fun _ => 0, fun _ => 0, fun _ => 0, fun _ => 0, ⟨none, 0, rfl, Nat.le_refl _, fun h => absurd h (by omega)⟩, by unfold maxLen; omega⟩
  · simp [Value.cells] at hcs
    obtain ⟨rfl, rfl, rfl⟩ := hcs
    have hlm : len ≤ m := by rw [hmm]; split <;> omega
    have hci : Try.prog.cellsOf 3 = 1 := by kernel_rfl
    have key : ∀ i, i < len → ∃ t : Int × Int × Int × Int, w.cell? (a.add (i * 4)) = some (.int .i64 t.1) ∧ w.cell? ⟨(a.add (i * 4)).block, (a.add (i * 4)).off + 1, none⟩ = some (.int .i64 t.2.1) ∧
        w.cell? ⟨(a.add (i * 4)).block, (a.add (i * 4)).off + 2, none⟩ = some (.int .i64 t.2.2.1) ∧ w.cell? ⟨(a.add (i * 4)).block, (a.add (i * 4)).off + 3, none⟩ = some (.int .i64 t.2.2.2) := by
      intro i hil
      obtain ⟨cs', hc, ht'⟩ := hi i (by omega)
      rw [cellsBox] at hc
      obtain ⟨_, hcl, hat⟩ := World.cells?_some hc
      obtain ⟨y0, y1, y2, y3, q, _, _, g0, g1, g2, g3⟩ := trod_struct4 Try.underlying27 ht'
      obtain ⟨c0, c1, c2, c3, rfl⟩ : ∃ c0 c1 c2 c3, cs' = [c0, c1, c2, c3] := by
        match cs', hcl with
        | [c0, c1, c2, c3], _ => exact ⟨c0, c1, c2, c3, rfl⟩
      simp [hci] at g0 g1 g2 g3
      obtain ⟨x0, e0, _, _⟩ := DataW.trod_int Try.underlying3 g0
      obtain ⟨x1, e1, _, _⟩ := DataW.trod_int Try.underlying3 g1
      obtain ⟨x2, e2, _, _⟩ := DataW.trod_int Try.underlying3 g2
      obtain ⟨x3, e3, _, _⟩ := DataW.trod_int Try.underlying3 g3
      simp at e0 e1 e2 e3
      subst e0 e1 e2 e3
      have k0 := hat 0 (by omega)
      have k1 := hat 1 (by omega)
      have k2 := hat 2 (by omega)
      have k3 := hat 3 (by omega)
      rw [add_one_of _ 1 (by omega)] at k1
      rw [add_one_of _ 2 (by omega)] at k2
      rw [add_one_of _ 3 (by omega)] at k3
      exact ⟨(x0, x1, x2, x3), k0, k1, k2, k3⟩
    obtain ⟨f, hf'⟩ := Deep.choose_lt key
    exact ⟨len, fun i => (f i).1, fun i => (f i).2.1, fun i => (f i).2.2.1, fun i => (f i).2.2.2, ⟨some a, cap, rfl, hl, fun _ => ⟨a, rfl, hf'⟩⟩, by omega⟩

/-- The cells of the first k boxes, one behind the other. -/
def flat (X Y Z U : Nat → Int) (k : Nat) : List Value := (List.range k).flatMap fun i => [.int .i64 (X i), .int .i64 (Y i), .int .i64 (Z i), .int .i64 (U i)]
theorem flat_zero (X Y Z U : Nat → Int) : flat X Y Z U 0 = [] := rfl
theorem flat_succ (X Y Z U : Nat → Int) (k : Nat) : flat X Y Z U (k + 1) = flat X Y Z U k ++ [.int .i64 (X k), .int .i64 (Y k), .int .i64 (Z k), .int .i64 (U k)] := by
  unfold flat; rw [List.range_succ, List.flatMap_append]; simp
theorem flat_length (X Y Z U : Nat → Int) (k : Nat) : (flat X Y Z U k).length = k * 4 := by
  induction k with
  | zero => rfl
  | succ k ih => rw [flat_succ, List.length_append, ih]; simp; omega
theorem flat_get (X Y Z U : Nat → Int) (k i : Nat) (h : i < k) :
    (flat X Y Z U k)[i * 4]? = some (.int .i64 (X i)) ∧ (flat X Y Z U k)[i * 4 + 1]? = some (.int .i64 (Y i)) ∧ (flat X Y Z U k)[i * 4 + 2]? = some (.int .i64 (Z i)) ∧ (flat X Y Z U k)[i * 4 + 3]? = some (.int .i64 (U i)) := by
  induction k with
  | zero => omega
  | succ k ih =>
    rw [flat_succ]
    have hl := flat_length X Y Z U k
    by_cases hik : i < k
    · have := ih hik
      rw [List.getElem?_append_left (by omega), List.getElem?_append_left (by omega), List.getElem?_append_left (by omega), List.getElem?_append_left (by omega)]
      exact this
    · obtain rfl : i = k := by omega
      rw [List.getElem?_append_right (by omega), List.getElem?_append_right (by omega), List.getElem?_append_right (by omega), List.getElem?_append_right (by omega), hl]
      simp [show i * 4 + 1 - i * 4 = 1 by omega, show i * 4 + 2 - i * 4 = 2 by omega, show i * 4 + 3 - i * 4 = 3 by omega]
theorem own_sl {w : World} {B e : Nat} {v : Value} {n : Nat} {X Y Z U : Nat → Int} (h : w.ownsRow B e 4 v n (flat X Y Z U n)) : Sl w v n X Y Z U := by
  have h0 := h
  rcases h.2 with ⟨rfl, rfl⟩ | ⟨g, cap, cur, rfl, hg, hc, hcap, h3⟩
  · exact ⟨none, 0, rfl, Nat.le_refl _, fun h => absurd h (by omega)⟩
  · refine ⟨some ⟨g, 0, none⟩, cap, rfl, hcap, fun _ => ⟨_, rfl, fun i hi => ?_⟩⟩
    obtain ⟨f0, f1, f2, f3⟩ := flat_get X Y Z U n i hi
    have c := h0.cells (g := g) rfl
    have c0 := c _ _ f0
    have c1 := c _ _ f1
    have c2 := c _ _ f2
    have c3 := c _ _ f3
    rw [add_one_of _ _ (by omega)] at c1 c2 c3
    have eb : ((⟨g, 0, none⟩ : Addr).add (i * 4)).block = g := by unfold Addr.add; split <;> rfl
    have eo : ((⟨g, 0, none⟩ : Addr).add (i * 4)).off = i * 4 := by
      unfold Addr.add; split
      · simp; omega
      · simp
    rw [eb, eo]
    simp only [Nat.zero_add, ← Nat.add_assoc] at c1 c2 c3
    exact ⟨c0, c1, c2, c3⟩
end Go.Proofs.Ytllhdalfhhjigaa
