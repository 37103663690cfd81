/-
  Small facts for a statement that draws its order, makes memory by calls and lays points of its own: what stays of a point that is read, what stands in the points that are laid. No function of the program is named here; no condition.
-/
import Derived.Test.YtfdhnjoiklhiaaaKit
namespace Go.Proofs.Ytfdhnjoiklhiaaa
open Go.RowKit

theorem ow2_set {w : World} {b : Nat} {x y : Int} (x' y' : Int) (h : ow2 w b x y) : ow2 ((w.setCell ⟨b, 0, none⟩ (.int .i64 x')).setCell ⟨b, 1, none⟩ (.int .i64 y')) b x' y' := by
  obtain ⟨h0, h1, f0, f1⟩ := h
  refine ⟨?_, ?_, ?_, ?_⟩ <;> go_simp
theorem ow2_set0 {w : World} {b : Nat} (x' y' : Int) (h : ow2 w b 0 0) : ow2 ((w.setCell ⟨b, 0, none⟩ (.int .i64 x')).setCell ⟨b, 1, none⟩ (.int .i64 y')) b x' y' := ow2_set x' y' h
theorem ow2_far {w : World} {b g : Nat} {x y : Int} {u v : Value} (hb : b ≠ g) (h : ow2 w b x y) : ow2 ((w.setCell ⟨g, 0, none⟩ u).setCell ⟨g, 1, none⟩ v) b x y := by
  obtain ⟨h0, h1, f0, f1⟩ := h
  refine ⟨?_, ?_, ?_, ?_⟩ <;> go_simp
theorem ow2_drew {w : World} {b : Nat} {x y : Int} (h : ow2 w b x y) : ow2 w.drew b x y := h
theorem ow2_here {w : World} {b : Nat} (x y : Int) (t : TypeId) (h : b = w.heap.size) : ow2 (w.alloc (.cells #[.int .i64 x, .int .i64 y] t)) b x y := by
  subst h; exact ow2_new w x y t
theorem ow2_lt {w : World} {b : Nat} {x y : Int} (h : ow2 w b x y) : b < w.heap.size := by
  have := World.block_lt_of_cell? w _ h.1; simpa using this
theorem cell_set2 {w : World} {b b' o : Nat} {v x y : Value} (h : w.cell? ⟨b', o, none⟩ = some v) (hb : b ≠ b') : ((w.setCell ⟨b, 0, none⟩ x).setCell ⟨b, 1, none⟩ y).cell? ⟨b', o, none⟩ = some v := by
  have e : ∀ i, (⟨b, i, none⟩ : Addr) ≠ ⟨b', o, none⟩ := fun i hi => hb (congrArg Addr.block hi)
  rw [World.cell?_setCell_other _ _ _ _ (e 1), World.cell?_setCell_other _ _ _ _ (e 0)]; exact h

/-! The frame of such a statement, and a point of two cells that it reads. -/
section
variable {W w w' : World} {b g : Nat} {u v x y : Value}
theorem k_refl (hu : W.cell? ⟨b, 0, none⟩ = some u) (hv : W.cell? ⟨b, 1, none⟩ = some v) : Below W.heap.size W W ∧ W.cell? ⟨b, 0, none⟩ = some u ∧ W.cell? ⟨b, 1, none⟩ = some v :=
  ⟨Below.refl _ _, hu, hv⟩
theorem k_drew (h : Below W.heap.size W w ∧ w.cell? ⟨b, 0, none⟩ = some u ∧ w.cell? ⟨b, 1, none⟩ = some v) : Below W.heap.size W w.drew ∧ w.drew.cell? ⟨b, 0, none⟩ = some u ∧ w.drew.cell? ⟨b, 1, none⟩ = some v :=
  ⟨h.1.drew, h.2.1, h.2.2⟩
theorem k_call (hb : Below w.heap.size w w') (h : Below W.heap.size W w ∧ w.cell? ⟨b, 0, none⟩ = some u ∧ w.cell? ⟨b, 1, none⟩ = some v) : Below W.heap.size W w' ∧ w'.cell? ⟨b, 0, none⟩ = some u ∧ w'.cell? ⟨b, 1, none⟩ = some v :=
  ⟨below_keep hb h.1, cell_keep hb h.2.1, cell_keep hb h.2.2⟩
theorem k_alloc {o : Obj} (h : Below W.heap.size W w ∧ w.cell? ⟨b, 0, none⟩ = some u ∧ w.cell? ⟨b, 1, none⟩ = some v) : Below W.heap.size W (w.alloc o) ∧ (w.alloc o).cell? ⟨b, 0, none⟩ = some u ∧ (w.alloc o).cell? ⟨b, 1, none⟩ = some v :=
  k_call (al1 ..) h
theorem k_set (hg : W.heap.size ≤ g) (hn : g ≠ b) (h : Below W.heap.size W w ∧ w.cell? ⟨b, 0, none⟩ = some u ∧ w.cell? ⟨b, 1, none⟩ = some v) :
    Below W.heap.size W ((w.setCell ⟨g, 0, none⟩ x).setCell ⟨g, 1, none⟩ y) ∧ ((w.setCell ⟨g, 0, none⟩ x).setCell ⟨g, 1, none⟩ y).cell? ⟨b, 0, none⟩ = some u ∧ ((w.setCell ⟨g, 0, none⟩ x).setCell ⟨g, 1, none⟩ y).cell? ⟨b, 1, none⟩ = some v :=
  ⟨set2 h.1 hg, cell_set2 h.2.1 hn, cell_set2 h.2.2 hn⟩
end
end Go.Proofs.Ytfdhnjoiklhiaaa
