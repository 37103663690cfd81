/-
  What SameInts, Same and Degree of the reference of layer 14 return. Conditions: lists or digraphs in memory.
-/
import Derived.Test.YtncedgnpdojkkaaDigRef1
import Derived.Laws.StructEq
import Derived.Deep.QuietTactic
import Derived.Lib.QuietBelow
namespace Go.Proofs.Ytncedgnpdojkkaa.dig
open Go.RowKit

theorem take_same {a b : List Int} {k : Nat} (ha : k < a.length) (hb : k < b.length) (h : a.take k = b.take k) (he : a[k] = b[k]) : a.take (k + 1) = b.take (k + 1) := by
  rw [List.take_succ_eq_append_getElem ha, List.take_succ_eq_append_getElem hb, h, he]
def dgb (W : World) (b : Nat) (n : Int) (v : Value) : Prop := W.cell? ⟨b, 0, none⟩ = some (.int .i64 n) ∧ W.cell? ⟨b, 1, none⟩ = some v ∧ W.frozen? ⟨b, 0, none⟩ = false ∧ W.frozen? ⟨b, 1, none⟩ = false
theorem dgb_new (w : World) (n : Int) (ao : Option Addr) (k c : Nat) (t : TypeId) : dgb (w.alloc (.cells #[.int .i64 n, .slice ao k c] t)) w.heap.size n (.slice ao k c) := by
  refine ⟨?_, ?_, ?_, ?_⟩ <;> go_simp
theorem dgb_below {B : Nat} {w w' : World} {b : Nat} {n : Int} {v : Value} (h : Below B w w') (hb : b < B) (hd : dgb w b n v) : dgb w' b n v := by
  obtain ⟨h0, h1, h2, h3⟩ := hd
  exact ⟨by rw [h.cell (p := ⟨b, 0, none⟩) hb]; exact h0, by rw [h.cell (p := ⟨b, 1, none⟩) hb]; exact h1, by rw [h.frozen (p := ⟨b, 0, none⟩) hb]; exact h2, by rw [h.frozen (p := ⟨b, 1, none⟩) hb]; exact h3⟩
theorem dgb_set1 {w : World} {b : Nat} {n : Int} {v : Value} (ao : Option Addr) (k c : Nat) (h : dgb w b n v) : dgb (w.setCell ⟨b, 1, none⟩ (.slice ao k c)) b n (.slice ao k c) := by
  obtain ⟨h0, h1, h2, h3⟩ := h
  refine ⟨?_, ?_, ?_, ?_⟩ <;> go_simp
theorem dgb_far {w : World} {b d o : Nat} {n : Int} {v u : Value} (hb : b ≠ d) (h : dgb w b n v) : dgb (w.setCell ⟨d, o, none⟩ u) b n v := by
  obtain ⟨h0, h1, h2, h3⟩ := h
  refine ⟨?_, ?_, ?_, ?_⟩ <;> go_simp
theorem dgb_alloc {w : World} {b : Nat} {n : Int} {v : Value} (o : Obj) (h : dgb w b n v) : dgb (w.alloc o) b n v := dgb_below (al1 ..) (World.block_lt_of_cell? w _ h.1) h
theorem guard_ar : Try.prog.eqGuardType Try.prog.depth 37 = false := by kernel_rfl
theorem neq_ar (u v : Ar) (dq : Bool) (h : Hid (decide (u ≠ v) = dq)) (w : World) : (binOp .neq 37 (.agg #[.int .i64 u.1, .int .i64 u.2]) (.agg #[.int .i64 v.1, .int .i64 v.2])).run Try.prog w = .ok (.bool dq) w := by
  have hu : Try.prog.underlying 37 = some (.struct (Try.prog.fieldsOf 37)) := by kernel_rfl
  have hp : Try.prog.stoodInHeld 37 = false := by kernel_rfl
  obtain ⟨a0, a1⟩ := u
  obtain ⟨c0, c1⟩ := v
  rw [run_neq_struct, run_equalIn_agg w 9999 _ _ _ hu hp, ← h.out]
  by_cases h1 : a0 = c0 <;> by_cases h2 : a1 = c1 <;> simp [go_sem, Op.eqFields, Program.fieldsOf, Try.underlying37, Try.underlying3, h1, h2]
theorem take_eq {α : Type} {a b : List α} {k : Nat} (ha : k < a.length) (hb : k < b.length) (h : a.take k = b.take k) (he : a[k] = b[k]) : a.take (k + 1) = b.take (k + 1) := by
  rw [List.take_succ_eq_append_getElem ha, List.take_succ_eq_append_getElem hb, h, he]
theorem take_ne {α : Type} {a b : List α} {k : Nat} (ha : k < a.length) (hb : k < b.length) (he : a[k] ≠ b[k]) : a ≠ b := fun e => he (by subst e; rfl)
theorem take_all {α : Type} {a b : List α} {k : Nat} (hl : a.length = b.length) (hk : a.length ≤ k) (h : a.take k = b.take k) : a = b := by
  rw [List.take_of_length_le hk, List.take_of_length_le (by omega)] at h; exact h
theorem dgb_keep {w w' : World} {b : Nat} {n : Int} {v : Value} (h : dgb w b n v) (hb : Below w.heap.size w w') : dgb w' b n v := dgb_below hb (World.block_lt_of_cell? w _ h.1) h
end Go.Proofs.Ytncedgnpdojkkaa.dig
