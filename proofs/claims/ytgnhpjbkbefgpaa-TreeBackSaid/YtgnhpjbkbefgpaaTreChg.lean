/-
  Blocks known whole, worlds that differ in some blocks alone, rows of pairs in a block of their own. No function of the program is named here; no condition.
-/
import Derived.Test.YtgnhpjbkbefgpaaTreCNa
namespace Go.Proofs.Ytgnhpjbkbefgpaa.tre
open Go.RowKit lex

/-- Block g holds these cells and may be written. -/
def blk (W : World) (g : Nat) (t : TypeId) (arr : Array Value) : Prop := W.heap[g]? = some (.cells arr t (0, 0))
theorem blk_cell {W : World} {g o : Nat} {t : TypeId} {arr : Array Value} (h : blk W g t arr) : W.cell? ⟨g, o, none⟩ = arr[o]? := by
  unfold blk at h; simp [World.cell?, h]
theorem blk_free {W : World} {g o : Nat} {t : TypeId} {arr : Array Value} (h : blk W g t arr) : W.frozen? ⟨g, o, none⟩ = false := by
  unfold blk at h; simp [World.frozen?, h]
theorem blk_lt {W : World} {g : Nat} {t : TypeId} {arr : Array Value} (h : blk W g t arr) : g < W.heap.size := by
  rcases Nat.lt_or_ge g W.heap.size with q | q
  · exact q
  · unfold blk at h; rw [Array.getElem?_eq_none (by omega)] at h; cases h
theorem blk_set {W : World} {g o : Nat} {t : TypeId} {arr : Array Value} (h : blk W g t arr) (u : Value) : blk (W.setCell ⟨g, o, none⟩ u) g t (arr.setIfInBounds o u) := by
  unfold blk at h ⊢
  unfold World.setCell
  rw [Array.getElem?_modify, if_pos rfl, h]
  rfl
theorem blk_far {W : World} {g g' o : Nat} {t : TypeId} {arr : Array Value} (h : blk W g t arr) (hne : g ≠ g') (u : Value) : blk (W.setCell ⟨g', o, none⟩ u) g t arr := by
  unfold blk at h ⊢; rw [Below.heap_setCell _ _ _ _ hne]; exact h
theorem blk_drew {W : World} {g : Nat} {t : TypeId} {arr : Array Value} (h : blk W g t arr) (n : Nat) : blk (W.drewN n) g t arr := h
theorem blk_type {W : World} {g : Nat} {t t' : TypeId} {a a' : Array Value} (h : blk W g t a) (h' : blk W g t' a') : t = t' ∧ a = a' := by
  unfold blk at h h'
  rw [h] at h'
  injection h' with h'
  injection h' with e1 e2 _
  exact ⟨e2, e1⟩
/-- A world that differs from another one in the blocks of S alone, and is no longer. -/
structure Chg (S : Nat → Prop) (w w' : World) : Prop where
  os : w'.os = w.os
  tape : w'.tape = w.tape
  output : w'.output = w.output
  size : w'.heap.size = w.heap.size
  block : ∀ b, ¬ S b → w'.heap[b]? = w.heap[b]?
theorem Chg.refl (S : Nat → Prop) (w : World) : Chg S w w := ⟨rfl, rfl, rfl, rfl, fun _ _ => rfl⟩
theorem Chg.trans {S : Nat → Prop} {a b c : World} (h : Chg S a b) (k : Chg S b c) : Chg S a c :=
  ⟨k.os.trans h.os, k.tape.trans h.tape, k.output.trans h.output, k.size.trans h.size, fun q hq => (k.block q hq).trans (h.block q hq)⟩
theorem Chg.mono {S T : Nat → Prop} {a b : World} (h : Chg S a b) (hs : ∀ q, S q → T q) : Chg T a b := ⟨h.os, h.tape, h.output, h.size, fun q hq => h.block q (fun e => hq (hs q e))⟩
theorem Chg.set {S : Nat → Prop} {a b : World} (h : Chg S a b) {g : Nat} (hg : S g) (o : Nat) (u : Value) : Chg S a (b.setCell ⟨g, o, none⟩ u) :=
  ⟨h.os, h.tape, h.output, by rw [show (b.setCell ⟨g, o, none⟩ u).heap.size = b.heap.size by simp [World.setCell]]; exact h.size, fun q hq => by rw [Below.heap_setCell _ _ _ _ (fun e => hq (by rw [e]; exact hg))]; exact h.block q hq⟩
theorem Chg.drew {S : Nat → Prop} {a b : World} (h : Chg S a b) (n : Nat) : Chg S a (b.drewN n) := ⟨h.os, h.tape, h.output, h.size, h.block⟩
theorem Chg.drew1 {S : Nat → Prop} {a b : World} (h : Chg S a b) : Chg S a b.drew := ⟨h.os, h.tape, h.output, h.size, h.block⟩
theorem Chg.blk {S : Nat → Prop} {a b : World} (h : Chg S a b) {g : Nat} {t : TypeId} {arr : Array Value} (hg : ¬ S g) (k : blk a g t arr) : blk b g t arr := by
  unfold tre.blk at k ⊢; rw [h.block g hg]; exact k
theorem Chg.cell {S : Nat → Prop} {a b : World} (h : Chg S a b) {g o : Nat} {v : Value} (hg : ¬ S g) (k : a.cell? ⟨g, o, none⟩ = some v) : b.cell? ⟨g, o, none⟩ = some v := by
  rw [World.cell?_of_block (w := a) (h.block g hg)]; exact k
theorem Chg.below {S : Nat → Prop} {a b : World} (h : Chg S a b) {n : Nat} (hs : ∀ q, S q → n ≤ q) : Below n a b :=
  ⟨h.os, h.tape, h.output, by rw [h.size]; exact Nat.le_refl _, fun q hq => h.block q (fun e => by have := hs q e; omega)⟩
/-- A row of pairs in an array. -/
def prsIn (arr : Array Value) (l : List Pr) : Prop := ∀ i (h : i < l.length), arr[i * 2]? = some (.string (bb l[i].1)) ∧ arr[i * 2 + 1]? = some (.string (bb l[i].2)) ∧ l[i].1.length ≤ maxLen ∧ l[i].2.length ≤ maxLen
/-- A slice of pairs in a block of its own that R holds of. -/
def rowP (W : World) (t : TypeId) (v : Value) (l : List Pr) (R : Nat → Prop) : Prop := ∃ (ao : Option Addr) (cap : Nat), v = .slice ao l.length cap ∧ l.length ≤ cap ∧ cap ≤ maxLen ∧ (0 < l.length → ∃ g arr, ao = some ⟨g, 0, none⟩ ∧ R g ∧ blk W g t arr ∧ prsIn arr l)
theorem rowP.keep {W W' : World} {t : TypeId} {v : Value} {l : List Pr} {R : Nat → Prop} (h : rowP W t v l R) (hb : ∀ g, R g → W'.heap[g]? = W.heap[g]?) : rowP W' t v l R := by
  obtain ⟨ao, cap, rfl, h1, h2, h3⟩ := h
  refine ⟨ao, cap, rfl, h1, h2, fun hl => ?_⟩
  obtain ⟨g, arr, rfl, hR, hk, hp⟩ := h3 hl
  exact ⟨g, arr, rfl, hR, by unfold blk at hk ⊢; rw [hb g hR]; exact hk, hp⟩
theorem rowP.keep' {W W' : World} {t : TypeId} {v : Value} {l : List Pr} {R : Nat → Prop} (h : rowP W t v l R) (hb : ∀ g x, R g → blk W g t x → W'.heap[g]? = W.heap[g]?) : rowP W' t v l R := by
  obtain ⟨ao, cap, rfl, h1, h2, h3⟩ := h
  refine ⟨ao, cap, rfl, h1, h2, fun hl => ?_⟩
  obtain ⟨g, arr, rfl, hR, hk, hp⟩ := h3 hl
  exact ⟨g, arr, rfl, hR, by have := hb g arr hR hk; unfold blk at hk ⊢; rw [this]; exact hk, hp⟩
theorem rowP.mono {W : World} {t : TypeId} {v : Value} {l : List Pr} {R T : Nat → Prop} (h : rowP W t v l R) (hs : ∀ g, R g → T g) : rowP W t v l T := by
  obtain ⟨ao, cap, rfl, h1, h2, h3⟩ := h
  refine ⟨ao, cap, rfl, h1, h2, fun hl => ?_⟩
  obtain ⟨g, arr, rfl, hR, hk, hp⟩ := h3 hl
  exact ⟨g, arr, rfl, hs g hR, hk, hp⟩
theorem rowP.prs {W : World} {t : TypeId} {v : Value} {l : List Pr} {R : Nat → Prop} (h : rowP W t v l R) : Prs W v l := by
  obtain ⟨ao, cap, rfl, h1, h2, h3⟩ := h
  refine ⟨ao, cap, rfl, h1, h2, fun hl => ?_⟩
  obtain ⟨g, arr, rfl, _, hk, hp⟩ := h3 hl
  refine ⟨_, rfl, fun i hi => ?_⟩
  obtain ⟨p0, p1, p2, p3⟩ := hp i hi
  refine ⟨?_, ?_, p2, p3⟩
  · rw [add_at, Nat.zero_add, blk_cell hk]; exact p0
  · rw [add_at]
    show W.cell? ⟨g, 0 + i * 2 + 1, none⟩ = _
    rw [Nat.zero_add, blk_cell hk]; exact p1
end Go.Proofs.Ytgnhpjbkbefgpaa.tre
