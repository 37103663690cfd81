/-
  A region that draws its order, all its operations but the last ones reading alone, inside a fence; small facts on worlds that a loop over an iterator keeps. No function of the program is named here; no condition.
-/
import Derived.Test.YtllhdalfhhjigaaKit
import Derived.RangeFuncNested
import Derived.RangeFuncBound
import Derived.RangeFuncCalls
import Derived.RangeFuncLeaves
import Derived.RangeFuncBox
import Derived.Shelf.Abstract
import Derived.Shelf.RegionOpen
import Derived.OwnWalkIn
import Derived.TacticsInMore
import Derived.LoopNIn
import Derived.LoopIn
import Derived.StillTail
namespace Go.Proofs.Ytllhdalfhhjigaa
open Go.RowKit

section
variable {P : Program} {ops : Array Oper} {md : Region.Mode} {w : World} {n : Nat}

theorem wpInOf_still {o : Oper} {a : Act} {K : Act → Prop} {K' : Act → World → Prop} {Q' : Exit → Act → World → Prop} (h : ∀ a, K a → K' a w) (hh : o.still P a w K) : o.wpIn Fence.wide n P a w K' Q' := by
  unfold Oper.still at hh
  refine ⟨fun _ _ => trivial, ?_⟩
  rw [show Fence.wide.round = none from rfl, Oper.semAt_none]
  generalize (execOp a.eval o).run P w = r at *
  cases r with
  | ok x w' =>
    cases x <;> simp only [Oper.stillUpon] at hh <;> simp only [Oper.uponIn]
    case enter f args =>
      obtain ⟨rfl, v, hc, hn⟩ := hh
      refine ⟨fun hd => (by cases hd), callsIn_wide.2 (hc.mono fun e w'' ⟨he, hw⟩ => ?_)⟩
      subst he; subst hw; exact h _ hn
    all_goals (obtain ⟨rfl, h2⟩ := hh; exact h _ h2)
  | halt x w' => simp only [Oper.stillUpon] at hh
theorem wpOpIn_of_stOp {i : Nat} {a : Act} {K : Act → Prop} {K' : Act → World → Prop} {Q' : Exit → Act → World → Prop} (h : ∀ a, K a → K' a w) (hh : stOp P ops w i K a) : wpOpIn Fence.wide n P ops Q' i K' a w := by
  unfold stOp at hh
  unfold wpOpIn
  split
  · rename_i ho; simp only [ho] at hh; exact h _ hh
  · rename_i o ho
    simp only [ho] at hh
    split
    · rename_i hw; simp only [hw, if_true] at hh; exact wpInOf_still h hh
    · rename_i hw; simp only [hw] at hh; exact ⟨fun _ _ => trivial, h _ hh⟩
theorem wpAnyIn_of_head {m g : Nat} {L : Array Bool → Act → Prop} {Q' : Exit → Act → World → Prop} (hL : ∀ listed a, L listed a → wpAnyIn Fence.wide n P md ops Q' g listed a w) :
    ∀ (f : Nat) (listed : Array Bool) (a : Act), wpAnyL P md ops w m L f listed a → wpAnyIn Fence.wide n P md ops Q' (f + g) listed a w
  | 0, listed, a, h => by rw [Nat.zero_add]; exact hL _ _ h
  | f + 1, listed, a, h => by
    rw [show f + 1 + g = (f + g) + 1 by omega]
    exact ⟨fun h0 => absurd h0 h.1, fun i hi => wpOpIn_of_stOp (fun a' h' => wpAnyIn_of_head hL f _ a' h') (h.2 i hi).2⟩
theorem wpAnyIn_of_seq {Q' : Exit → Act → World → Prop} : ∀ (l : List Oper) (k : Nat) (listed : Array Bool) (a : Act) (w : World), (∀ j, l[j]? = ops[k + j]?) →
    Region.seqB md ops l.length k listed = true → wpListIn Fence.wide n P ops Q' l a w → wpAnyIn Fence.wide n P md ops Q' l.length listed a w
  | [], _, _, _, _, _, hB, h => ⟨by simpa [Region.seqB] using hB, h⟩
  | o :: l, k, listed, a, w, hl, hB, h => by
    have h0 : ops[k]? = some o := by simpa using (hl 0).symm
    simp only [List.length_cons, Region.seqB, Bool.and_eq_true, decide_eq_true_eq] at hB
    refine ⟨fun h1 => (by rw [hB.1] at h1; cases h1), fun i hi => ?_⟩
    rw [hB.1] at hi
    have hik : i = k := by simpa using hi
    subst hik
    have hw : wpOpIn Fence.wide n P ops Q' i (wpListIn Fence.wide n P ops Q' l) a w := by unfold wpOpIn; simp only [h0]; exact h
    exact wpOpIn_mono (fun a' w' h' => wpAnyIn_of_seq l (i + 1) _ a' w' (fun j => by have := hl (j + 1); simpa [Nat.add_assoc, Nat.add_comm 1 j] using this) hB.2 h') hw
/-- The operations ahead of the n-th read alone: one walk, in the text's order. -/
theorem wpIn_still_tail {id : Nat} {Q : Exit → Act → World → Prop} {a : Act} {w : World} {l : List Oper} (m : Nat) (hm : P.follows .mixedOrders = true) (hB : Region.lexTailB .any l.toArray m = true)
    (h : wpStill P l.toArray w.drew (fun a' => wpListIn Fence.wide n P l.toArray Q (l.drop m) a' w.drew) (l.take m) a) : (Code.region id l.toArray true).wpIn Fence.wide n P Q a w := by
  simp only [Region.lexTailB, Bool.and_eq_true, decide_eq_true_eq] at hB
  obtain ⟨⟨⟨⟨hsel, hn⟩, hs⟩, hc⟩, hlex⟩ := hB
  have hn' : m < l.length := by simpa using hn
  have htl : (l.take m).length = m := by simp; omega
  have hdl : (l.drop m).length = l.toArray.size - m := by simp
  have inv0 : HeadInv .any l.toArray m (Array.replicate l.toArray.size false) :=
    ⟨by simp, fun j oj _ hl => (by rw [getD_replicate_false] at hl; cases hl), fun t _ ht => getD_in (by simpa using ht) (getD_replicate_false _ _)⟩
  have H := wpAnyL_lex (md := .any) (g := l.toArray.size - m) hsel hs hc hn (l.take m) 0 _ a (fun j hj => by
    have hj' : j < m := by rw [htl] at hj; exact hj
    simp [hj']) (by simpa using htl) inv0 (by rw [htl]; exact hlex) h
  refine wpIn_region_any hm ?_
  have := wpAnyIn_of_head (n := n) (Q' := Q) (g := l.toArray.size - m) (fun listed a' hL => by
    have := wpAnyIn_of_seq (n := n) (md := .any) (Q' := Q) (l.drop m) m listed a' w.drew (fun j => by simp [List.getElem?_drop]) (by rw [hdl]; exact hL.1) hL.2
    rwa [hdl] at this) _ _ _ H
  rw [htl, show m + (l.toArray.size - m) = l.toArray.size by omega] at this
  exact this
end

theorem grown_drew (W : World) (row : Option Nat) : W.grownBy W.drew row := ⟨rfl, rfl, rfl, Nat.le_refl _, fun _ _ _ => rfl⟩
theorem keepsOthers_below {W W' : World} (h : Below W.heap.size W W') : KeepsOthers W W' :=
  ⟨h.size, fun k _ hk _ => (h.block k (Array.getElem?_eq_some_iff.1 hk).1).trans hk⟩
theorem boxed_keep {w1 w2 : World} {B : Nat} {t : TypeId} {v : Value} (h2 : Below w1.heap.size w1 w2) (h : Boxed w1 B t v) : Boxed w2 B t v :=
  (h2.block B h.lt).trans h
theorem below_drew (W : World) : Below W.heap.size W W.drew := (Below.refl _ W).drew
theorem below_size (n : Nat) {W W' : World} (h : Below W.heap.size W W') (hn : n ≤ W.heap.size) : Below n W W' := h.mono hn
/-- A block of four ints: a segment's box. -/
def Box4 (W : World) (B : Nat) (t : TypeId) (x y z u : Int) : Prop := W.heap[B]? = some (.cells #[.int .i64 x, .int .i64 y, .int .i64 z, .int .i64 u] t (0, 0))
theorem Box4.lt {W : World} {B : Nat} {t : TypeId} {x y z u : Int} (h : Box4 W B t x y z u) : B < W.heap.size := (Array.getElem?_eq_some_iff.1 h).1
theorem Box4.new (W : World) (t : TypeId) (x y z u : Int) : Box4 (W.alloc (.cells #[.int .i64 x, .int .i64 y, .int .i64 z, .int .i64 u] t)) W.heap.size t x y z u := World.alloc_heap_new W _
theorem Box4.ow {W : World} {B : Nat} {t : TypeId} {x y z u : Int} (h : Box4 W B t x y z u) : ow4 W B x y z u := by
  have h' : W.heap[B]? = _ := h
  refine ⟨?_, ?_, ?_, ?_, ?_, ?_, ?_, ?_⟩ <;> simp [World.cell?, World.frozen?, h']
theorem Box4.at {W : World} {B : Nat} {t : TypeId} {x y z u : Int} (h : Box4 W B t x y z u) : at4 W B x y z u := by
  obtain ⟨a, b, c, d, _⟩ := h.ow; exact ⟨a, b, c, d⟩
theorem Box4.kept {W W' : World} {row : Option Nat} {B : Nat} {t : TypeId} {x y z u : Int} (h : Box4 W B t x y z u) (hg : W.grownBy W' row) (hne : some B ≠ row) : Box4 W' B t x y z u := (hg.block B h.lt hne).trans h
theorem Box4.keep {w1 w2 : World} {B : Nat} {t : TypeId} {x y z u : Int} (h2 : Below w1.heap.size w1 w2) (h : Box4 w1 B t x y z u) : Box4 w2 B t x y z u := (h2.block B h.lt).trans h
/-- A block of two ints: a point's box. -/
def Box2 (W : World) (B : Nat) (t : TypeId) (x y : Int) : Prop := W.heap[B]? = some (.cells #[.int .i64 x, .int .i64 y] t (0, 0))
theorem Box2.lt {W : World} {B : Nat} {t : TypeId} {x y : Int} (h : Box2 W B t x y) : B < W.heap.size := (Array.getElem?_eq_some_iff.1 h).1
theorem Box2.new (W : World) (t : TypeId) (x y : Int) : Box2 (W.alloc (.cells #[.int .i64 x, .int .i64 y] t)) W.heap.size t x y := World.alloc_heap_new W _
theorem Box2.ow {W : World} {B : Nat} {t : TypeId} {x y : Int} (h : Box2 W B t x y) : ow2 W B x y := by
  have h' : W.heap[B]? = _ := h
  refine ⟨?_, ?_, ?_, ?_⟩ <;> simp [World.cell?, World.frozen?, h']
theorem Box2.keep {w1 w2 : World} {B : Nat} {t : TypeId} {x y : Int} (h2 : Below w1.heap.size w1 w2) (h : Box2 w1 B t x y) : Box2 w2 B t x y := (h2.block B h.lt).trans h
theorem Box2.kept {W W' : World} {row : Option Nat} {B : Nat} {t : TypeId} {x y : Int} (h : Box2 W B t x y) (hg : W.grownBy W' row) (hne : some B ≠ row) : Box2 W' B t x y := (hg.block B h.lt hne).trans h
/-- Nothing that lay in w has turned, and k blocks at least have come. -/
def Ld (w : World) (k : Nat) (W : World) : Prop := Below w.heap.size w W ∧ w.heap.size + k ≤ W.heap.size
theorem ownFrom_ld {β : Type} {w : World} {k B : Nat} (hB : w.heap.size ≤ B) : OwnFrom B (fun (_ : β) W => Ld w k W) := fun s X Y row hs hg hr =>
  ⟨ownFrom_below (Nat.le_refl _) hB s X Y row hs.1 hg hr, Nat.le_trans hs.2 hg.size⟩
theorem Ld.alloc {w W : World} {k : Nat} (h : Ld w k W) (o : Obj) : Ld w k (W.alloc o) := ⟨h.1.alloc h.1.size o, by simp; have := h.2; omega⟩
theorem Ld.keep {w W W' : World} {k : Nat} (h2 : Below W.heap.size W W') (h : Ld w k W) : Ld w k W' := ⟨below_keep h2 h.1, Nat.le_trans h.2 h2.size⟩
theorem Ld.set {w W : World} {k b o : Nat} {v : Value} (h : Ld w k W) (hb : w.heap.size ≤ b) : Ld w k (W.setCell ⟨b, o, none⟩ v) := ⟨h.1.setCell (p := ⟨b, o, none⟩) hb v, by
  have := (KeepsOthers.setCell W ⟨b, o, none⟩ v).size; have := h.2; omega⟩
theorem box4_own {B : Nat} {w0 : Nat} {t : TypeId} {x y z u : Int} {X Y : World} {row : Option Nat} (h : Box4 X B t x y z u) (hg : X.grownBy Y row) (hr : ∀ r, row = some r → w0 ≤ r ∧ ∃ o : Obj, X.heap[r]? = some o ∧ o.isCells = false) : Box4 Y B t x y z u := by
  refine h.kept hg (fun e => ?_)
  obtain ⟨_, o, ho, hc⟩ := hr B e.symm
  rw [show X.heap[B]? = _ from h] at ho
  cases ho
  cases hc
theorem box4_from {β : Type} (B0 B : Nat) (t : TypeId) (x y z u : Int) : OwnFrom B0 (fun (_ : β) W => Box4 W B t x y z u) := fun _ _ _ _ hs hg hr => box4_own hs hg hr
theorem ownFrom_size {β : Type} (B0 k : Nat) : OwnFrom B0 (fun (_ : β) W => k ≤ W.heap.size) := fun _ _ _ _ hs hg _ => Nat.le_trans hs hg.size
theorem boxed_from {β : Type} (B0 B : Nat) (t : TypeId) (f : β → Value) : OwnFrom B0 (fun s W => Boxed W B t (f s)) := Own.from (boxed_own _ _ _) _
end Go.Proofs.Ytllhdalfhhjigaa
