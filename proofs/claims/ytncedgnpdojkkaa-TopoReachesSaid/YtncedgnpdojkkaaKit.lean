/-
  Small facts on memory, walks and regions that the texts of every layer use. No function of the program is named here; no condition.
-/
import Derived.Test.YtncedgnpdojkkaaRows
import Derived.WalkKit
import Derived.WalkSpells
import Derived.WalkLawsBesides
import Derived.WalkSmall
import Derived.IntWalk
import Derived.LoopTactic
import Derived.RegionTactic
import Derived.Lib.Hide
import Derived.Lib.SmallJoins
import Derived.Lib.MinMax
import Derived.Laws.StructEq
import Derived.BigQuiet
import Derived.StillTailTactics
import Derived.Deep.RegionHeld3
import Derived.Deep.DeepCutAuto
import Derived.Deep.CutBlock
import Derived.Deep.Slices
import Derived.Carry
import Derived.OwnWalk
import Derived.Laws.AppendOwn
namespace Go.Proofs.Ytncedgnpdojkkaa
open Go.RowKit

theorem ret_bool {a b : Bool} (h : a = b) : Ending.returned (.bool a) = .returned (.bool b) := by rw [h]
theorem ret_int {a b : Int} (h : a = b) : Ending.returned (.int .i64 a) = .returned (.int .i64 b) := by rw [h]
theorem bcell {W w1 : World} (hb : Below W.heap.size W w1) : (∀ b o, b < W.heap.size → w1.cell? ⟨b, o, none⟩ = W.cell? ⟨b, o, none⟩) ∧ (∀ b o, b < W.heap.size → w1.frozen? ⟨b, o, none⟩ = W.frozen? ⟨b, o, none⟩) :=
  ⟨fun b o h => hb.cell (p := ⟨b, o, none⟩) h, fun b o h => hb.frozen (p := ⟨b, o, none⟩) h⟩
theorem below_keep {W w1 w2 : World} (h2 : Below w1.heap.size w1 w2) (h1 : Below W.heap.size W w1) : Below W.heap.size W w2 := h1.trans (h2.mono h1.size)
theorem cell_keep {w1 w2 : World} {b o : Nat} {v : Value} (h2 : Below w1.heap.size w1 w2) (h1 : w1.cell? ⟨b, o, none⟩ = some v) : w2.cell? ⟨b, o, none⟩ = some v := by
  rw [h2.cell (p := ⟨b, o, none⟩) (World.block_lt_of_cell? w1 _ h1)]; exact h1
theorem al1 (w : World) (a : Obj) : Below w.heap.size w (w.alloc a) := (Below.refl _ _).alloc (Nat.le_refl _) _
theorem al2 (w : World) (a b : Obj) : Below w.heap.size w ((w.alloc a).alloc b) := (al1 w a).alloc (by simp) _
theorem al3 (w : World) (a b c : Obj) : Below w.heap.size w (((w.alloc a).alloc b).alloc c) := (al2 w a b).alloc (by simp; omega) _
theorem al4 (w : World) (a b c d : Obj) : Below w.heap.size w ((((w.alloc a).alloc b).alloc c).alloc d) := (al3 w a b c).alloc (by simp; omega) _
/-- The four ints of a box in memory, and the two of a point. -/
def at4 (W : World) (b : Nat) (x y z u : Int) : Prop := W.cell? ⟨b, 0, none⟩ = some (.int .i64 x) ∧ W.cell? ⟨b, 1, none⟩ = some (.int .i64 y) ∧ W.cell? ⟨b, 2, none⟩ = some (.int .i64 z) ∧ W.cell? ⟨b, 3, none⟩ = some (.int .i64 u)
def at2 (W : World) (b : Nat) (x y : Int) : Prop := W.cell? ⟨b, 0, none⟩ = some (.int .i64 x) ∧ W.cell? ⟨b, 1, none⟩ = some (.int .i64 y)
theorem at4_new (w : World) (x y z u : Int) (t : TypeId) : at4 (w.alloc (.cells #[.int .i64 x, .int .i64 y, .int .i64 z, .int .i64 u] t)) w.heap.size x y z u := by
  refine ⟨?_, ?_, ?_, ?_⟩ <;> go_simp
theorem at2_new (w : World) (x y : Int) (t : TypeId) : at2 (w.alloc (.cells #[.int .i64 x, .int .i64 y] t)) w.heap.size x y := by
  refine ⟨?_, ?_⟩ <;> go_simp
theorem at4_keep {w1 w2 : World} {b : Nat} {x y z u : Int} (h2 : Below w1.heap.size w1 w2) (h : at4 w1 b x y z u) : at4 w2 b x y z u :=
  ⟨cell_keep h2 h.1, cell_keep h2 h.2.1, cell_keep h2 h.2.2.1, cell_keep h2 h.2.2.2⟩
theorem at2_keep {w1 w2 : World} {b : Nat} {x y : Int} (h2 : Below w1.heap.size w1 w2) (h : at2 w1 b x y) : at2 w2 b x y :=
  ⟨cell_keep h2 h.1, cell_keep h2 h.2⟩
/-- The same of a box, or a point, that may be written. -/
def ow4 (W : World) (b : Nat) (x y z u : Int) : Prop := W.cell? ⟨b, 0, none⟩ = some (.int .i64 x) ∧ W.cell? ⟨b, 1, none⟩ = some (.int .i64 y) ∧ W.cell? ⟨b, 2, none⟩ = some (.int .i64 z) ∧ W.cell? ⟨b, 3, none⟩ = some (.int .i64 u) ∧
  W.frozen? ⟨b, 0, none⟩ = false ∧ W.frozen? ⟨b, 1, none⟩ = false ∧ W.frozen? ⟨b, 2, none⟩ = false ∧ W.frozen? ⟨b, 3, none⟩ = false
def ow2 (W : World) (b : Nat) (x y : Int) : Prop := W.cell? ⟨b, 0, none⟩ = some (.int .i64 x) ∧ W.cell? ⟨b, 1, none⟩ = some (.int .i64 y) ∧ W.frozen? ⟨b, 0, none⟩ = false ∧ W.frozen? ⟨b, 1, none⟩ = false
theorem ow4_new (w : World) (x y z u : Int) (t : TypeId) : ow4 (w.alloc (.cells #[.int .i64 x, .int .i64 y, .int .i64 z, .int .i64 u] t)) w.heap.size x y z u := by
  refine ⟨?_, ?_, ?_, ?_, ?_, ?_, ?_, ?_⟩ <;> go_simp
theorem ow2_new (w : World) (x y : Int) (t : TypeId) : ow2 (w.alloc (.cells #[.int .i64 x, .int .i64 y] t)) w.heap.size x y := by
  refine ⟨?_, ?_, ?_, ?_⟩ <;> go_simp
theorem fr_keep {w1 w2 : World} {b o : Nat} {v : Value} (h2 : Below w1.heap.size w1 w2) (h1 : w1.cell? ⟨b, o, none⟩ = some v) (h : w1.frozen? ⟨b, o, none⟩ = false) : w2.frozen? ⟨b, o, none⟩ = false := by
  rw [h2.frozen (p := ⟨b, o, none⟩) (World.block_lt_of_cell? w1 _ h1)]; exact h
theorem ow4_keep {w1 w2 : World} {b : Nat} {x y z u : Int} (h2 : Below w1.heap.size w1 w2) (h : ow4 w1 b x y z u) : ow4 w2 b x y z u := by
  obtain ⟨a, b, c, d, e, f, g, i⟩ := h
  exact ⟨cell_keep h2 a, cell_keep h2 b, cell_keep h2 c, cell_keep h2 d, fr_keep h2 a e, fr_keep h2 b f, fr_keep h2 c g, fr_keep h2 d i⟩
theorem ow2_keep {w1 w2 : World} {b : Nat} {x y : Int} (h2 : Below w1.heap.size w1 w2) (h : ow2 w1 b x y) : ow2 w2 b x y := by
  obtain ⟨a, b, c, d⟩ := h
  exact ⟨cell_keep h2 a, cell_keep h2 b, fr_keep h2 a c, fr_keep h2 b d⟩
theorem set4 {B : Nat} {a w : World} {b : Nat} {v0 v1 v2 v3 : Value} (h : Below B a w) (hb : B ≤ b) : Below B a ((((w.setCell ⟨b, 0, none⟩ v0).setCell ⟨b, 1, none⟩ v1).setCell ⟨b, 2, none⟩ v2).setCell ⟨b, 3, none⟩ v3) :=
  (((h.setCell hb _).setCell hb _).setCell hb _).setCell hb _
theorem set2 {B : Nat} {a w : World} {b : Nat} {v0 v1 : Value} (h : Below B a w) (hb : B ≤ b) : Below B a ((w.setCell ⟨b, 0, none⟩ v0).setCell ⟨b, 1, none⟩ v1) :=
  (h.setCell hb _).setCell hb _
theorem cell_later' {w1 w2 : World} {a : Addr} {v : Value} (h2 : Below w1.heap.size w1 w2) (h1 : w1.cell? a = some v) : w2.cell? a = some v := by
  rw [h2.cell (World.block_lt_of_cell? w1 _ h1)]; exact h1
theorem ow4_set {w : World} {b : Nat} {x y z u : Int} (x' y' z' u' : Int) (h : ow4 w b x y z u) : ow4 ((((w.setCell ⟨b, 0, none⟩ (.int .i64 x')).setCell ⟨b, 1, none⟩ (.int .i64 y')).setCell ⟨b, 2, none⟩ (.int .i64 z')).setCell ⟨b, 3, none⟩ (.int .i64 u')) b x' y' z' u' := by
  obtain ⟨h0, h1, h2, h3, f0, f1, f2, f3⟩ := h
  refine ⟨?_, ?_, ?_, ?_, ?_, ?_, ?_, ?_⟩ <;> go_simp
theorem ow4_far {w : World} {b b' : Nat} {x y z u : Int} {v0 v1 v2 v3 : Value} (hb : b' ≠ b) (h : ow4 w b' x y z u) : ow4 ((((w.setCell ⟨b, 0, none⟩ v0).setCell ⟨b, 1, none⟩ v1).setCell ⟨b, 2, none⟩ v2).setCell ⟨b, 3, none⟩ v3) b' x y z u := by
  obtain ⟨h0, h1, h2, h3, f0, f1, f2, f3⟩ := h
  refine ⟨?_, ?_, ?_, ?_, ?_, ?_, ?_, ?_⟩ <;> go_simp
theorem add_one_of (A : Addr) (j : Nat) (h : 0 < j) : A.add j = ⟨A.block, A.off + j, none⟩ := by
  unfold Addr.add; rw [if_neg (by omega)]
theorem own_keep {W W' : World} {B e size n : Nat} {v : Value} {xs : List Value} (h : W.ownsRow B e size v n xs) (hb : Below W.heap.size W W') : W'.ownsRow B e size v n xs := by
  obtain ⟨h1, h2⟩ := h
  refine ⟨h1, h2.imp id ?_⟩
  rintro ⟨g, cap, cur, rfl, hg, hc, h3⟩
  have hlt : g < W.heap.size := by
    rcases Nat.lt_or_ge g W.heap.size with h | h
    · exact h
    · rw [Array.getElem?_eq_none (by omega)] at hc; cases hc
  exact ⟨g, cap, cur, rfl, hg, by rw [hb.block g hlt]; exact hc, h3⟩
theorem at4_of {w : World} {b : Nat} {x y z u : Int} (h0 : w.cell? ⟨b, 0, none⟩ = some (.int .i64 x)) (h1 : w.cell? ⟨b, 1, none⟩ = some (.int .i64 y)) (h2 : w.cell? ⟨b, 2, none⟩ = some (.int .i64 z)) (h3 : w.cell? ⟨b, 3, none⟩ = some (.int .i64 u)) : at4 w b x y z u := ⟨h0, h1, h2, h3⟩
/-- An operation whose guard lets it by and that yields v, taken first: the state laid out. -/
theorem take_on {P : Program} {ops : Array Oper} {Q : Exit → Act → World → Prop} {md : Region.Mode} {S : World → Prop} {fuel : Nat} {listed : Array Bool} {a : Act} {w : World} (i k : Nat) (v : Value) (hd : (ops[i]?).map (·.dst) = some (some k))
    (hs : Region.noSelect ops = true) (hf : Region.free md ops listed i = true) (hr : (Region.ready md ops listed).contains i = true)
    (hQ : ∀ c (d : Tmp) v a w, Q (.panic c) (a.put (some d) v) w → Q (.panic c) a w) (hy : ∀ oi, ops[i]? = some oi → Region.wanted oi (yielded ops a.tmps) = true ∧ ∀ W, S W → (execOp a.eval oi).run P W = .ok (.value v) W) (hS : S w)
    (h : wpAnyH P md ops Q S fuel (listed.setIfInBounds i true) ⟨a.tmps.setIfInBounds k v, a.defers⟩ w) : wpAnyH P md ops Q S (fuel + 1) listed a w := by
  obtain ⟨oi, hi⟩ : ∃ oi, ops[i]? = some oi := by
    cases h : ops[i]? with
    | none => rw [h] at hd; cases hd
    | some o => exact ⟨o, rfl⟩
  have e : oi.dst = some k := by rw [hi] at hd; simpa using hd
  refine wpAnyH_take hi hs hf hr (fun c a w => by rw [e]; exact hQ c _ _ a w) (Or.inl (hy oi hi)) hS ?_
  rw [e]
  exact h
/-- Operations whose guards say no, one behind the other: nothing changes but the list. -/
def offOk (md : Region.Mode) (ops : Array Oper) : Array Bool → List Nat → Bool
  | _, [] => true
  | l, i :: is => Region.free md ops l i && (Region.ready md ops l).contains i && offOk md ops (l.setIfInBounds i true) is
theorem take_off {P : Program} {ops : Array Oper} {Q : Exit → Act → World → Prop} {md : Region.Mode} {S : World → Prop} {a : Act} {w : World} (is : List Nat) (hs : Region.noSelect ops = true)
    (hQ : ∀ c (d : Tmp) v a w, Q (.panic c) (a.put (some d) v) w → Q (.panic c) a w) (hS : S w) : ∀ (fuel : Nat) (listed : Array Bool), offOk md ops listed is = true →
    (∀ i ∈ is, ∃ oi k, ops[i]? = some oi ∧ oi.dst = some k ∧ Region.wanted oi (yielded ops a.tmps) = false ∧ a.put (some k) undef = a) →
    wpAnyH P md ops Q S fuel (is.foldl (fun l i => l.setIfInBounds i true) listed) a w → wpAnyH P md ops Q S (fuel + is.length) listed a w := by
  induction is with
  | nil => intro fuel listed _ _ h; exact h
  | cons i is ih =>
    intro fuel listed ho hw h
    simp only [offOk, Bool.and_eq_true] at ho
    obtain ⟨oi, k, hi, e, hn, hp⟩ := hw i (by simp)
    refine wpAnyH_take (v := undef) hi hs ho.1.1 ho.1.2 (fun c a w => by rw [e]; exact hQ c _ _ a w) (Or.inr ⟨hn, rfl⟩) hS ?_
    rw [e, hp]
    exact ih fuel _ ho.2 (fun j hj => hw j (by simp [hj])) h
/-- An operation whose guard says no, where its slot holds an earlier value. -/
theorem take_off1 {P : Program} {ops : Array Oper} {Q : Exit → Act → World → Prop} {md : Region.Mode} {S : World → Prop} {fuel : Nat} {listed : Array Bool} {a : Act} {w : World} (i k : Nat) (hd : (ops[i]?).map (·.dst) = some (some k))
    (hs : Region.noSelect ops = true) (hf : Region.free md ops listed i = true) (hr : (Region.ready md ops listed).contains i = true)
    (hQ : ∀ c (d : Tmp) v a w, Q (.panic c) (a.put (some d) v) w → Q (.panic c) a w) (hn : ∀ oi, ops[i]? = some oi → Region.wanted oi (yielded ops a.tmps) = false) (hS : S w)
    (h : wpAnyH P md ops Q S fuel (listed.setIfInBounds i true) ⟨a.tmps.setIfInBounds k undef, a.defers⟩ w) : wpAnyH P md ops Q S (fuel + 1) listed a w := by
  obtain ⟨oi, hi⟩ : ∃ oi, ops[i]? = some oi := by
    cases h : ops[i]? with
    | none => rw [h] at hd; cases hd
    | some o => exact ⟨o, rfl⟩
  have e : oi.dst = some k := by rw [hi] at hd; simpa using hd
  refine wpAnyH_take (v := undef) hi hs hf hr (fun c a w => by rw [e]; exact hQ c _ _ a w) (Or.inr ⟨hn oi hi, rfl⟩) hS ?_
  rw [e]
  exact h
theorem cell4_new (w : World) (a b c d : Value) (t : TypeId) : ∀ j u, [a, b, c, d][j]? = some u → (w.alloc (.cells #[a, b, c, d] t)).cell? ((⟨w.heap.size, 0, none⟩ : Addr).add j) = some u := by
  intro j u hj
  match j, hj with
  | 0, hj => simp at hj; subst hj; simp [Addr.add]
  | 1, hj => simp at hj; subst hj; simp [Addr.add]
  | 2, hj => simp at hj; subst hj; simp [Addr.add]
  | 3, hj => simp at hj; subst hj; simp [Addr.add]
  | (j + 4), hj => simp at hj
theorem at2_of {w : World} {b : Nat} {x y : Int} (h0 : w.cell? ⟨b, 0, none⟩ = some (.int .i64 x)) (h1 : w.cell? ⟨b, 1, none⟩ = some (.int .i64 y)) : at2 w b x y := ⟨h0, h1⟩
theorem laidOut : laidOutB Try.prog = true := by kernel_rfl
end Go.Proofs.Ytncedgnpdojkkaa
