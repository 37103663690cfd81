/-
  Memory of the layers on digraphs: rows of numbers and of arcs, as they are read and as a call makes them; boxes; what comes in. No condition.
-/
import Derived.Test.YtncedgnpdojkkaaKit
import Derived.Test.YtncedgnpdojkkaaDigPlain
import Derived.Deep.Slices
import Derived.OpenShut
import Derived.Laws.OwnMore
namespace Go.Proofs.Ytncedgnpdojkkaa.dig
open Go.ChangeShapes Go.WideShapes Go.ChangeAt Go.RowKit Go.Joins

theorem add_at (b o j : Nat) : (⟨b, o, none⟩ : Addr).add j = ⟨b, o + j, none⟩ := by
  unfold Addr.add; split
  · subst_vars; rfl
  · rfl
/-- Block g holds these cells and may be written. -/
def blk (W : World) (g : Nat) (t : TypeId) (arr : Array Value) : Prop := W.heap[g]? = some (.cells arr t (0, 0))
theorem blk_cell {W : World} {g o : Nat} {t : TypeId} {arr : Array Value} (h : blk W g t arr) : W.cell? ⟨g, o, none⟩ = arr[o]? := by
  unfold blk at h; simp [World.cell?, h]
theorem blk_new (w : World) (c : Array Value) (t : TypeId) : blk (w.alloc (.cells c t)) w.heap.size t c := heap_alloc_new w _
theorem blk_lt {W : World} {g : Nat} {t : TypeId} {arr : Array Value} (h : blk W g t arr) : g < W.heap.size := by
  rcases Nat.lt_or_ge g W.heap.size with q | q
  · exact q
  · unfold blk at h; rw [Array.getElem?_eq_none (by omega)] at h; cases h
theorem blk_keep {w w' : World} {b : Nat} {t : TypeId} {arr : Array Value} (hb : Below w.heap.size w w') (h : blk w b t arr) : blk w' b t arr := by unfold blk at h ⊢; rw [hb.block b (blk_lt h)]; exact h
theorem blk_far {w : World} {b g o : Nat} {t : TypeId} {arr : Array Value} (h : blk w b t arr) (hb : b ≠ g) (u : Value) : blk (w.setCell ⟨g, o, none⟩ u) b t arr := by
  unfold blk at h ⊢; rw [Below.heap_setCell _ _ _ _ hb]; exact h
theorem blk_free {W : World} {g o : Nat} {t : TypeId} {arr : Array Value} (h : blk W g t arr) : W.frozen? ⟨g, o, none⟩ = false := by
  unfold blk at h; simp [World.frozen?, h]
theorem drew_n (w : World) : ∀ n, Below w.heap.size w (w.drewN n)
  | 0 => Below.refl _ _
  | n + 1 => (drew_n w n).drew
/-- A list as a slice holds it: elements of c cells each. -/
def Rw {α : Type} (c : Nat) (P : World → Addr → α → Prop) (w : World) (v : Value) (l : List α) : Prop :=
  ∃ (ao : Option Addr) (cap : Nat), v = .slice ao l.length cap ∧ l.length ≤ cap ∧ cap ≤ maxLen ∧ (0 < l.length → ∃ A, ao = some A ∧ ∀ i (h : i < l.length), P w (A.add (i * c)) l[i])
theorem Rw.nil {α : Type} (c : Nat) (P : World → Addr → α → Prop) (w : World) : Rw c P w (.slice none 0 0) [] := ⟨none, 0, rfl, Nat.le_refl _, by decide, fun h => absurd h (by simp)⟩
theorem Rw.keep {α : Type} {c : Nat} {P : World → Addr → α → Prop} (hP : ∀ {w1 w2 : World} {A : Addr} {x : α}, P w1 A x → Below w1.heap.size w1 w2 → P w2 A x) {w1 w2 : World} {v : Value} {l : List α} (h : Rw c P w1 v l) (hb : Below w1.heap.size w1 w2) : Rw c P w2 v l := by
  obtain ⟨ao, cap, rfl, hc, hm, hA⟩ := h
  exact ⟨ao, cap, rfl, hc, hm, fun hn => by obtain ⟨A, rfl, h2⟩ := hA hn; exact ⟨A, rfl, fun i hi => hP (h2 i hi) hb⟩⟩
theorem Rw.get {α : Type} {c : Nat} {P : World → Addr → α → Prop} {w : World} {ao : Option Addr} {n cap : Nat} {l : List α} (h : Rw c P w (.slice ao n cap) l) {k : Nat} (hk : k < l.length) : ∃ A, ao = some A ∧ P w (A.add (k * c)) l[k] := by
  obtain ⟨ao', cap', e, _, _, hA⟩ := h
  cases e
  obtain ⟨A, rfl, h2⟩ := hA (by omega)
  exact ⟨A, rfl, h2 k hk⟩
theorem flat_len {X : Type} (f : X → List Value) (k : Nat) (hk : ∀ x, (f x).length = k) (l : List X) : (l.flatMap f).length = l.length * k := by
  induction l with
  | nil => simp
  | cons x t ih => rw [List.flatMap_cons, List.length_append, ih, hk, List.length_cons, Nat.add_mul]; omega
theorem flat_get {X : Type} (f : X → List Value) (k : Nat) (hk : ∀ x, (f x).length = k) : ∀ (l : List X) (i j : Nat) (h : i < l.length), j < k → (l.flatMap f)[i * k + j]? = (f l[i])[j]? := by
  intro l
  induction l with
  | nil => intro i j h; simp at h
  | cons x t ih =>
    intro i j h hj
    rw [List.flatMap_cons]
    cases i with
    | zero => rw [Nat.zero_mul, Nat.zero_add, List.getElem?_append_left (by rw [hk]; exact hj)]; rfl
    | succ i =>
      rw [List.getElem?_append_right (by rw [hk, Nat.add_mul]; omega), hk, show (i + 1) * k + j - k = i * k + j by rw [Nat.add_mul]; omega]
      exact ih i j (by simpa using h) hj
theorem own_blk {w : World} {B s n : Nat} {t : TypeId} {v : Value} {xs : List Value} (h : w.ownsRow B t s v n xs) (hn : 0 < n) : ∃ g cap arr, v = .slice (some ⟨g, 0, none⟩) n cap ∧ B ≤ g ∧ blk w g t arr ∧ n ≤ cap ∧ cap ≤ maxLen ∧ ∀ j, j < n * s → arr[j]? = xs[j]? := by
  rcases h.2 with ⟨_, rfl⟩ | ⟨g, cap, cur, rfl, hB, hk, h1, h2, h3, h4⟩
  · omega
  · refine ⟨g, cap, cur, rfl, hB, hk, h1, h2, fun j hj => ?_⟩
    rw [← h4, List.getElem?_take_of_lt hj, Array.getElem?_toList]
theorem own_form {w : World} {B s n : Nat} {t : TypeId} {v : Value} {xs : List Value} (h : w.ownsRow B t s v n xs) : ∃ ao cap, v = .slice ao n cap ∧ n ≤ cap ∧ cap ≤ maxLen := by
  rcases h.2 with ⟨rfl, rfl⟩ | ⟨g, cap, cur, rfl, _, _, h1, h2, _⟩
  · exact ⟨_, 0, rfl, Nat.le_refl _, by decide⟩
  · exact ⟨_, cap, rfl, h1, h2⟩
theorem own_nil (w : World) (B : Nat) (t : TypeId) (s : Nat) : w.ownsRow B t s (.slice none 0 0) 0 [] := ⟨by simp, .inl ⟨rfl, rfl⟩⟩
/-- A row that was made, as a list: each element's cells lie from its place on. -/
theorem own_rw {α : Type} {c : Nat} {P : World → Addr → α → Prop} {f : α → List Value} (hf : ∀ x, (f x).length = c) {w : World} (hP : ∀ (b o : Nat) (x : α), (∀ j, j < c → w.cell? ⟨b, o + j, none⟩ = (f x)[j]?) → P w ⟨b, o, none⟩ x)
    {B : Nat} {t : TypeId} {v : Value} {l : List α} (h : w.ownsRow B t c v l.length (l.flatMap f)) : Rw c P w v l := by
  by_cases h0 : l.length = 0
  · obtain ⟨ao, cap, rfl, h1, h2⟩ := own_form h
    exact ⟨ao, cap, rfl, h1, h2, fun hn => by omega⟩
  · obtain ⟨g, cap, arr, rfl, hB', hk, h1, h2, h3⟩ := own_blk h (by omega)
    refine ⟨_, cap, rfl, h1, h2, fun _ => ⟨_, rfl, fun i hi => ?_⟩⟩
    rw [add_at, Nat.zero_add]
    refine hP _ _ _ fun j hj => ?_
    have hlt : i * c + j < l.length * c := by
      have : (i + 1) * c ≤ l.length * c := Nat.mul_le_mul_right c hi
      rw [Nat.add_mul] at this
      omega
    rw [blk_cell hk, h3 _ hlt, flat_get f c hf l i j hi hj]
/-- Rows of two kinds lie in two blocks. -/
theorem own_far {w : World} {B1 B2 s1 s2 n1 n2 : Nat} {e1 e2 : TypeId} {v1 v2 : Value} {xs1 xs2 : List Value} (h1 : w.ownsRow B1 e1 s1 v1 n1 xs1) (h2 : w.ownsRow B2 e2 s2 v2 n2 xs2) (he : e1 ≠ e2) : v1.ownBlock = none ∨ v1.ownBlock ≠ v2.ownBlock := by
  rcases h1.2 with ⟨rfl, _⟩ | ⟨g, _, cur, rfl, _, hg, _⟩
  · exact Or.inl rfl
  · refine Or.inr fun e => ?_
    rcases h2.2 with ⟨rfl, _⟩ | ⟨g2, _, cur2, rfl, _, hg2, _⟩
    · cases e
    · have e3 : g = g2 := Option.some.inj e
      rw [← e3, hg] at hg2
      injection hg2 with hg2
      injection hg2 with _ h5 _
      exact he h5
/-- A row that stands in a block of its own, as a list. -/
theorem lit_rw {α : Type} {c : Nat} {P : World → Addr → α → Prop} {f : α → List Value} (hf : ∀ x, (f x).length = c) {w : World} {l : List α} (hP : ∀ (b o : Nat) (x : α), x ∈ l → (∀ j, j < c → w.cell? ⟨b, o + j, none⟩ = (f x)[j]?) → P w ⟨b, o, none⟩ x)
    {g : Nat} {t : TypeId} {arr : Array Value} (h : blk w g t arr) (ha : arr.toList = l.flatMap f) (hl : l.length ≤ maxLen) : Rw c P w (.slice (some ⟨g, 0, none⟩) l.length l.length) l := by
  refine ⟨_, _, rfl, Nat.le_refl _, hl, fun _ => ⟨_, rfl, fun i hi => ?_⟩⟩
  rw [add_at, Nat.zero_add]
  refine hP _ _ _ (List.getElem_mem hi) fun j hj => ?_
  rw [blk_cell h, ← Array.getElem?_toList, ha, flat_get f c hf l i j hi hj]

/-! ### Numbers -/
def inAt (w : World) (A : Addr) (n : Int) : Prop := w.cell? A = some (.int .i64 n)
theorem inAt.keep {w1 w2 : World} {A : Addr} {n : Int} (h : inAt w1 A n) (hb : Below w1.heap.size w1 w2) : inAt w2 A n := cell_later' hb h
abbrev Ins := Rw 1 inAt
theorem Ins.keep {w1 w2 : World} {v : Value} {l : List Int} (h : Ins w1 v l) (hb : Below w1.heap.size w1 w2) : Ins w2 v l := Rw.keep (P := inAt) (fun h hb => inAt.keep h hb) h hb
theorem Ins.at {w : World} {ao : Option Addr} {n cap : Nat} {l : List Int} (h : Ins w (.slice ao n cap) l) {k : Nat} (hk : k < l.length) : ∃ A, ao = some A ∧ w.cell? (A.add k) = some (.int .i64 l[k]) := by
  obtain ⟨A, rfl, h1⟩ := h.get hk
  rw [Nat.mul_one] at h1
  exact ⟨A, rfl, h1⟩
def inC (n : Int) : List Value := [.int .i64 n]
/-- A row of numbers that the call owns. -/
def Irow (w : World) (B : Nat) (v : Value) (l : List Int) : Prop := w.ownsRow B 3 1 v l.length (l.flatMap inC)
theorem Irow.ins {w : World} {B : Nat} {v : Value} {l : List Int} (h : Irow w B v l) : Ins w v l :=
  own_rw (f := inC) (fun _ => rfl) (fun b o x hx => by have := hx 0 (by decide); exact this) h
theorem info_cin : (Try.prog.info? 3).map (fun i => (i.zero, i.size, i.bytes)) = some (some (.int .i64 0), 1, 8) := by kernel_rfl
theorem info_of_cin : ∃ i, Try.prog.info? 3 = some i ∧ i.zero = some (.int .i64 0) ∧ i.size = 1 ∧ i.bytes = 8 := by
  have h := info_cin
  cases hq : Try.prog.info? 3 with
  | none => rw [hq] at h; cases h
  | some i =>
    rw [hq] at h
    simp only [Option.map_some, Option.some.injEq, Prod.mk.injEq] at h
    exact ⟨i, rfl, h.1, h.2.1, h.2.2⟩
/-- One number more in a row. -/
theorem app_in {w : World} {ops : Array Oper} {rest : List Oper} {o : Oper} {a : Act} {Q : Exit → Act → World → Prop} (hg : o.guard = none) (p y : Operand) (ho : o.op = .call { callee := .builtin .append, args := #[p, y], argTypes := #[25, 25] })
    (B : Nat) (v : Value) (l : List Int) (x : Int) (H : Nat) (hH : w.heap.size = H) (hs : a.eval p = v) (hx : a.eval y = .slice (some ⟨H, 0, none⟩) 1 1) (h : Hid (Irow w B v l)) (hl : l.length ≤ 1000000) (hB : B ≤ w.heap.size)
    (hK : ∀ ao cap w', Irow w' B (.slice ao (l.length + 1) cap) (l ++ [x]) → w.grownBy w' v.ownBlock → wpList Try.prog ops Q rest (a.put o.dst (.slice ao (l.length + 1) cap)) w') : wpList Try.prog ops Q (o :: rest) a (w.alloc (.cells #[.int .i64 x] 3)) := by
  subst hH
  obtain ⟨i0, hi, hz0, hz1, hz2⟩ := info_of_cin
  refine wpList_append_own _ hg p y 25 ho B 3 i0 _ 1 8 Try.underlying25 hi hz0 hz1 hz2 rfl (by decide) v l.length _ hs (World.ownsRow.alloc h.out _) ⟨w.heap.size, 0, none⟩ 1 1 [.int .i64 x] hx rfl ?_ (by simp [Value.oneCell']) (by unfold maxLen; omega) (by omega) (by simp; omega) ?_
  · intro j u hj
    rw [add_at, Nat.zero_add, blk_cell (blk_new w #[.int .i64 x] 3), ← hj]
    simp
  · intro v' w' hown hgrow _
    obtain ⟨ao, cap, rfl, _, _⟩ := own_form hown
    refine hK ao cap w' ?_ ?_
    · unfold Irow; rw [List.length_append, List.flatMap_append]; exact hown
    · refine ⟨hgrow.os, hgrow.tape, hgrow.output, Nat.le_trans (by simp) hgrow.size, fun k hk hne => ?_⟩
      rw [hgrow.block k (by simp; omega) hne, heap_alloc_old w _ (h := hk)]


/-! ### Arcs -/
def arC (x : Ar) : List Value := [.int .i64 x.1, .int .i64 x.2]
def arAt (w : World) (A : Addr) (x : Ar) : Prop := w.cell? A = some (.int .i64 x.1) ∧ w.cell? ⟨A.block, A.off + 1, none⟩ = some (.int .i64 x.2)
theorem arAt.keep {w1 w2 : World} {A : Addr} {x : Ar} (h : arAt w1 A x) (hb : Below w1.heap.size w1 w2) : arAt w2 A x := ⟨cell_later' hb h.1, cell_later' hb h.2⟩
abbrev Ars := Rw 2 arAt
theorem Ars.keep {w1 w2 : World} {v : Value} {l : List Ar} (h : Ars w1 v l) (hb : Below w1.heap.size w1 w2) : Ars w2 v l := Rw.keep (P := arAt) (fun h hb => arAt.keep h hb) h hb
/-- A digraph by value. -/
def DgV (w : World) (v : Value) (n : Int) (l : List Ar) : Prop := ∃ av, v = .agg #[.int .i64 n, av] ∧ Ars w av l
theorem DgV.keep {w1 w2 : World} {v : Value} {n : Int} {l : List Ar} (h : DgV w1 v n l) (hb : Below w1.heap.size w1 w2) : DgV w2 v n l := by
  obtain ⟨av, rfl, h1⟩ := h; exact ⟨av, rfl, h1.keep hb⟩
/-- A row of arcs that the call owns. -/
def Arow (w : World) (B : Nat) (v : Value) (l : List Ar) : Prop := w.ownsRow B 37 2 v l.length (l.flatMap arC)
theorem Arow.ars {w : World} {B : Nat} {v : Value} {l : List Ar} (h : Arow w B v l) : Ars w v l :=
  own_rw (f := arC) (fun _ => rfl) (fun b o x hx => ⟨hx 0 (by decide), hx 1 (by decide)⟩) h
theorem info_car : (Try.prog.info? 37).map (fun i => (i.zero, i.size, i.bytes)) = some (some (.agg #[.int .i64 0, .int .i64 0]), 2, 16) := by kernel_rfl
theorem info_of_car : ∃ i, Try.prog.info? 37 = some i ∧ i.zero = some (.agg #[.int .i64 0, .int .i64 0]) ∧ i.size = 2 ∧ i.bytes = 16 := by
  have h := info_car
  cases hq : Try.prog.info? 37 with
  | none => rw [hq] at h; cases h
  | some i =>
    rw [hq] at h
    simp only [Option.map_some, Option.some.injEq, Prod.mk.injEq] at h
    exact ⟨i, rfl, h.1, h.2.1, h.2.2⟩
/-- One arc more in a row. -/
theorem app_ar {w : World} {ops : Array Oper} {rest : List Oper} {o : Oper} {a : Act} {Q : Exit → Act → World → Prop} (hg : o.guard = none) (p y : Operand) (ho : o.op = .call { callee := .builtin .append, args := #[p, y], argTypes := #[22, 22] })
    (B : Nat) (v : Value) (l : List Ar) (x y' : Int) (H : Nat) (hH : w.heap.size = H) (hs : a.eval p = v) (hx : a.eval y = .slice (some ⟨H, 0, none⟩) 1 1) (h : Hid (Arow w B v l)) (hl : l.length ≤ 1000000) (hB : B ≤ w.heap.size)
    (hK : ∀ ao cap w', Arow w' B (.slice ao (l.length + 1) cap) (l ++ [(x, y')]) → w.grownBy w' v.ownBlock → wpList Try.prog ops Q rest (a.put o.dst (.slice ao (l.length + 1) cap)) w') : wpList Try.prog ops Q (o :: rest) a (w.alloc (.cells #[.int .i64 x, .int .i64 y'] 37)) := by
  subst hH
  obtain ⟨i0, hi, hz0, hz1, hz2⟩ := info_of_car
  refine wpList_append_own _ hg p y 22 ho B 37 i0 _ 2 16 Try.underlying22 hi hz0 hz1 hz2 rfl (by decide) v l.length _ hs (World.ownsRow.alloc h.out _) ⟨w.heap.size, 0, none⟩ 1 1 [.int .i64 x, .int .i64 y'] hx rfl ?_ (by simp [Value.oneCell']) (by unfold maxLen; omega) (by omega) (by simp; omega) ?_
  · intro j u hj
    rw [add_at, Nat.zero_add, blk_cell (blk_new w #[.int .i64 x, .int .i64 y'] 37), ← hj]
    simp
  · intro v' w' hown hgrow _
    obtain ⟨ao, cap, rfl, _, _⟩ := own_form hown
    refine hK ao cap w' ?_ ?_
    · unfold Arow; rw [List.length_append, List.flatMap_append]; exact hown
    · refine ⟨hgrow.os, hgrow.tape, hgrow.output, Nat.le_trans (by simp) hgrow.size, fun k hk hne => ?_⟩
      rw [hgrow.block k (by simp; omega) hne, heap_alloc_old w _ (h := hk)]
theorem Ars.at {w : World} {ao : Option Addr} {n cap : Nat} {l : List Ar} (h : Ars w (.slice ao n cap) l) {k : Nat} (hk : k < l.length) : ∃ A, ao = some A ∧ w.cell? (A.add (k * 2)) = some (.int .i64 l[k].1) ∧ w.cell? ⟨(A.add (k * 2)).block, (A.add (k * 2)).off + 1, none⟩ = some (.int .i64 l[k].2) := h.get hk
/-- What calls leave. -/
def InsOut (L : List Int) (w : World) (e : Ending) (w' : World) : Prop := ∃ v, e = .returned v ∧ Ins w' v L ∧ Below w.heap.size w w'
def DgOut (n : Int) (L : List Ar) (w : World) (e : Ending) (w' : World) : Prop := ∃ v, e = .returned v ∧ DgV w' v n L ∧ Below w.heap.size w w'

/-! ### What comes in -/
section
variable {H : Type} {enc : TypeId × Value → H} {w : World} {base : Nat} {spare : Nat → Bool} {held : Bool}
theorem trod_fields {t : TypeId} {fs : Array Field} {fuel : Nat} {cs : List Value} {x : DataW H × List MemPlace} (ht : Try.prog.underlying t = some (.struct fs)) (h : DataW.trod enc Try.prog w base spare held fuel t cs = some x) :
    cs.length = Try.prog.cellsOf t ∧ ∃ n, ∀ (i : Nat) (f : Field), fs[i]? = some f → ∃ y, DataW.trod enc Try.prog w base spare held n f.type ((cs.drop f.offset).take (Try.prog.cellsOf f.type)) = some y := by
  obtain ⟨xs, n, _, rfl, hl, hlen, hf⟩ := DataW.trod_struct ht h
  refine ⟨hl, n, fun i f hi => ?_⟩
  have hil : i < xs.length := by
    rw [hlen]
    rcases Nat.lt_or_ge i fs.size with h | h
    · exact h
    · rw [Array.getElem?_eq_none h] at hi; exact nomatch hi
  exact ⟨xs[i], by have := hf i f hi; rw [List.getElem?_eq_getElem hil] at this; simpa using this⟩
/-- A list that comes in, element by element. -/
theorem open_rw {α : Type} [Inhabited α] {c : Nat} {P : World → Addr → α → Prop} {t e : TypeId} {fuel : Nat} {cs : List Value} {x : DataW H × List MemPlace} (ht : Try.prog.underlying t = some (.slice e)) (hc : Try.prog.cellsOf e = c)
    (hel : ∀ (A : Addr) (n : Nat) (cs : List Value) (y : DataW H × List MemPlace), cs.length = c → (∀ i, i < c → w.cell? (A.add i) = cs[i]?) → DataW.trod enc Try.prog w base spare held n e cs = some y → ∃ a, P w A a)
    (h : DataW.trod enc Try.prog w base spare held fuel t cs = some x) : ∃ v l, cs = [v] ∧ Rw c P w v l := by
  rcases Deep.open_slice ht h with ⟨rfl, _⟩ | ⟨a, len, cap, m, n, D, Pl, rfl, _, hl, hm, hmm, _, hi⟩
  · exact ⟨_, [], rfl, Rw.nil c P w⟩
  · have hlm : len ≤ m := by rw [hmm]; split <;> omega
    have key : ∀ i, i < len → ∃ r : α, P w (a.add (i * c)) r := by
      intro i hil
      obtain ⟨cs', hc', ht'⟩ := hi i (by omega)
      rw [hc] at hc'
      obtain ⟨_, hcl, hat⟩ := World.cells?_some hc'
      exact hel _ _ _ _ hcl hat ht'
    obtain ⟨f, hf⟩ := Deep.choose_lt key
    have hlen : ((List.range len).map f).length = len := by simp
    refine ⟨_, (List.range len).map f, rfl, some a, cap, by rw [hlen], by rw [hlen]; exact hl, hm, fun _ => ⟨a, rfl, fun i hi' => ?_⟩⟩
    rw [hlen] at hi'
    simpa using hf i hi'
set_option maxRecDepth 100000 in
theorem open_arcs {fuel : Nat} {cs : List Value} {x : DataW H × List MemPlace} (h : DataW.trod enc Try.prog w base spare held fuel 22 cs = some x) : ∃ v l, cs = [v] ∧ Ars w v l := by
  refine open_rw Try.underlying22 (by kernel_rfl) (fun A n cs y hl hat ht => ?_) h
  obtain ⟨_, q, hf⟩ := trod_fields Try.underlying37 ht
  obtain ⟨c0, c1, rfl⟩ : ∃ c0 c1, cs = [c0, c1] := by
    match cs, hl with
    | [c0, c1], _ => exact ⟨c0, c1, rfl⟩
  have hci : Try.prog.cellsOf 3 = 1 := by kernel_rfl
  obtain ⟨y0, k0⟩ := hf 0 _ rfl
  obtain ⟨y1, k1⟩ := hf 1 _ rfl
  simp [hci] at k0 k1
  obtain ⟨x0, e0, _, z0⟩ := DataW.trod_int Try.underlying3 k0
  obtain ⟨x1, e1, _, z1⟩ := DataW.trod_int Try.underlying3 k1
  simp at e0 e1
  subst e0 e1
  have j0 := hat 0 (by omega)
  have j1 := hat 1 (by omega)
  rw [add_one_of _ 1 (by omega)] at j1
  exact ⟨(x0, x1), j0, j1⟩
set_option maxRecDepth 100000 in
theorem open_ints {fuel : Nat} {cs : List Value} {x : DataW H × List MemPlace} (h : DataW.trod enc Try.prog w base spare held fuel 25 cs = some x) : ∃ v l, cs = [v] ∧ Ins w v l := by
  refine open_rw Try.underlying25 (by kernel_rfl) (fun A n cs y hl hat ht => ?_) h
  obtain ⟨c0, rfl⟩ : ∃ c0, cs = [c0] := by
    match cs, hl with
    | [c0], _ => exact ⟨c0, rfl⟩
  obtain ⟨x0, e0, _, z0⟩ := DataW.trod_int Try.underlying3 ht
  simp at e0
  subst e0
  have j0 := hat 0 (by omega)
  exact ⟨x0, j0⟩
/-- A list of numbers that comes in. -/
theorem open_nums {r : Reach} {b0 : Nat} {v : Value} {d : DataW H} {p : List MemPlace} (hv : Value.okWide Try.prog w r b0 25 v) (h : DataW.Trod enc Try.prog w base spare held 25 v d p) : ∃ l, Ins w v l := by
  obtain ⟨a0, len, cap, rfl⟩ := okWide_slice Try.underlying25 hv
  obtain ⟨fuel, hf⟩ := h
  obtain ⟨u, l, e, hl⟩ := open_ints hf
  simp [Value.cells] at e
  subst e
  exact ⟨l, hl⟩
/-- A digraph that comes in. -/
theorem open_digraph {r : Reach} {b0 : Nat} {v : Value} {d : DataW H} {p : List MemPlace} (hv : Value.okWide Try.prog w r b0 24 v) (h : DataW.Trod enc Try.prog w base spare held 24 v d p) : ∃ g : Int × List Ar, DgV w v g.1 g.2 ∧ (Lit.int .i64 g.1).wf = true := by
  obtain ⟨cs, rfl, hsz⟩ := okWide_struct Try.underlying24 hv
  obtain ⟨fuel, hf⟩ := h
  obtain ⟨_, q, hk⟩ := trod_fields Try.underlying24 hf
  have hc2 : Try.prog.cellsOf 24 = 2 := by kernel_rfl
  obtain ⟨c0, c1, rfl⟩ : ∃ c0 c1, cs = #[c0, c1] := by
    have hl : cs.toList.length = 2 := by simpa using hsz.trans hc2
    match h : cs.toList, hl with
    | [c0, c1], _ => exact ⟨c0, c1, by rw [← Array.toArray_toList (xs := cs), h]⟩
  have hci : Try.prog.cellsOf 3 = 1 := by kernel_rfl
  have hca : Try.prog.cellsOf 22 = 1 := by kernel_rfl
  obtain ⟨y0, k0⟩ := hk 0 _ rfl
  obtain ⟨y1, k1⟩ := hk 1 _ rfl
  simp [Value.cells, hci, hca] at k0 k1
  obtain ⟨x0, e0, _, z0⟩ := DataW.trod_int Try.underlying3 k0
  obtain ⟨av, l, e1, hl⟩ := open_arcs k1
  simp at e0 e1
  subst e0 e1
  exact ⟨(x0, l), ⟨_, rfl, hl⟩, z0⟩
end
end Go.Proofs.Ytncedgnpdojkkaa.dig
