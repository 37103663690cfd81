/-
  Rows of numbers and of arcs that a call makes (layer 11): what they hold, one element more. No condition.
-/
import Derived.Test.YtjeacpohanadnaaGraInt
import Derived.Test.YtjeacpohanadnaaGraRef4
import Derived.Laws.OwnMore
namespace Go.Proofs.Ytjeacpohanadnaa.gra
open Go.RowKit lex

theorem add_at (b o j : Nat) : (⟨b, o, none⟩ : Addr).add j = ⟨b, o + j, none⟩ := by
  unfold Addr.add; split
  · subst_vars; rfl
  · rfl
/-- Block g holds these cells and may be written. -/
def blk (W : World) (g : Nat) (t : TypeId) (arr : Array Value) : Prop := W.heap[g]? = some (.cells arr t (0, 0))
theorem blk_cell {W : World} {g o : Nat} {t : TypeId} {arr : Array Value} (h : blk W g t arr) : W.cell? ⟨g, o, none⟩ = arr[o]? := by
  unfold blk at h; simp [World.cell?, h]
theorem blk_new (w : World) (c : Array Value) (t : TypeId) : blk (w.alloc (.cells c t)) w.heap.size t c := heap_alloc_new w _
theorem flat_len {X : Type} (f : X → List Value) (k : Nat) (hk : ∀ x, (f x).length = k) (l : List X) : (l.flatMap f).length = l.length * k := by
  induction l with
  | nil => simp
  | cons x t ih => rw [List.flatMap_cons, List.length_append, ih, hk, List.length_cons, Nat.add_mul]; omega
theorem flat_get {X : Type} (f : X → List Value) (k : Nat) (hk : ∀ x, (f x).length = k) : ∀ (l : List X) (i j : Nat) (h : i < l.length), j < k → (l.flatMap f)[i * k + j]? = (f l[i])[j]? := by
  intro l
  induction l with
  | nil => intro i j h; simp at h
  | cons x t ih =>
    intro i j h hj
    rw [List.flatMap_cons]
    cases i with
    | zero => rw [Nat.zero_mul, Nat.zero_add, List.getElem?_append_left (by rw [hk]; exact hj)]; rfl
    | succ i =>
      rw [List.getElem?_append_right (by rw [hk, Nat.add_mul]; omega), hk, show (i + 1) * k + j - k = i * k + j by rw [Nat.add_mul]; omega]
      exact ih i j (by simpa using h) hj
theorem own_blk {w : World} {B s n : Nat} {t : TypeId} {v : Value} {xs : List Value} (h : w.ownsRow B t s v n xs) (hn : 0 < n) : ∃ g cap arr, v = .slice (some ⟨g, 0, none⟩) n cap ∧ B ≤ g ∧ blk w g t arr ∧ n ≤ cap ∧ cap ≤ maxLen ∧ ∀ j, j < n * s → arr[j]? = xs[j]? := by
  rcases h.2 with ⟨_, rfl⟩ | ⟨g, cap, cur, rfl, hB, hk, h1, h2, h3, h4⟩
  · omega
  · refine ⟨g, cap, cur, rfl, hB, hk, h1, h2, fun j hj => ?_⟩
    rw [← h4, List.getElem?_take_of_lt hj, Array.getElem?_toList]
theorem own_form {w : World} {B s n : Nat} {t : TypeId} {v : Value} {xs : List Value} (h : w.ownsRow B t s v n xs) : ∃ ao cap, v = .slice ao n cap ∧ n ≤ cap ∧ cap ≤ maxLen := by
  rcases h.2 with ⟨rfl, rfl⟩ | ⟨g, cap, cur, rfl, _, _, h1, h2, _⟩
  · exact ⟨_, 0, rfl, Nat.le_refl _, by decide⟩
  · exact ⟨_, cap, rfl, h1, h2⟩
theorem own_nil (w : World) (B : Nat) (t : TypeId) (s : Nat) : w.ownsRow B t s (.slice none 0 0) 0 [] := ⟨by simp, .inl ⟨rfl, rfl⟩⟩
/-- A row that was made, as a list: each element's cells lie from its place on. -/
theorem own_rw {α : Type} {c : Nat} {P : World → Addr → α → Prop} {f : α → List Value} (hf : ∀ x, (f x).length = c) {w : World} (hP : ∀ (b o : Nat) (x : α), (∀ j, j < c → w.cell? ⟨b, o + j, none⟩ = (f x)[j]?) → P w ⟨b, o, none⟩ x)
    {B : Nat} {t : TypeId} {v : Value} {l : List α} (h : w.ownsRow B t c v l.length (l.flatMap f)) : Rw c P w v l := by
  by_cases h0 : l.length = 0
  · obtain ⟨ao, cap, rfl, h1, h2⟩ := own_form h
    exact ⟨ao, cap, rfl, h1, h2, fun hn => by omega⟩
  · obtain ⟨g, cap, arr, rfl, hB', hk, h1, h2, h3⟩ := own_blk h (by omega)
    refine ⟨_, cap, rfl, h1, h2, fun _ => ⟨_, rfl, fun i hi => ?_⟩⟩
    rw [add_at, Nat.zero_add]
    refine hP _ _ _ fun j hj => ?_
    have hlt : i * c + j < l.length * c := by
      have : (i + 1) * c ≤ l.length * c := Nat.mul_le_mul_right c hi
      rw [Nat.add_mul] at this
      omega
    rw [blk_cell hk, h3 _ hlt, flat_get f c hf l i j hi hj]
def inC (n : Int) : List Value := [.int .i64 n]
/-- A row of numbers that the call owns. -/
def Irow (w : World) (B : Nat) (v : Value) (l : List Int) : Prop := w.ownsRow B 3 1 v l.length (l.flatMap inC)
theorem Irow.ins {w : World} {B : Nat} {v : Value} {l : List Int} (h : Irow w B v l) : Ins w v l :=
  own_rw (f := inC) (fun _ => rfl) (fun b o x hx => by have := hx 0 (by decide); exact this) h
theorem info_cin : (Try.prog.info? 3).map (fun i => (i.zero, i.size, i.bytes)) = some (some (.int .i64 0), 1, 8) := by kernel_rfl
theorem info_of_cin : ∃ i, Try.prog.info? 3 = some i ∧ i.zero = some (.int .i64 0) ∧ i.size = 1 ∧ i.bytes = 8 := by
  have h := info_cin
  cases hq : Try.prog.info? 3 with
  | none => rw [hq] at h; cases h
  | some i =>
    rw [hq] at h
    simp only [Option.map_some, Option.some.injEq, Prod.mk.injEq] at h
    exact ⟨i, rfl, h.1, h.2.1, h.2.2⟩
/-- One number more in a row. -/
theorem app_in {w : World} {ops : Array Oper} {rest : List Oper} {o : Oper} {a : Act} {Q : Exit → Act → World → Prop} (hg : o.guard = none) (p y : Operand) (ho : o.op = .call { callee := .builtin .append, args := #[p, y], argTypes := #[40, 40] })
    (B : Nat) (v : Value) (l : List Int) (x : Int) (H : Nat) (hH : w.heap.size = H) (hs : a.eval p = v) (hx : a.eval y = .slice (some ⟨H, 0, none⟩) 1 1) (h : Hid (Irow w B v l)) (hl : l.length ≤ 1000000) (hB : B ≤ w.heap.size)
    (hK : ∀ ao cap w', Irow w' B (.slice ao (l.length + 1) cap) (l ++ [x]) → w.grownBy w' v.ownBlock → wpList Try.prog ops Q rest (a.put o.dst (.slice ao (l.length + 1) cap)) w') : wpList Try.prog ops Q (o :: rest) a (w.alloc (.cells #[.int .i64 x] 3)) := by
  subst hH
  obtain ⟨i0, hi, hz0, hz1, hz2⟩ := info_of_cin
  refine wpList_append_own _ hg p y 40 ho B 3 i0 _ 1 8 Try.underlying40 hi hz0 hz1 hz2 rfl (by decide) v l.length _ hs (World.ownsRow.alloc h.out _) ⟨w.heap.size, 0, none⟩ 1 1 [.int .i64 x] hx rfl ?_ (by simp [Value.oneCell']) (by unfold maxLen; omega) (by omega) (by simp; omega) ?_
  · intro j u hj
    rw [add_at, Nat.zero_add, blk_cell (blk_new w #[.int .i64 x] 3), ← hj]
    simp
  · intro v' w' hown hgrow _
    obtain ⟨ao, cap, rfl, _, _⟩ := own_form hown
    refine hK ao cap w' ?_ ?_
    · unfold Irow; rw [List.length_append, List.flatMap_append]; exact hown
    · refine ⟨hgrow.os, hgrow.tape, hgrow.output, Nat.le_trans (by simp) hgrow.size, fun k hk hne => ?_⟩
      rw [hgrow.block k (by simp; omega) hne, heap_alloc_old w _ hk]

/-! ### Arcs -/
abbrev Ar := Int × Int
def arC (x : Ar) : List Value := [.int .i64 x.1, .int .i64 x.2]
def arAt (w : World) (A : Addr) (x : Ar) : Prop := w.cell? A = some (.int .i64 x.1) ∧ w.cell? ⟨A.block, A.off + 1, none⟩ = some (.int .i64 x.2)
theorem arAt.keep {w1 w2 : World} {A : Addr} {x : Ar} (h : arAt w1 A x) (hb : Below w1.heap.size w1 w2) : arAt w2 A x := ⟨cell_later' hb h.1, cell_later' hb h.2⟩
abbrev Ars := Rw 2 arAt
theorem Ars.keep {w1 w2 : World} {v : Value} {l : List Ar} (h : Ars w1 v l) (hb : Below w1.heap.size w1 w2) : Ars w2 v l := Rw.keep (P := arAt) (fun h hb => arAt.keep h hb) h hb
/-- A digraph by value. -/
def DgV (w : World) (v : Value) (n : Int) (l : List Ar) : Prop := ∃ av, v = .agg #[.int .i64 n, av] ∧ Ars w av l
theorem DgV.keep {w1 w2 : World} {v : Value} {n : Int} {l : List Ar} (h : DgV w1 v n l) (hb : Below w1.heap.size w1 w2) : DgV w2 v n l := by
  obtain ⟨av, rfl, h1⟩ := h; exact ⟨av, rfl, h1.keep hb⟩
/-- A row of arcs that the call owns. -/
def Arow (w : World) (B : Nat) (v : Value) (l : List Ar) : Prop := w.ownsRow B 61 2 v l.length (l.flatMap arC)
theorem Arow.ars {w : World} {B : Nat} {v : Value} {l : List Ar} (h : Arow w B v l) : Ars w v l :=
  own_rw (f := arC) (fun _ => rfl) (fun b o x hx => ⟨hx 0 (by decide), hx 1 (by decide)⟩) h
theorem info_car : (Try.prog.info? 61).map (fun i => (i.zero, i.size, i.bytes)) = some (some (.agg #[.int .i64 0, .int .i64 0]), 2, 16) := by kernel_rfl
theorem info_of_car : ∃ i, Try.prog.info? 61 = some i ∧ i.zero = some (.agg #[.int .i64 0, .int .i64 0]) ∧ i.size = 2 ∧ i.bytes = 16 := by
  have h := info_car
  cases hq : Try.prog.info? 61 with
  | none => rw [hq] at h; cases h
  | some i =>
    rw [hq] at h
    simp only [Option.map_some, Option.some.injEq, Prod.mk.injEq] at h
    exact ⟨i, rfl, h.1, h.2.1, h.2.2⟩
/-- One arc more in a row. -/
theorem app_ar {w : World} {ops : Array Oper} {rest : List Oper} {o : Oper} {a : Act} {Q : Exit → Act → World → Prop} (hg : o.guard = none) (p y : Operand) (ho : o.op = .call { callee := .builtin .append, args := #[p, y], argTypes := #[33, 33] })
    (B : Nat) (v : Value) (l : List Ar) (x y' : Int) (H : Nat) (hH : w.heap.size = H) (hs : a.eval p = v) (hx : a.eval y = .slice (some ⟨H, 0, none⟩) 1 1) (h : Hid (Arow w B v l)) (hl : l.length ≤ 1000000) (hB : B ≤ w.heap.size)
    (hK : ∀ ao cap w', Arow w' B (.slice ao (l.length + 1) cap) (l ++ [(x, y')]) → w.grownBy w' v.ownBlock → wpList Try.prog ops Q rest (a.put o.dst (.slice ao (l.length + 1) cap)) w') : wpList Try.prog ops Q (o :: rest) a (w.alloc (.cells #[.int .i64 x, .int .i64 y'] 61)) := by
  subst hH
  obtain ⟨i0, hi, hz0, hz1, hz2⟩ := info_of_car
  refine wpList_append_own _ hg p y 33 ho B 61 i0 _ 2 16 Try.underlying33 hi hz0 hz1 hz2 rfl (by decide) v l.length _ hs (World.ownsRow.alloc h.out _) ⟨w.heap.size, 0, none⟩ 1 1 [.int .i64 x, .int .i64 y'] hx rfl ?_ (by simp [Value.oneCell']) (by unfold maxLen; omega) (by omega) (by simp; omega) ?_
  · intro j u hj
    rw [add_at, Nat.zero_add, blk_cell (blk_new w #[.int .i64 x, .int .i64 y'] 61), ← hj]
    simp
  · intro v' w' hown hgrow _
    obtain ⟨ao, cap, rfl, _, _⟩ := own_form hown
    refine hK ao cap w' ?_ ?_
    · unfold Arow; rw [List.length_append, List.flatMap_append]; exact hown
    · refine ⟨hgrow.os, hgrow.tape, hgrow.output, Nat.le_trans (by simp) hgrow.size, fun k hk hne => ?_⟩
      rw [hgrow.block k (by simp; omega) hne, heap_alloc_old w _ hk]
end Go.Proofs.Ytjeacpohanadnaa.gra
