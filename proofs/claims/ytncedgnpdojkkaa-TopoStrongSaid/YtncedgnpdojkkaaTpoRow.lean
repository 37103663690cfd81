/-
  Rows that a call makes in one piece (make), of elements of one cell each; rows of lists of numbers. No condition.
-/
import Derived.Test.YtncedgnpdojkkaaTpoRef1
import Derived.OwnWalk
namespace Go.Proofs.Ytncedgnpdojkkaa.tpo
open Go.RowKit dig

/-- A row of m elements at the head of block g, which the call made. -/
def Frow {α : Type} (c : α → Value) (t : TypeId) (w : World) (B g m : Nat) (L : List α) : Prop := L.length = m ∧ w.ownsRow B t 1 (.slice (some ⟨g, 0, none⟩) m m) m (L.map c)
section
variable {α : Type} {c : α → Value} {t : TypeId} {w w' : World} {B g m : Nat} {L : List α}
theorem Frow.at (h : Frow c t w B g m L) {j : Nat} (hj : j < L.length) : w.cell? ⟨g, j, none⟩ = some (c L[j]) := by
  have hm : j < m * 1 := by have := h.1; omega
  rw [h.2.cellAt j hm, List.getElem?_map, List.getElem?_eq_getElem hj]; rfl
theorem Frow.free (h : Frow c t w B g m L) (j : Nat) : w.frozen? ⟨g, j, none⟩ = false := h.2.frozenAt j
theorem Frow.put (h : Frow c t w B g m L) (j : Nat) (x : α) : Frow c t (w.setCell ⟨g, j, none⟩ (c x)) B g m (L.set j x) := by
  refine ⟨by rw [List.length_set]; exact h.1, ?_⟩
  rw [List.map_set]
  exact (h.2.stored j (c x)).1
theorem Frow.keep (h : Frow c t w B g m L) (hb : Below w.heap.size w w') : Frow c t w' B g m L := ⟨h.1, own_keep h.2 hb⟩
theorem Frow.ge (h : Frow c t w B g m L) : B ≤ g := (h.2.lt g rfl).1
theorem Frow.grown {B2 e s n : Nat} {v : Value} {xs : List Value} (h : Frow c t w B g m L) (h2 : w.ownsRow B2 e s v n xs) (hg : w.grownBy w' v.ownBlock) (ht : t ≠ e) : Frow c t w' B g m L :=
  ⟨h.1, World.ownsRow.kept h.2 hg (own_far h.2 h2 ht)⟩
theorem Frow.far (h : Frow c t w B g m L) {b o : Nat} (u : Value) (hb : b < B) : Frow c t (w.setCell ⟨b, o, none⟩ u) B g m L := ⟨h.1, ownsRow_setCell_below h.2 hb u⟩
end
theorem own_base {w : World} {B B2 e s n : Nat} {v : Value} {xs : List Value} (h : w.ownsRow B2 e s v n xs) (hB : B ≤ B2) : w.ownsRow B e s v n xs := by
  refine ⟨h.1, h.2.imp id ?_⟩
  rintro ⟨g, cap, cur, e1, hg, h2⟩
  exact ⟨g, cap, cur, e1, Nat.le_trans hB hg, h2⟩
/-- A row of numbers of the call's own that it leaves. -/
def IrOut (L : List Int) (w : World) (e : Ending) (w' : World) : Prop := ∃ v, e = .returned v ∧ Irow w' w.heap.size v L ∧ Below w.heap.size w w'
theorem flat_int : ∀ l : List Int, l.flatMap inC = l.map (Value.int .i64)
  | [] => rfl
  | x :: t => by rw [List.flatMap_cons, List.map_cons, flat_int t]; rfl
abbrev Zrow := Frow (Value.int .i64) 3
theorem Zrow.ins {w : World} {B g m : Nat} {L : List Int} (h : Zrow w B g m L) : Ins w (.slice (some ⟨g, 0, none⟩) m m) L := by
  have hm := h.1
  subst hm
  refine Irow.ins (B := B) ?_
  unfold Irow
  rw [flat_int]
  exact h.2
abbrev Brow := Frow Value.bool 4
theorem Brow.at {w : World} {B g m : Nat} {I : List Bool} (h : Brow w B g m I) {j : Nat} (hj : j < m) : w.cell? ⟨g, j, none⟩ = some (.bool (mk I j)) := by
  have hl : j < I.length := by have := h.1; omega
  rw [Frow.at h hl]
  unfold mk
  rw [List.getD_eq_getElem?_getD, List.getElem?_eq_getElem hl]; rfl
theorem info_cb : (Try.prog.info? 4).map (fun i => (i.zero, i.size, i.bytes)) = some (some (.bool false), 1, 1) := by kernel_rfl
theorem info_of_cb : ∃ i, Try.prog.info? 4 = some i ∧ i.zero = some (.bool false) ∧ i.size = 1 ∧ i.bytes = 1 := by
  have h := info_cb
  cases hq : Try.prog.info? 4 with
  | none => rw [hq] at h; cases h
  | some i =>
    rw [hq] at h
    simp only [Option.map_some, Option.some.injEq, Prod.mk.injEq] at h
    exact ⟨i, rfl, h.1, h.2.1, h.2.2⟩
/-- A row of zero elements, as it is made. -/
theorem Frow.made {α : Type} {c : α → Value} {t : TypeId} {w : World} {B g m : Nat} {z : α} (h1 : (c z).cells = #[c z]) (h : w.ownsRow B t 1 (.slice (some ⟨g, 0, none⟩) m m) m (madeCells (c z).cells (m * 1)).toList) : Frow c t w B g m (List.replicate m z) := by
  refine ⟨by simp, ?_⟩
  rw [h1, Nat.mul_one, toList_madeCells_one] at h
  rw [List.map_replicate]
  exact h

/-! ### Rows of lists of numbers -/
/-- A list of lists of numbers, as a slice holds it. -/
def listAt (w : World) (A : Addr) (x : List Int) : Prop := ∃ v, w.cell? A = some v ∧ Ins w v x
theorem listAt.keep {w1 w2 : World} {A : Addr} {x : List Int} (h : listAt w1 A x) (hb : Below w1.heap.size w1 w2) : listAt w2 A x := by
  obtain ⟨v, h1, h2⟩ := h
  exact ⟨v, cell_later' hb h1, h2.keep hb⟩
abbrev Lst := Rw 1 listAt
theorem Lst.keep {w1 w2 : World} {v : Value} {L : List (List Int)} (h : Lst w1 v L) (hb : Below w1.heap.size w1 w2) : Lst w2 v L := Rw.keep (P := listAt) (fun h hb => listAt.keep h hb) h hb
theorem Lst.at {w : World} {ao : Option Addr} {n cap : Nat} {L : List (List Int)} (h : Lst w (.slice ao n cap) L) {k : Nat} (hk : k < L.length) : ∃ A v, ao = some A ∧ w.cell? (A.add k) = some v ∧ Ins w v L[k] := by
  obtain ⟨A, rfl, v, h1, h2⟩ := h.get hk
  rw [Nat.mul_one] at h1
  exact ⟨A, v, rfl, h1, h2⟩
/-- Such a row that the call owns, with the lists in it. -/
def Mrow (w : World) (B : Nat) (v : Value) (L : List (List Int)) : Prop := ∃ vs : List Value, vs.length = L.length ∧ (∀ u ∈ vs, ∃ ao n c, u = .slice ao n c) ∧ w.ownsRow B 25 1 v L.length vs ∧ ∀ (i : Nat) (u : Value) (x : List Int), vs[i]? = some u → L[i]? = some x → Irow w B u x
theorem Mrow.nil (w : World) (B : Nat) : Mrow w B (.slice none 0 0) [] := ⟨[], rfl, (fun u hu => by cases hu), own_nil .., fun i u x h => by simp at h⟩
theorem Mrow.keep {w w' : World} {B : Nat} {v : Value} {L : List (List Int)} (h : Mrow w B v L) (hb : Below w.heap.size w w') : Mrow w' B v L := by
  obtain ⟨vs, h1, h2, h3, h4⟩ := h
  exact ⟨vs, h1, h2, own_keep h3 hb, fun i u x hu hx => own_keep (h4 i u x hu hx) hb⟩
theorem Mrow.form {w : World} {B : Nat} {v : Value} {L : List (List Int)} (h : Mrow w B v L) : ∃ ao cap, v = .slice ao L.length cap ∧ L.length ≤ cap ∧ cap ≤ maxLen := by
  obtain ⟨vs, h1, h2, h3, h4⟩ := h
  exact own_form h3
theorem Mrow.lst {w : World} {B : Nat} {v : Value} {L : List (List Int)} (h : Mrow w B v L) : Lst w v L := by
  obtain ⟨vs, h1, h2, h3, h4⟩ := h
  by_cases h0 : L.length = 0
  · obtain ⟨ao, cap, rfl, q1, q2⟩ := own_form h3
    exact ⟨ao, cap, rfl, q1, q2, fun hn => by omega⟩
  · obtain ⟨g, cap, arr, rfl, hB', hk, q1, q2, q3⟩ := own_blk h3 (by omega)
    refine ⟨_, cap, rfl, q1, q2, fun _ => ⟨_, rfl, fun i hi => ?_⟩⟩
    have hv : vs[i]? = some (vs[i]'(by omega)) := List.getElem?_eq_getElem (by omega)
    refine ⟨_, ?_, Irow.ins (h4 i _ _ hv (List.getElem?_eq_getElem hi))⟩
    rw [Nat.mul_one, add_at, Nat.zero_add, blk_cell hk, q3 i (by omega), hv]
/-- What a row of lists points to lies in blocks from B on. -/
def FreshL (w : World) (B : Nat) (v : Value) : Prop := ∀ (A : Addr) (n c : Nat), v = .slice (some A) n c → 0 < n → B ≤ A.block ∧ ∀ k, k < n → ∀ (A2 : Addr) (n2 c2 : Nat), w.cell? (A.add k) = some (.slice (some A2) n2 c2) → 0 < n2 → B ≤ A2.block
theorem add_block (A : Addr) (k : Nat) : (A.add k).block = A.block := by unfold Addr.add; split <;> rfl
theorem cell_other {w : World} {b o : Nat} {u : Value} {A : Addr} (h : A.block ≠ b) : (w.setCell ⟨b, o, none⟩ u).cell? A = w.cell? A := World.cell?_of_block (Below.heap_setCell w ⟨b, o, none⟩ u A.block h)
theorem FreshL.nil (w : World) (B : Nat) : FreshL w B (.slice none 0 0) := fun A n c e => by cases e
/-- A store into another block changes nothing of it. -/
theorem Lst.set {w : World} {B b o : Nat} {v u : Value} {L : List (List Int)} (h : Lst w v L) (hf : FreshL w B v) (hb : b < B) : Lst (w.setCell ⟨b, o, none⟩ u) v L ∧ FreshL (w.setCell ⟨b, o, none⟩ u) B v := by
  obtain ⟨ao, cap, rfl, h1, h2, h3⟩ := h
  refine ⟨⟨ao, cap, rfl, h1, h2, fun hn => ?_⟩, fun A n c e hn => ?_⟩
  · obtain ⟨A, rfl, h4⟩ := h3 hn
    obtain ⟨f1, f2⟩ := hf A _ _ rfl hn
    refine ⟨A, rfl, fun i hi => ?_⟩
    obtain ⟨v1, q0, x1, x2, rfl, q1, q2, q3⟩ := h4 i hi
    refine ⟨_, by rw [cell_other (by rw [add_block]; omega)]; exact q0, x1, x2, rfl, q1, q2, fun hn2 => ?_⟩
    obtain ⟨A2, rfl, q4⟩ := q3 hn2
    have := f2 i hi A2 _ _ (by rw [Nat.mul_one] at q0; exact q0) hn2
    refine ⟨A2, rfl, fun j hj => ?_⟩
    unfold inAt
    rw [cell_other (by rw [add_block]; omega)]
    exact q4 j hj
  · obtain ⟨f1, f2⟩ := hf A n c e hn
    refine ⟨f1, fun k hk A2 n2 c2 q hn2 => f2 k hk A2 n2 c2 ?_ hn2⟩
    rw [cell_other (by rw [add_block]; omega)] at q
    exact q
theorem Mrow.fresh {w : World} {B : Nat} {v : Value} {L : List (List Int)} (h : Mrow w B v L) : FreshL w B v := by
  obtain ⟨vs, h1, h2, h3, h4⟩ := h
  intro A n c e hn
  by_cases h0 : L.length = 0
  · obtain ⟨ao, cap, e2, _, _⟩ := own_form h3
    rw [e2] at e; cases e; omega
  · obtain ⟨g, cap, arr, e2, hB, hk, _, _, q3⟩ := own_blk h3 (by omega)
    rw [e2] at e
    cases e
    refine ⟨hB, fun k hk2 A2 n2 c2 q hn2 => ?_⟩
    rw [add_at, Nat.zero_add, blk_cell hk, q3 k (by omega)] at q
    have hx : L[k]? = some (L[k]'(by omega)) := List.getElem?_eq_getElem (by omega)
    have hir := h4 k _ _ q hx
    rcases hir.2 with ⟨e3, _⟩ | ⟨g2, _, _, e3, hB2, _⟩
    · cases e3
    · cases e3; exact hB2
/-- Such a row stays where another row of numbers grows that begins behind it, and where a row of bools grows. -/
theorem Mrow.below {w w' : World} {B B2 : Nat} {v : Value} {L : List (List Int)} (h : Mrow w B v L) (hb : Below B2 w w') (hB : w.heap.size ≤ B2) : Mrow w' B v L := h.keep (hb.mono hB)
theorem info_ci : (Try.prog.info? 25).map (fun i => (i.zero, i.size, i.bytes)) = some (some (.slice none 0 0), 1, 24) := by kernel_rfl
theorem info_of_ci : ∃ i, Try.prog.info? 25 = some i ∧ i.zero = some (.slice none 0 0) ∧ i.size = 1 ∧ i.bytes = 24 := by
  have h := info_ci
  cases hq : Try.prog.info? 25 with
  | none => rw [hq] at h; cases h
  | some i =>
    rw [hq] at h
    simp only [Option.map_some, Option.some.injEq, Prod.mk.injEq] at h
    exact ⟨i, rfl, h.1, h.2.1, h.2.2⟩
/-- Rows of another kind stay where a row of lists grows. -/
theorem Mrow.far {w w' : World} {B B2 e s n : Nat} {v v2 : Value} {L : List (List Int)} {xs : List Value} (h : Mrow w B v L) (h2 : w.ownsRow B2 e s v2 n xs) (he : e ≠ 25) (hg : w.grownBy w' v.ownBlock) : w'.ownsRow B2 e s v2 n xs := by
  obtain ⟨vs, _, _, h3, _⟩ := h
  exact World.ownsRow.kept h2 hg (own_far h2 h3 he)
theorem Mrow.lt {w : World} {B : Nat} {v : Value} {L : List (List Int)} (h : Mrow w B v L) (q : Nat) (hq : v.ownBlock = some q) : B ≤ q := by
  obtain ⟨vs, _, _, h3, _⟩ := h
  exact (World.ownsRow.lt h3 q hq).1
/-- One list more in a row of lists. -/
theorem app_ls {w : World} {ops : Array Oper} {rest : List Oper} {o : Oper} {a : Act} {Q : Exit → Act → World → Prop} (hg : o.guard = none) (p y : Operand) (ho : o.op = .call { callee := .builtin .append, args := #[p, y], argTypes := #[34, 34] })
    (B : Nat) (v : Value) (L : List (List Int)) (io : Option Addr) (k ic : Nat) (x : List Int) (H : Nat) (hH : w.heap.size = H) (hs : a.eval p = v) (hx : a.eval y = .slice (some ⟨H, 0, none⟩) 1 1) (h : Hid (Mrow w B v L)) (hi2 : Hid (Irow w B (.slice io k ic) x)) (hl : L.length ≤ 1000000) (hB : B ≤ w.heap.size)
    (hK : ∀ ao cap w', Mrow w' B (.slice ao (L.length + 1) cap) (L ++ [x]) → w.grownBy w' v.ownBlock → wpList Try.prog ops Q rest (a.put o.dst (.slice ao (L.length + 1) cap)) w') : wpList Try.prog ops Q (o :: rest) a (w.alloc (.cells #[.slice io k ic] 25)) := by
  subst hH
  obtain ⟨i0, hi, hz0, hz1, hz2⟩ := info_of_ci
  obtain ⟨vs, h1, h2, h3, h4⟩ := h.out
  refine wpList_append_own _ hg p y 34 ho B 25 i0 _ 1 24 Try.underlying34 hi hz0 hz1 hz2 rfl (by decide) v L.length _ hs (World.ownsRow.alloc h3 _) ⟨w.heap.size, 0, none⟩ 1 1 [.slice io k ic] hx rfl ?_ (by simp [Value.oneCell']) (by unfold maxLen; omega) (by omega) (by simp; omega) ?_
  · intro j u hj
    rw [add_at, Nat.zero_add, blk_cell (blk_new w #[.slice io k ic] 25), ← hj]
    simp
  · intro v' w' hown hgrow _
    obtain ⟨ao, cap, rfl, _, _⟩ := own_form hown
    have hgr : w.grownBy w' v.ownBlock := ⟨hgrow.os, hgrow.tape, hgrow.output, Nat.le_trans (by simp) hgrow.size, fun j hj hne => by
      rw [hgrow.block j (by simp; omega) hne, heap_alloc_old w _ (h := hj)]⟩
    refine hK ao cap w' ?_ hgr
    · refine ⟨vs ++ [.slice io k ic], by simp [h1], fun u hu => ?_, by rw [List.length_append]; exact hown, fun i u z hu hz => ?_⟩
      · rcases List.mem_append.1 hu with q | q
        · exact h2 u q
        · rw [List.mem_singleton] at q; exact ⟨_, _, _, q⟩
      · have hir : Irow w B u z := by
          rcases Nat.lt_or_ge i vs.length with q | q
          · rw [List.getElem?_append_left q] at hu
            rw [List.getElem?_append_left (by omega)] at hz
            exact h4 i u z hu hz
          · rw [List.getElem?_append_right q] at hu
            rw [List.getElem?_append_right (by omega), ← h1] at hz
            cases hj : i - vs.length with
            | zero => rw [hj] at hu hz; simp at hu hz; subst hu; subst hz; exact hi2.out
            | succ j => rw [hj] at hu; simp at hu
        exact World.ownsRow.kept hir hgr (own_far hir h3 (by decide))
end Go.Proofs.Ytncedgnpdojkkaa.tpo
