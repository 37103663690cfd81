/-
  Rows of lists that grow one by one: each list lies in a block of its own. No condition.
-/
import Derived.Test.YtncedgnpdojkkaaTpoRef4
import Derived.Test.YtncedgnpdojkkaaTpoCp
import Derived.Deep.AppendLies
namespace Go.Proofs.Ytncedgnpdojkkaa.tpo
open Go.RowKit dig

/-- Two rows do not lie in one block. -/
def Sep (a b : Value) : Prop := a.ownBlock = none ∨ a.ownBlock ≠ b.ownBlock
theorem sep_new {w : World} {B e s n : Nat} {a b : Value} {xs : List Value} (h : w.ownsRow B e s a n xs) {q : Nat} (hb : b.ownBlock = some q) (hq : q < B) : Sep a b := by
  unfold Sep
  cases k : a.ownBlock with
  | none => exact .inl rfl
  | some y => exact .inr (by rw [hb]; intro hc; cases hc; exact absurd (h.lt q k).1 (by omega))
theorem sep_app {w : World} {B e s n m cap g : Nat} {a v : Value} {xs : List Value} (h : w.ownsRow B e s a n xs) (hs : Sep a v) (hg : v.ownBlock = some g ∨ w.heap.size ≤ g) : Sep a (.slice (some ⟨g, 0, none⟩) m cap) := by
  unfold Sep at *
  rcases hs with hs | hs
  · exact .inl hs
  · right
    have e : (Value.slice (some ⟨g, 0, none⟩) m cap).ownBlock = some g := rfl
    rw [e]
    rcases hg with hg | hg
    · rw [← hg]; exact hs
    · intro hc
      exact absurd (h.lt g hc).2 (by omega)
theorem sep_app' {w : World} {B e s n m cap g : Nat} {a v : Value} {xs : List Value} (h : w.ownsRow B e s a n xs) (hs : Sep v a) (hg : v.ownBlock = some g ∨ w.heap.size ≤ g) : Sep (.slice (some ⟨g, 0, none⟩) m cap) a := by
  unfold Sep at *
  right
  have e : (Value.slice (some ⟨g, 0, none⟩) m cap).ownBlock = some g := rfl
  rw [e]
  rcases hg with hg | hg
  · rcases hs with hs | hs
    · rw [hs] at hg; cases hg
    · rw [← hg]; exact hs
  · intro hc
    exact absurd (h.lt g hc.symm).2 (by omega)
/-- A store into a block of another kind changes nothing of a row. -/
theorem own_setfar {w : World} {B e s n g o : Nat} {v u : Value} {xs : List Value} {t : TypeId} {arr : Array Value} (h : w.ownsRow B e s v n xs) (hg : blk w g t arr) (ht : t ≠ e) : (w.setCell ⟨g, o, none⟩ u).ownsRow B e s v n xs := by
  refine ⟨h.1, ?_⟩
  rcases h.2 with hn | ⟨q, cap, cur, rfl, hb, hgg, rest⟩
  · exact .inl hn
  · refine .inr ⟨q, cap, cur, rfl, hb, ?_, rest⟩
    have hne : q ≠ g := fun e0 => by
      subst e0
      unfold blk at hg
      rw [hg] at hgg
      injection hgg with h5
      injection h5 with _ h6 _
      exact ht h6
    rw [Below.heap_setCell w ⟨g, o, none⟩ u q hne]; exact hgg
/-- One number more in a list, at a step of a region. -/
theorem app_ilS {ops : Array Oper} {o : Oper} {a : Act} {K : Act → World → Prop} {Q : Exit → Act → World → Prop} {E : Prop} {w : World} (hg : o.guard = none) (p y : Operand) (ho : o.op = .call { callee := .builtin .append, args := #[p, y], argTypes := #[25, 25] })
    (B : Nat) (v : Value) (l : List Int) (x : Int) (H : Nat) (hH : w.heap.size = H) (hs : a.eval p = v) (hx : a.eval y = .slice (some ⟨H, 0, none⟩) 1 1) (h : Hid (Irow w B v l)) (hl : l.length ≤ 1000000) (hB : B ≤ w.heap.size)
    (hK : ∀ g cap w', Irow w' B (.slice (some ⟨g, 0, none⟩) (l.length + 1) cap) (l ++ [x]) → w.grownBy w' v.ownBlock → (v.ownBlock = some g ∨ w.heap.size ≤ g) → K (a.put o.dst (.slice (some ⟨g, 0, none⟩) (l.length + 1) cap)) w') :
    if Region.wanted o (yielded ops a.tmps) = true then Oper.wp Try.prog o a (w.alloc (.cells #[.int .i64 x] 3)) K Q else E := by
  subst hH
  obtain ⟨i0, hi, hz0, hz1, hz2⟩ := info_of_cin
  refine step_append_lies _ hg p y 25 ho B 3 i0 _ 1 8 Try.underlying25 hi hz0 hz1 hz2 rfl (by decide) v l.length _ hs (World.ownsRow.alloc h.out _) ⟨w.heap.size, 0, none⟩ 1 1 [.int .i64 x] hx rfl ?_ (by simp [Value.oneCell']) (by decide) (by unfold maxLen; omega) (by omega) (by simp; omega) (w.heap.size + 1) (by simp) ?_
  · intro j u hj
    rw [add_at, Nat.zero_add, blk_cell (blk_new w #[.int .i64 x] 3), ← hj]
    simp
  · intro g cap w' hown hgrow hli _
    refine hK g cap w' ?_ ?_ (hli.imp id (by omega))
    · unfold Irow; rw [List.length_append, List.flatMap_append]; exact hown
    · refine ⟨hgrow.os, hgrow.tape, hgrow.output, Nat.le_trans (by simp) hgrow.size, fun k hk hne => ?_⟩
      rw [hgrow.block k (by simp; omega) hne, heap_alloc_old w _ (h := hk)]
/-- A row of m lists at the head of block g, each in a block of its own. -/
structure Hrow (w : World) (B g m : Nat) (L : List (List Int)) (vs : List Value) : Prop where
  row : Frow (fun v : Value => v) 25 w B g m vs
  len : L.length = m
  each : ∀ (i : Nat) (u : Value) (x : List Int), vs[i]? = some u → L[i]? = some x → Irow w B u x
  sep : ∀ (i j : Nat) (u v : Value), i ≠ j → vs[i]? = some u → vs[j]? = some v → Sep u v
theorem Hrow.keep {w w' : World} {B g m : Nat} {L : List (List Int)} {vs : List Value} (h : Hrow w B g m L vs) (hb : Below w.heap.size w w') : Hrow w' B g m L vs :=
  ⟨h.row.keep hb, h.len, fun i u x h1 h2 => own_keep (h.each i u x h1 h2) hb, h.sep⟩
theorem Hrow.at {w : World} {B g m : Nat} {L : List (List Int)} {vs : List Value} (h : Hrow w B g m L vs) {u : Nat} (hu : u < m) : ∃ v x, vs[u]? = some v ∧ L[u]? = some x ∧ w.cell? ⟨g, u, none⟩ = some v ∧ Irow w B v x := by
  have h1 : u < vs.length := by rw [h.row.1]; exact hu
  have h2 : u < L.length := by rw [h.len]; exact hu
  exact ⟨_, _, List.getElem?_eq_getElem h1, List.getElem?_eq_getElem h2, h.row.at h1, h.each u _ _ (List.getElem?_eq_getElem h1) (List.getElem?_eq_getElem h2)⟩
theorem Hrow.blk {w : World} {B g m : Nat} {L : List (List Int)} {vs : List Value} (h : Hrow w B g m L vs) : ∃ arr, dig.blk w g 25 arr := by
  rcases h.row.2.2 with ⟨e, _⟩ | ⟨q, cap, cur, e, _, hg, _⟩
  · cases e
  · cases e; exact ⟨cur, hg⟩
theorem Hrow.app {w w' : World} {B g m u q cap : Nat} {L : List (List Int)} {vs : List Value} {v : Value} {xs xs' : List Int} (h : Hrow w B g m L vs) (hu : vs[u]? = some v) (hx : L[u]? = some xs) (hg : w.grownBy w' v.ownBlock) (hr : Irow w' B (.slice (some ⟨q, 0, none⟩) xs'.length cap) xs') (hq : v.ownBlock = some q ∨ w.heap.size ≤ q) :
    Hrow (w'.setCell ⟨g, u, none⟩ (.slice (some ⟨q, 0, none⟩) xs'.length cap)) B g m (L.set u xs') (vs.set u (.slice (some ⟨q, 0, none⟩) xs'.length cap)) := by
  have hv := h.each u v xs hu hx
  have hr' : Frow (fun v : Value => v) 25 w' B g m vs := h.row.grown hv hg (by decide)
  have hbl : ∃ arr, dig.blk w' g 25 arr := by
    rcases hr'.2.2 with ⟨e, _⟩ | ⟨q, cap, cur, e, _, hg, _⟩
    · cases e
    · cases e; exact ⟨cur, hg⟩
  obtain ⟨arr, hbl⟩ := hbl
  have hul : u < vs.length := (List.getElem?_eq_some_iff.1 hu).1
  have huL : u < L.length := (List.getElem?_eq_some_iff.1 hx).1
  refine ⟨hr'.put u _, by rw [List.length_set]; exact h.len, fun i z x hz hx2 => ?_, fun i j a b hij ha hb => ?_⟩
  · rw [List.getElem?_set] at hz hx2
    by_cases e : u = i
    · subst e
      rw [if_pos rfl, if_pos hul] at hz
      rw [if_pos rfl, if_pos huL] at hx2
      cases hz; cases hx2
      exact own_setfar hr hbl (by decide)
    · rw [if_neg e] at hz hx2
      exact own_setfar (World.ownsRow.kept (h.each i z x hz hx2) hg (h.sep i u z v (Ne.symm e) hz hu)) hbl (by decide)
  · have hi : ∀ (i : Nat) (a : Value), u ≠ i → vs[i]? = some a → ∃ x, Irow w B a x := fun i a _ ha => by
      have hl : i < L.length := by rw [h.len, ← h.row.1]; exact (List.getElem?_eq_some_iff.1 ha).1
      exact ⟨_, h.each i a _ ha (List.getElem?_eq_getElem hl)⟩
    rw [List.getElem?_set] at ha hb
    by_cases e : u = i
    · subst e
      rw [if_pos rfl, if_pos hul] at ha
      rw [if_neg hij] at hb
      cases ha
      obtain ⟨y, hy⟩ := hi j b hij hb
      exact sep_app' hy (h.sep u j v b hij hu hb) hq
    · rw [if_neg e] at ha
      obtain ⟨y, hy⟩ := hi i a e ha
      by_cases e2 : u = j
      · subst e2
        rw [if_pos rfl, if_pos hul] at hb
        cases hb
        exact sep_app hy (h.sep i u a v hij ha hu) hq
      · rw [if_neg e2] at hb
        exact h.sep i j a b hij ha hb
theorem Hrow.mrow {w : World} {B g m : Nat} {L : List (List Int)} {vs : List Value} (h : Hrow w B g m L vs) : Mrow w B (.slice (some ⟨g, 0, none⟩) m m) L := by
  refine ⟨vs, by rw [h.row.1, h.len], fun u hu => ?_, ?_, h.each⟩
  · obtain ⟨i, hi, rfl⟩ := List.mem_iff_getElem.1 hu
    have hl : i < L.length := by rw [h.len, ← h.row.1]; exact hi
    obtain ⟨ao, cap, e, _, _⟩ := own_form (h.each i _ _ (List.getElem?_eq_getElem hi) (List.getElem?_eq_getElem hl))
    exact ⟨_, _, _, e⟩
  · have := h.row.2
    rw [List.map_id'] at this
    rw [h.len]; exact this
theorem Hrow.start {w : World} {B g m : Nat} (h : w.ownsRow B 25 1 (.slice (some ⟨g, 0, none⟩) m m) m (madeCells (Value.slice none 0 0).cells (m * 1)).toList) : Hrow w B g m (List.replicate m []) (List.replicate m (.slice none 0 0)) := by
  refine ⟨Frow.made rfl h, by simp, fun i u x hu hx => ?_, fun i j u v _ hu _ => ?_⟩
  · rw [List.getElem?_replicate] at hu hx
    split at hu
    · rename_i hi
      rw [if_pos hi] at hx
      cases hu; cases hx
      exact own_nil ..
    · cases hu
  · rw [List.getElem?_replicate] at hu
    split at hu
    · cases hu; exact .inl rfl
    · cases hu
/-- What lies in two worlds that differ at most in one block ahead of it, and behind the first one's end. -/
theorem Lst.rel {w w' : World} {B g : Nat} {v : Value} {L : List (List Int)} (h : Lst w v L) (hf : FreshL w B v) (hg : g < B) (hb : ∀ b, b < w.heap.size → b ≠ g → w'.heap[b]? = w.heap[b]?) : Lst w' v L := by
  obtain ⟨ao, cap, rfl, h1, h2, h3⟩ := h
  have hc : ∀ (A : Addr) (u : Value), w.cell? A = some u → B ≤ A.block → w'.cell? A = some u := fun A u hu hA => by
    have hlt := World.block_lt_of_cell? w A hu
    rw [World.cell?_of_block (hb A.block hlt (by omega))]; exact hu
  refine ⟨ao, cap, rfl, h1, h2, fun hn => ?_⟩
  obtain ⟨A, rfl, h4⟩ := h3 hn
  obtain ⟨f1, f2⟩ := hf A _ _ rfl hn
  refine ⟨A, rfl, fun i hi => ?_⟩
  obtain ⟨v1, q0, x1, x2, rfl, q1, q2, q3⟩ := h4 i hi
  refine ⟨_, hc _ _ q0 (by rw [add_block]; exact f1), x1, x2, rfl, q1, q2, fun hn2 => ?_⟩
  obtain ⟨A2, rfl, q4⟩ := q3 hn2
  have := f2 i hi A2 _ _ (by rw [Nat.mul_one] at q0; exact q0) hn2
  exact ⟨A2, rfl, fun j hj => hc _ _ (q4 j hj) (by rw [add_block]; exact this)⟩
end Go.Proofs.Ytncedgnpdojkkaa.tpo
