/-
  A list of statements in memory as walk sees it, and what runs of visitors come to. Condition: the list lies in memory.
-/
import Derived.Test.YtgnhpjbkbefgpaaTreWalk
namespace Go.Proofs.Ytgnhpjbkbefgpaa.tre
open Go.RowKit lex

mutual
/-- A statement in memory, its body too, where the slices say. -/
def memX (w : World) : Sa → Prop
  | .mk s A bv ks => stAt w s A ∧ w.cell? ⟨A.block, A.off + 4, none⟩ = some bv ∧ memXL w ks
def memXL (w : World) : List Sa → Prop
  | [] => True
  | x :: t => memX w x ∧ memXL w t
end
theorem memX_eq (w : World) (x : Sa) : memX w x ↔ stAt w x.s x.A ∧ w.cell? ⟨x.A.block, x.A.off + 4, none⟩ = some x.bv ∧ memXL w x.kids := by cases x; rfl
theorem memXL_iff (w : World) (l : List Sa) : memXL w l ↔ ∀ x ∈ l, memX w x := by
  induction l with
  | nil => exact ⟨fun _ x hx => (by cases hx), fun _ => trivial⟩
  | cons x t ih =>
    constructor
    · rintro ⟨h1, h2⟩ y hy
      rcases List.mem_cons.1 hy with rfl | hy
      · exact h1
      · exact ih.1 h2 y hy
    · intro h; exact ⟨h x (by simp), ih.2 fun y hy => h y (by simp [hy])⟩
theorem memX_kids {w : World} {x : Sa} (h : memX w x) : ∀ y ∈ x.kids, memX w y := (memXL_iff w _).1 ((memX_eq w x).1 h).2.2
theorem memX_skel {w W : World} (hb : Below w.heap.size w W) {x : Sa} (h : memX w x) : skel W x := by
  obtain ⟨h1, h2, _⟩ := (memX_eq w x).1 h
  exact ⟨cell_later' hb ((stAt_eq _ _ _).1 h1).1, cell_later' hb h2⟩
theorem memX_at {w W : World} (hb : Below w.heap.size w W) {x : Sa} (h : memX w x) : stAt W x.s x.A := (st_keep hb).1 _ _ ((memX_eq w x).1 h).1
theorem sts_sa (l : List St) : ∀ (w : World) (v : Value), Sts w v l → ∃ L : List Sa, L.map Sa.s = l ∧ SlX v L ∧ memXL w L := by
  refine lst_ind (P := fun l => ∀ (w : World) (v : Value), Sts w v l → ∃ L : List Sa, L.map Sa.s = l ∧ SlX v L ∧ memXL w L) (fun l ih w v h => ?_) l
  by_cases h0 : l.length = 0
  · obtain rfl : l = [] := List.length_eq_zero_iff.1 h0
    obtain ⟨ao, cap, rfl, _⟩ := h
    exact ⟨[], rfl, ⟨ao, cap, rfl, fun h => absurd h (by simp)⟩, trivial⟩
  · obtain ⟨ao, cap, rfl, _, _, hA⟩ := h
    obtain ⟨B, rfl, hB⟩ := hA (by omega)
    have key : ∀ i, i < l.length → ∃ x : Sa, ∀ hi : i < l.length, x.s = l[i] ∧ x.A = B.add (i * 5) ∧ okX x ∧ memX w x := by
      intro i hi
      have h1 := stsAt_get hB i hi
      rw [Nat.zero_add] at h1
      obtain ⟨_, _, _, _, _, bv, h4, hs⟩ := (stAt_eq _ _ _).1 h1
      obtain ⟨ks, e1, e2, e3⟩ := ih l[i] (List.getElem_mem hi) w bv hs
      exact ⟨.mk l[i] (B.add (i * 5)) bv ks, fun _ => ⟨rfl, rfl, (okX_eq _).2 ⟨e1, e2⟩, (memX_eq _ _).2 ⟨h1, h4, e3⟩⟩⟩
    haveI : Inhabited Sa := ⟨.mk (.mk 0 [] [] [] []) ⟨0, 0, none⟩ (.bool false) []⟩
    obtain ⟨f, hf⟩ := Deep.choose_lt key
    have hlen : ((List.range l.length).map f).length = l.length := by simp
    refine ⟨(List.range l.length).map f, ?_, ⟨some B, cap, by rw [hlen], fun _ => ⟨B, rfl, okXL_of fun j hj => ?_⟩⟩, (memXL_iff _ _).2 fun x hx => ?_⟩
    · refine List.ext_getElem (by simp) fun i h1 h2 => ?_
      have := (hf i h2 h2).1
      simpa using this
    · rw [hlen] at hj
      have := hf j hj hj
      rw [Nat.zero_add]
      simpa using ⟨this.2.1, this.2.2.1⟩
    · obtain ⟨i, hi, rfl⟩ := List.mem_map.1 hx
      rw [List.mem_range] at hi
      exact (hf i hi hi).2.2.2
theorem runL_map {X Y σ : Type} (F : Y → σ → σ × Bool) (g : X → Y) (l : List X) (s : σ) : runL (fun x => F (g x)) l s = runL F (l.map g) s := by
  induction l generalizing s with
  | nil => rfl
  | cons x t ih =>
    rw [List.map_cons]
    show (if (F (g x) s).2 = true then runL (fun x => F (g x)) t (F (g x) s).1 else F (g x) s) = (if (F (g x) s).2 = true then runL F (t.map g) (F (g x) s).1 else F (g x) s)
    by_cases h : (F (g x) s).2 = true
    · rw [if_pos h, if_pos h, ih]
    · rw [if_neg h, if_neg h]
theorem runL_cons {X σ : Type} (f : X → σ → σ × Bool) (x : X) (t : List X) (s : σ) : runL f (x :: t) s = if (f x s).2 = true then runL f t (f x s).1 else f x s := rfl
theorem runL_fold {X σ : Type} (f : X → σ → σ) (l : List X) (s : σ) : runL (fun x s => (f x s, true)) l s = (l.foldl (fun s x => f x s) s, true) := by
  induction l generalizing s with
  | nil => rfl
  | cons x t ih => rw [runL_cons, if_pos rfl, ih]; rfl
theorem wrap_small {n : Int} (h0 : 0 ≤ n) (h1 : n ≤ 1000) : wrap64 (n + 1) = n + 1 := by unfold wrap64; omega
/-- Counting. -/
theorem run_count {X : Type} (l : List X) (n : Int) (h0 : 0 ≤ n) (h1 : n + l.length ≤ 1000) : runL (fun _ (n : Int) => (wrap64 (n + 1), true)) l n = (n + l.length, true) := by
  induction l generalizing n with
  | nil => simp [runL]
  | cons x t ih =>
    rw [List.length_cons] at h1 ⊢
    rw [runL_cons, if_pos rfl, wrap_small h0 (by omega), ih (n + 1) (by omega) (by omega)]
    congr 1; omega
/-- Counting up to a limit. -/
theorem run_limit {X : Type} (l : List X) (n : Int) (h0 : 0 ≤ n) (h1 : n ≤ 512) : (runL (fun _ (n : Int) => (wrap64 (n + 1), decide (wrap64 (n + 1) ≤ 512))) l n).2 = decide (n + l.length ≤ 512) := by
  induction l generalizing n with
  | nil => rw [show (runL (fun _ (n : Int) => (wrap64 (n + 1), decide (wrap64 (n + 1) ≤ 512))) ([] : List X) n).2 = true from rfl, List.length_nil]; symm; rw [decide_eq_true_eq]; omega
  | cons x t ih =>
    rw [runL_cons, wrap_small h0 (by omega), List.length_cons]
    by_cases h : n + 1 ≤ 512
    · rw [if_pos (by rw [decide_eq_true_eq]; exact h), ih (n + 1) (by omega) h, Bool.eq_iff_iff, decide_eq_true_eq, decide_eq_true_eq]; omega
    · rw [if_neg (by rw [decide_eq_true_eq]; exact h)]
      show decide (n + 1 ≤ 512) = _
      rw [Bool.eq_iff_iff, decide_eq_true_eq, decide_eq_true_eq]; omega
/-- The first error. -/
theorem run_first (l : List (St × Int)) : (runL (fun x (_ : Int) => (staE x.1 x.2, decide (staE x.1 x.2 = 0))) l 0).1 = firstE l := by
  induction l with
  | nil => rfl
  | cons x t ih =>
    rw [runL_cons]
    unfold firstE
    by_cases h : staE x.1 x.2 = 0
    · rw [if_pos (by rw [decide_eq_true_eq]; exact h), if_neg (by simpa using h), ← ih]
      show (runL _ t (staE x.1 x.2)).1 = _
      rw [h]
    · rw [if_neg (by rw [decide_eq_true_eq]; exact h), if_pos (by simpa using h)]
end Go.Proofs.Ytgnhpjbkbefgpaa.tre
