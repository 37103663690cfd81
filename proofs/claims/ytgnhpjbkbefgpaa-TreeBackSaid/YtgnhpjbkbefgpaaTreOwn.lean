/-
  Trees in blocks of their own: each row of statements, refs or attributes lies in a block that no other row of the tree lies in. No function of the program is named here; no condition.
-/
import Derived.Test.YtgnhpjbkbefgpaaTreRv
namespace Go.Proofs.Ytgnhpjbkbefgpaa.tre
open Go.RowKit lex

/-- Outside one interval, within another one. -/
def outI (lo hi lb hb : Nat) (g : Nat) : Prop := lo ≤ g ∧ g < hi ∧ ¬ (lb ≤ g ∧ g < hb)
mutual
/-- What hangs on a statement lies in the blocks from lo to hi. -/
def ownE (W : World) : St → Nat → Nat → Value → Value → Value → Prop
  | .mk _ n r a b, lo, hi, rv, av, bv => n.length ≤ maxLen ∧ ∃ lb hb, lo ≤ lb ∧ lb ≤ hb ∧ hb ≤ hi ∧ rowP W 39 rv r (outI lo hi lb hb) ∧ rowP W 70 av a (outI lo hi lb hb) ∧
    ∃ ao cap, bv = .slice ao b.length cap ∧ b.length ≤ cap ∧ cap ≤ maxLen ∧ (0 < b.length → ∃ g arr, ao = some ⟨g, 0, none⟩ ∧ lb ≤ g ∧ blk W g 43 arr ∧ chain W b (g + 1) hb arr 0)
/-- The statements of a row, the i-th and those that follow; what hangs on them lies in intervals one behind the other. -/
def chain (W : World) : List St → Nat → Nat → Array Value → Nat → Prop
  | [], lo, hi, _, _ => lo ≤ hi
  | s :: t, lo, hi, arr, i => ∃ m rv av bv, arr[i * 5]? = some (.int .i64 s.kind) ∧ arr[i * 5 + 1]? = some (.string (bb s.name)) ∧ arr[i * 5 + 2]? = some rv ∧ arr[i * 5 + 3]? = some av ∧ arr[i * 5 + 4]? = some bv ∧ ownE W s lo m rv av bv ∧ chain W t m hi arr (i + 1)
end
/-- A list of statements in blocks of its own, from lo to hi. -/
def own (W : World) (l : List St) (lo hi : Nat) (v : Value) : Prop := lo ≤ hi ∧ ∃ (ao : Option Addr) (cap : Nat), v = .slice ao l.length cap ∧ l.length ≤ cap ∧ cap ≤ maxLen ∧ (0 < l.length → ∃ g arr, ao = some ⟨g, 0, none⟩ ∧ lo ≤ g ∧ blk W g 43 arr ∧ chain W l (g + 1) hi arr 0)
theorem ownE_eq (W : World) (s : St) (lo hi : Nat) (rv av bv : Value) : ownE W s lo hi rv av bv ↔ s.name.length ≤ maxLen ∧ ∃ lb hb, lo ≤ lb ∧ hb ≤ hi ∧ rowP W 39 rv s.refs (outI lo hi lb hb) ∧ rowP W 70 av s.attrs (outI lo hi lb hb) ∧ own W s.body lb hb bv := by
  obtain ⟨k, n, r, a, b⟩ := s
  show (_ ∧ _) ↔ _
  constructor
  · rintro ⟨h1, lb, hb, h2, h3, h4, h5, h6, h7⟩; exact ⟨h1, lb, hb, h2, h4, h5, h6, h3, h7⟩
  · rintro ⟨h1, lb, hb, h2, h4, h5, h6, h3, h7⟩; exact ⟨h1, lb, hb, h2, h3, h4, h5, h6, h7⟩
theorem ownE_le {W : World} {s : St} {lo hi : Nat} {rv av bv : Value} (h : ownE W s lo hi rv av bv) : lo ≤ hi := by
  obtain ⟨_, lb, hb, h2, h4, _, _, h3, _⟩ := (ownE_eq ..).1 h; omega
theorem chain_le {W : World} {arr : Array Value} : ∀ {l : List St} {lo hi i : Nat}, chain W l lo hi arr i → lo ≤ hi := by
  intro l
  induction l with
  | nil => intro lo hi i h; exact h
  | cons s t ih =>
    intro lo hi i h
    obtain ⟨m, _, _, _, _, _, _, _, _, h1, h2⟩ := h
    have := ownE_le h1
    have := ih h2
    omega
theorem own_far1 {W W' : World} {a b : Nat} (h : ∀ q, a ≤ q → q < b → W'.heap[q]? = W.heap[q]?) : (∀ s lo hi rv av bv, a ≤ lo → hi ≤ b → ownE W s lo hi rv av bv → ownE W' s lo hi rv av bv) ∧ ∀ l lo hi arr i, a ≤ lo → hi ≤ b → chain W l lo hi arr i → chain W' l lo hi arr i := by
  refine st_ind (fun k n r at' bd hB lo hi rv av bv ha hb q => ?_) (fun _ _ _ _ _ _ q => q) (fun s t hs ht lo hi arr i ha hb q => ?_)
  · obtain ⟨h1, lb, hb', h2, h3, h4, h5, h6, ao, cap, h7, h8, h9, h10⟩ := q
    refine ⟨h1, lb, hb', h2, h3, h4, h5.keep (fun g hg => h g (by have := hg.1; omega) (by have := hg.2.1; omega)), h6.keep (fun g hg => h g (by have := hg.1; omega) (by have := hg.2.1; omega)), ao, cap, h7, h8, h9, fun hn => ?_⟩
    obtain ⟨g, arr, e, h11, h12, h13⟩ := h10 hn
    have := chain_le h13
    exact ⟨g, arr, e, h11, by unfold blk at h12 ⊢; rw [h g (by omega) (by omega)]; exact h12, hB _ _ _ _ (by omega) (by omega) h13⟩
  · obtain ⟨m, rv, av, bv, e0, e1, e2, e3, e4, h1, h2⟩ := q
    have := ownE_le h1
    have := chain_le h2
    exact ⟨m, rv, av, bv, e0, e1, e2, e3, e4, hs _ _ _ _ _ ha (by omega) h1, ht _ _ _ _ (by omega) hb h2⟩
theorem own_move {W W' : World} {l : List St} {lo hi : Nat} {v : Value} (q : own W l lo hi v) (h : ∀ q, lo ≤ q → q < hi → W'.heap[q]? = W.heap[q]?) : own W' l lo hi v := by
  obtain ⟨h0, ao, cap, rfl, h8, h9, h10⟩ := q
  refine ⟨h0, ao, cap, rfl, h8, h9, fun hn => ?_⟩
  obtain ⟨g, arr, e, h11, h12, h13⟩ := h10 hn
  have := chain_le h13
  exact ⟨g, arr, e, h11, by unfold blk at h12 ⊢; rw [h g (by omega) (by omega)]; exact h12, (own_far1 h).2 _ _ _ _ _ (by omega) (Nat.le_refl _) h13⟩
theorem chain_sts {W : World} : (∀ s lo hi rv av bv A, ownE W s lo hi rv av bv → W.cell? A = some (.int .i64 s.kind) → W.cell? ⟨A.block, A.off + 1, none⟩ = some (.string (bb s.name)) → W.cell? ⟨A.block, A.off + 2, none⟩ = some rv → W.cell? ⟨A.block, A.off + 3, none⟩ = some av → W.cell? ⟨A.block, A.off + 4, none⟩ = some bv → stAt W s A) ∧
    ∀ l lo hi arr i g, blk W g 43 arr → chain W l lo hi arr i → stsAt W l ⟨g, 0, none⟩ i := by
  refine st_ind (fun k n r at' bd hB lo hi rv av bv A q c0 c1 c2 c3 c4 => ?_) (fun _ _ _ _ _ _ _ => trivial) (fun s t hs ht lo hi arr i g hk q => ?_)
  · obtain ⟨h1, lb, hb', h2, h3, h4, h5, h6, ao, cap, rfl, h8, h9, h10⟩ := q
    refine ⟨c0, c1, h1, ⟨rv, c2, h5.prs⟩, ⟨av, c3, h6.prs⟩, ao, cap, c4, h8, h9, fun hn => ?_⟩
    obtain ⟨g, arr, e, _, h12, h13⟩ := h10 hn
    exact ⟨_, e, hB _ _ _ _ _ h12 h13⟩
  · obtain ⟨m, rv, av, bv, e0, e1, e2, e3, e4, h1, h2⟩ := q
    refine ⟨hs _ _ _ _ _ _ h1 ?_ ?_ ?_ ?_ ?_, ht _ _ _ _ _ hk h2⟩
    all_goals
      rw [add_at, Nat.zero_add]
      first
        | (rw [blk_cell hk]; assumption)
        | (show W.cell? ⟨g, _, none⟩ = _; rw [blk_cell hk]; assumption)
theorem own_sts {W : World} {l : List St} {lo hi : Nat} {v : Value} (q : own W l lo hi v) : Sts W v l := by
  obtain ⟨_, ao, cap, rfl, h8, h9, h10⟩ := q
  refine ⟨ao, cap, rfl, h8, h9, fun hn => ?_⟩
  obtain ⟨g, arr, e, _, h12, h13⟩ := h10 hn
  exact ⟨_, e, chain_sts.2 _ _ _ _ _ _ h12 h13⟩
theorem chain_app {W : World} {arr : Array Value} : ∀ {a b : List St} {lo hi i : Nat}, chain W (a ++ b) lo hi arr i ↔ ∃ m, chain W a lo m arr i ∧ chain W b m hi arr (i + a.length) := by
  intro a
  induction a with
  | nil =>
    intro b lo hi i
    constructor
    · intro h; exact ⟨lo, Nat.le_refl _, h⟩
    · rintro ⟨m, h1, h2⟩
      have h1 : lo ≤ m := h1
      cases b with
      | nil => have h2 : m ≤ hi := h2; exact Nat.le_trans h1 h2
      | cons s t =>
        obtain ⟨m2, rv, av, bv, e0, e1, e2, e3, e4, h3, h4⟩ := h2
        refine ⟨m2, rv, av, bv, e0, e1, e2, e3, e4, ?_, h4⟩
        obtain ⟨q1, lb, hb, q2, q3, q4, q5, q6⟩ := (ownE_eq ..).1 h3
        exact (ownE_eq ..).2 ⟨q1, lb, hb, by omega, q3, q4.mono (fun g hg => ⟨by have := hg.1; omega, hg.2⟩), q5.mono (fun g hg => ⟨by have := hg.1; omega, hg.2⟩), q6⟩
  | cons s t ih =>
    intro b lo hi i
    rw [List.cons_append, List.length_cons]
    constructor
    · rintro ⟨m, rv, av, bv, e0, e1, e2, e3, e4, h3, h4⟩
      obtain ⟨m2, h5, h6⟩ := ih.1 h4
      exact ⟨m2, ⟨m, rv, av, bv, e0, e1, e2, e3, e4, h3, h5⟩, by rw [show i + (t.length + 1) = i + 1 + t.length by omega]; exact h6⟩
    · rintro ⟨m2, ⟨m, rv, av, bv, e0, e1, e2, e3, e4, h3, h5⟩, h6⟩
      exact ⟨m, rv, av, bv, e0, e1, e2, e3, e4, h3, ih.2 ⟨m2, h5, by rw [show i + 1 + t.length = i + (t.length + 1) by omega]; exact h6⟩⟩
/-- A chain reads its own places of the row alone. -/
theorem chain_arr {W : World} {arr arr' : Array Value} : ∀ {l : List St} {lo hi i : Nat}, chain W l lo hi arr i → (∀ j, i * 5 ≤ j → j < (i + l.length) * 5 → arr'[j]? = arr[j]?) → chain W l lo hi arr' i := by
  intro l
  induction l with
  | nil => intro lo hi i h _; exact h
  | cons s t ih =>
    intro lo hi i h he
    rw [List.length_cons] at he
    obtain ⟨m, rv, av, bv, e0, e1, e2, e3, e4, h3, h4⟩ := h
    refine ⟨m, rv, av, bv, ?_, ?_, ?_, ?_, ?_, h3, ih h4 (fun j h1 h2 => he j (by omega) (by omega))⟩
    all_goals (rw [he _ (by omega) (by omega)]; assumption)
end Go.Proofs.Ytgnhpjbkbefgpaa.tre
