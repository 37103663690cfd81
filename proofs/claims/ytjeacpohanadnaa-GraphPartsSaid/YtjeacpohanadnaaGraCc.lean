/-
  Plain facts on what the landed commonCluster goes to: the cluster whose chain is what two chains share. No function of the program is named here; no condition.
-/
import Derived.Test.YtjeacpohanadnaaGraPlain
namespace Go.Proofs.Ytjeacpohanadnaa.gra
open lex

/-- R's chain is what the chains of c and d share. -/
def IsCC (cs : List Cl) (c d R : Int) : Prop := -1 ≤ R ∧ ∀ e, e ∈ ch cs R ↔ e ∈ ch cs c ∧ e ∈ ch cs d
theorem isCC_left {cs : List Cl} (h : Wf cs) {c d R : Int} (hd : -1 ≤ d) (hc : d < c) : IsCC cs c d R ↔ IsCC cs (up cs c) d R := by
  have hn : c ∉ ch cs d := fun hm => by have := mem_le h hm; omega
  unfold IsCC
  rw [ch_cons h c (by omega)]
  refine and_congr_right fun _ => forall_congr' fun e => ?_
  rw [List.mem_cons]
  constructor
  · intro q
    rw [q]
    constructor
    · rintro ⟨rfl | h1, h2⟩
      · exact absurd h2 hn
      · exact ⟨h1, h2⟩
    · rintro ⟨h1, h2⟩; exact ⟨Or.inr h1, h2⟩
  · intro q
    rw [q]
    constructor
    · rintro ⟨h1, h2⟩; exact ⟨Or.inr h1, h2⟩
    · rintro ⟨rfl | h1, h2⟩
      · exact absurd h2 hn
      · exact ⟨h1, h2⟩
theorem isCC_symm {cs : List Cl} {c d R : Int} : IsCC cs c d R ↔ IsCC cs d c R := by
  unfold IsCC
  refine and_congr_right fun _ => forall_congr' fun e => ?_
  rw [and_comm (a := e ∈ ch cs c)]
theorem isCC_right {cs : List Cl} (h : Wf cs) {c d R : Int} (hc : -1 ≤ c) (hd : c < d) : IsCC cs c d R ↔ IsCC cs c (up cs d) R := by
  rw [isCC_symm, isCC_left h hc hd, isCC_symm]
theorem ch_inj {cs : List Cl} (h : Wf cs) {r s : Int} (hr : -1 ≤ r) (hs : -1 ≤ s) (he : ∀ e, e ∈ ch cs r ↔ e ∈ ch cs s) : r = s := by
  have key : ∀ {r s : Int}, -1 ≤ r → -1 ≤ s → (∀ e, e ∈ ch cs r ↔ e ∈ ch cs s) → r ≤ s := by
    intro r s h1 h2 h3
    by_cases h0 : 0 ≤ r
    · exact mem_le h ((h3 r).1 (mem_self h r h0))
    · omega
  have h1 := key hr hs he
  have h2 := key hs hr (fun e => (he e).symm)
  omega
theorem isCC_eq {cs : List Cl} (h : Wf cs) {c R : Int} (hc : -1 ≤ c) (hR : IsCC cs c c R) : c = R :=
  (ch_inj h hR.1 hc (fun _ => by rw [hR.2]; exact ⟨fun q => q.1, fun q => ⟨q, q⟩⟩)).symm
theorem isCC_same (cs : List Cl) {c : Int} (hc : -1 ≤ c) : IsCC cs c c c := ⟨hc, fun _ => ⟨fun q => ⟨q, q⟩, fun q => q.1⟩⟩
theorem isCC_some {cs : List Cl} (h : Wf cs) : ∀ (n : Nat) (c d : Int), -1 ≤ c → -1 ≤ d → c + d + 2 < (n : Int) → ∃ R, IsCC cs c d R
  | 0, c, d, h0, h1, h2 => by omega
  | n + 1, c, d, h0, h1, h2 => by
    by_cases he : c = d
    · subst he; exact ⟨c, isCC_same cs h0⟩
    · by_cases hlt : d < c
      · have hu := up_neg cs h c (by omega)
        obtain ⟨R, hR⟩ := isCC_some h n (up cs c) d hu.1 h1 (by omega)
        exact ⟨R, (isCC_left h h1 hlt).2 hR⟩
      · have hu := up_neg cs h d (by omega)
        obtain ⟨R, hR⟩ := isCC_some h n c (up cs d) h0 hu.1 (by omega)
        exact ⟨R, (isCC_right h h0 (by omega)).2 hR⟩
/-- The common cluster of two nodes shares what their clusters share. -/
theorem isCC_comm {g : Gr} (h : Wf g.cs) {a b : Nat} (ha : -1 ≤ clOf g a ∧ clOf g a < (g.cs.length : Int)) : IsCC g.cs (clOf g a) (clOf g b) (comm g a b) := by
  have hh := best_has g a b g.cs.length
  refine ⟨hh.2.1, fun e => ⟨fun he => ?_, fun he => ?_⟩⟩
  · have h0 := mem_nonneg he
    have hle := mem_le h he
    have hm0 : comm g a b ≠ -1 := fun q => by rw [q] at hle; omega
    have p1 := (has_iff g _ a).1 hh.2.2.1
    have p2 := (has_iff g _ b).1 hh.2.2.2
    exact ⟨mem_trans h he (p1.resolve_left hm0), mem_trans h he (p2.resolve_left hm0)⟩
  · have h0 := mem_nonneg he.1
    have hle := mem_le h he.1
    have hen : ((e.toNat : Nat) : Int) = e := by omega
    have hm := best_max g a b g.cs.length e.toNat (by omega) (by rw [hen, has_iff]; exact Or.inr he.1) (by rw [hen, has_iff]; exact Or.inr he.2)
    rw [hen] at hm
    have hpos : 0 < dep g.cs e := by
      rw [dep_up h e h0]
      have := dep_nonneg g.cs (up g.cs e)
      omega
    have hm0 : comm g a b ≠ -1 := fun q => by
      have q' : bestF g a b g.cs.length (-1) = -1 := q
      rw [q', dep_neg g.cs (-1) (by omega)] at hm
      omega
    have p1 := (has_iff g _ a).1 hh.2.2.1
    exact mem_of_dep h he.1 (p1.resolve_left hm0) hm
/-- What is shared with c is c itself exactly if c contains the other. -/
theorem isCC_has {g : Gr} (h : Wf g.cs) {c R : Int} {v : Nat} (hc : -1 ≤ c) (hR : IsCC g.cs c (clOf g v) R) : decide (R = c) = has g c v := by
  rw [Bool.eq_iff_iff, decide_eq_true_eq, has_iff]
  constructor
  · rintro rfl
    by_cases h0 : 0 ≤ R
    · exact Or.inr ((hR.2 R).1 (mem_self h R h0)).2
    · exact Or.inl (by omega)
  · intro hh
    refine ch_inj h hR.1 hc fun e => ?_
    rw [hR.2 e]
    constructor
    · exact fun q => q.1
    · intro q
      refine ⟨q, ?_⟩
      rcases hh with rfl | hh
      · rw [ch_neg g.cs (-1) (by omega)] at q; exact nomatch q
      · exact mem_trans h q hh
end Go.Proofs.Ytjeacpohanadnaa.gra
