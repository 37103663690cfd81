/-
  Plain facts on strong components (layer 15). No function of the program is named here; conditions as each theorem states them.
-/
import Derived.Test.YtncedgnpdojkkaaTpoOrd
namespace Go.Proofs.Ytncedgnpdojkkaa.tpo
open dig

/-- Each reaches the other one. -/
def mutB (n : Int) (l : List Ar) (u v : Int) : Bool := (rchV n l u).contains v && (rchV n l v).contains u
theorem mut_iff {n u v : Int} {l : List Ar} (hv : validD n l = true) (h0 : 0 ≤ u) (h1 : u < n) (h2 : 0 ≤ v) (h3 : v < n) : mutB n l u v = true ↔ Path l u v ∧ Path l v u := by
  unfold mutB
  rw [Bool.and_eq_true, List.contains_iff_mem, List.contains_iff_mem, rch_mem hv h0 h1, rch_mem hv h2 h3]
  exact ⟨fun h => ⟨h.1.2.2, h.2.2.2⟩, fun h => ⟨⟨h2, h3, h.1⟩, ⟨h0, h1, h.2⟩⟩⟩
theorem mut_turn (n : Int) (l : List Ar) (u v : Int) : mutB n l u v = mutB n l v u := by unfold mutB; exact Bool.and_comm ..
/-- The component of a vertex, ascending. -/
def compT (n : Int) (l : List Ar) (v : Int) (k : Nat) : List Int := ((List.range k).filter fun u : Nat => mutB n l v (u : Int)).map fun u : Nat => (u : Int)
def compL (n : Int) (l : List Ar) (v : Int) : List Int := compT n l v n.toNat
theorem comp_succ (n : Int) (l : List Ar) (v : Int) (k : Nat) : compT n l v (k + 1) = compT n l v k ++ (if mutB n l v (k : Int) = true then [(k : Int)] else []) := by
  unfold compT
  rw [List.range_succ, List.filter_append, List.map_append]
  congr 1
  cases h : mutB n l v (k : Int) <;> simp [List.filter, h]
theorem comp_mem {n : Int} {l : List Ar} {v x : Int} {k : Nat} : x ∈ compT n l v k ↔ 0 ≤ x ∧ x < k ∧ mutB n l v x = true := by
  unfold compT
  simp only [List.mem_map, List.mem_filter, List.mem_range]
  constructor
  · rintro ⟨u, ⟨h1, h2⟩, rfl⟩; exact ⟨by omega, by omega, h2⟩
  · rintro ⟨h1, h2, h3⟩
    obtain ⟨u, rfl⟩ := Int.eq_ofNat_of_zero_le h1
    exact ⟨u, ⟨by omega, h3⟩, rfl⟩
theorem comp_len (n : Int) (l : List Ar) (v : Int) (k : Nat) : (compT n l v k).length ≤ k := by
  unfold compT
  rw [List.length_map]
  exact Nat.le_trans (List.length_filter_le ..) (by simp)
theorem comp_asc (n : Int) (l : List Ar) (v : Int) : ∀ k : Nat, (compT n l v k).Pairwise (· < ·)
  | 0 => by unfold compT; exact List.Pairwise.nil
  | k + 1 => by
    rw [comp_succ]
    refine List.pairwise_append.2 ⟨comp_asc n l v k, ?_, fun a ha b hb => ?_⟩
    · split
      · exact List.pairwise_singleton ..
      · exact List.Pairwise.nil
    · split at hb
      · rw [List.mem_singleton] at hb; subst hb; exact (comp_mem.1 ha).2.1
      · cases hb
theorem comp_self {n : Int} {l : List Ar} (hv : validD n l = true) {v : Int} (h0 : 0 ≤ v) (h1 : v < n) : v ∈ compL n l v :=
  comp_mem.2 ⟨h0, by omega, (mut_iff hv h0 h1 h0 h1).2 ⟨.refl _, .refl _⟩⟩
theorem mut_trans {n u v w : Int} {l : List Ar} (hv : validD n l = true) (hu : 0 ≤ u ∧ u < n) (hw : 0 ≤ v ∧ v < n) (hx : 0 ≤ w ∧ w < n) (h1 : mutB n l u v = true) (h2 : mutB n l v w = true) : mutB n l u w = true := by
  rw [mut_iff hv hu.1 hu.2 hw.1 hw.2] at h1
  rw [mut_iff hv hw.1 hw.2 hx.1 hx.2] at h2
  exact (mut_iff hv hu.1 hu.2 hx.1 hx.2).2 ⟨h1.1.trans h2.1, h2.2.trans h1.2⟩
/-- Its component begins with it. -/
def lead (n : Int) (l : List Ar) (v : Int) : Bool := (compL n l v).head? == some v
theorem lead_iff {n : Int} {l : List Ar} (hv : validD n l = true) {v : Int} (h0 : 0 ≤ v) (h1 : v < n) : lead n l v = true ↔ ∀ u, 0 ≤ u → u < v → mutB n l v u = false := by
  unfold lead
  rw [beq_iff_eq]
  have hs := comp_self hv h0 h1
  have ha := comp_asc n l v n.toNat
  constructor
  · intro h u hu0 hu1
    cases q : mutB n l v u with
    | false => rfl
    | true =>
      have hm : u ∈ compL n l v := comp_mem.2 ⟨hu0, by omega, q⟩
      unfold compL at h hm
      cases hc : compT n l v n.toNat with
      | nil => rw [hc] at h; cases h
      | cons x t =>
        rw [hc] at h hm ha
        obtain rfl : x = v := by simpa using h
        rcases List.mem_cons.1 hm with rfl | hm
        · omega
        · have := (List.pairwise_cons.1 ha).1 u hm; omega
  · intro h
    unfold compL at hs ⊢
    cases hc : compT n l v n.toNat with
    | nil => rw [hc] at hs; cases hs
    | cons x t =>
      have hx : x ∈ compT n l v n.toNat := by rw [hc]; exact List.mem_cons_self ..
      obtain ⟨x0, x1, x2⟩ := comp_mem.1 hx
      rw [hc] at hs ha
      rcases List.mem_cons.1 hs with rfl | hs
      · rfl
      · have := (List.pairwise_cons.1 ha).1 v hs
        rw [h x x0 this] at x2
        cases x2
/-- Vertices of one component have the same component. -/
theorem comp_same {n : Int} {l : List Ar} (hv : validD n l = true) {u v : Int} (h0 : 0 ≤ u) (h1 : u < n) (h2 : 0 ≤ v) (h3 : v < n) (h : mutB n l u v = true) (k : Nat) (hk : (k : Int) ≤ n) : compT n l u k = compT n l v k := by
  unfold compT
  congr 1
  refine List.filter_congr fun x hx => ?_
  have hx := List.mem_range.1 hx
  rw [Bool.eq_iff_iff]
  exact ⟨fun q => mut_trans hv ⟨h2, h3⟩ ⟨h0, h1⟩ ⟨by omega, by omega⟩ (by rw [mut_turn]; exact h) q, fun q => mut_trans hv ⟨h0, h1⟩ ⟨h2, h3⟩ ⟨by omega, by omega⟩ h q⟩
/-- The least vertices of the components. -/
def leadsT (n : Int) (l : List Ar) (k : Nat) : List Nat := (List.range k).filter fun v : Nat => lead n l (v : Int)
theorem leads_succ (n : Int) (l : List Ar) (k : Nat) : leadsT n l (k + 1) = leadsT n l k ++ (if lead n l (k : Int) = true then [k] else []) := by
  unfold leadsT
  rw [List.range_succ, List.filter_append]
  congr 1
  cases h : lead n l (k : Int) <;> simp [List.filter, h]
theorem leads_len (n : Int) (l : List Ar) (k : Nat) : (leadsT n l k).length ≤ k := Nat.le_trans (List.length_filter_le ..) (by simp)
def strT (n : Int) (l : List Ar) (k : Nat) : List (List Int) := (leadsT n l k).map fun v : Nat => compL n l (v : Int)
theorem str_succ (n : Int) (l : List Ar) (k : Nat) : strT n l (k + 1) = strT n l k ++ (if lead n l (k : Int) = true then [compL n l (k : Int)] else []) := by
  unfold strT
  rw [leads_succ, List.map_append]
  congr 1
  split <;> rfl
def strV (n : Int) (l : List Ar) : List (List Int) := if validD n l = true then strT n l n.toNat else []
theorem str_len (n : Int) (l : List Ar) (k : Nat) : (strT n l k).length ≤ k := by unfold strT; rw [List.length_map]; exact leads_len ..
/-- Every vertex is in the component of some least one. -/
theorem lead_of {n : Int} {l : List Ar} (hv : validD n l = true) {v : Int} (h0 : 0 ≤ v) (h1 : v < n) : ∃ u : Nat, (u : Int) < n ∧ lead n l (u : Int) = true ∧ mutB n l (u : Int) v = true := by
  have hs := comp_self hv h0 h1
  unfold compL at hs
  cases hc : compT n l v n.toNat with
  | nil => rw [hc] at hs; cases hs
  | cons x t =>
    have hx : x ∈ compT n l v n.toNat := by rw [hc]; exact List.mem_cons_self ..
    obtain ⟨x0, x1, x2⟩ := comp_mem.1 hx
    obtain ⟨u, rfl⟩ := Int.eq_ofNat_of_zero_le x0
    have x1' : (u : Int) < n := by omega
    refine ⟨u, x1', ?_, by rw [mut_turn]; exact x2⟩
    unfold lead compL
    rw [← comp_same hv h0 h1 (by omega) x1' x2 n.toNat (by omega), hc]
    simp
/-- What the components are: lists of vertices, each vertex in exactly one of them, with what reaches it and is reached by it. -/
theorem str_part {n : Int} {l : List Ar} (hv : validD n l = true) :
    (∀ i (hi : i < (strV n l).length), ∀ x ∈ (strV n l)[i], 0 ≤ x ∧ x < n) ∧ (∀ i (hi : i < (strV n l).length), ((strV n l)[i]).Pairwise (· < ·)) ∧
    (∀ i j (hi : i < (strV n l).length) (hj : j < (strV n l).length) (x : Int), x ∈ (strV n l)[i] → x ∈ (strV n l)[j] → i = j) ∧
    (∀ x, 0 ≤ x → x < n → ∃ i, ∃ (hi : i < (strV n l).length), x ∈ (strV n l)[i]) ∧
    (∀ i (hi : i < (strV n l).length) (u v : Int), u ∈ (strV n l)[i] → 0 ≤ v → v < n → (v ∈ (strV n l)[i] ↔ mutB n l u v = true)) := by
  unfold strV
  rw [if_pos hv]
  have hg : ∀ i (hi : i < (strT n l n.toNat).length), ∃ v : Nat, (v : Int) < n ∧ lead n l (v : Int) = true ∧ (leadsT n l n.toNat)[i]? = some v ∧ (strT n l n.toNat)[i] = compL n l (v : Int) := fun i hi => by
    unfold strT at hi ⊢
    rw [List.length_map] at hi
    obtain ⟨h1, h2⟩ := List.mem_filter.1 (List.getElem_mem hi : (leadsT n l n.toNat)[i] ∈ (List.range n.toNat).filter _)
    have h1 := List.mem_range.1 h1
    exact ⟨_, by omega, h2, List.getElem?_eq_getElem hi, by rw [List.getElem_map]⟩
  have hnd : (leadsT n l n.toNat).Pairwise (· < ·) := List.Pairwise.filter _ List.pairwise_lt_range
  have hin : ∀ i (hi : i < (strT n l n.toNat).length) (u v : Int), u ∈ (strT n l n.toNat)[i] → 0 ≤ v → v < n → (v ∈ (strT n l n.toNat)[i] ↔ mutB n l u v = true) := fun i hi u v hu h0 h1 => by
    obtain ⟨w, hw, _, _, e⟩ := hg i hi
    rw [e] at hu ⊢
    obtain ⟨u0, u1, u2⟩ := comp_mem.1 hu
    have hwr : 0 ≤ (w : Int) ∧ (w : Int) < n := ⟨by omega, hw⟩
    have hur : 0 ≤ u ∧ u < n := ⟨u0, by omega⟩
    constructor
    · intro h
      exact mut_trans hv hur hwr ⟨h0, h1⟩ (by rw [mut_turn]; exact u2) (comp_mem.1 h).2.2
    · intro h
      exact comp_mem.2 ⟨h0, by omega, mut_trans hv hwr hur ⟨h0, h1⟩ u2 h⟩
  refine ⟨fun i hi x hx => ?_, fun i hi => ?_, fun i j hi hj x hx hy => ?_, fun x h0 h1 => ?_, hin⟩
  · obtain ⟨w, _, _, _, e⟩ := hg i hi
    rw [e] at hx
    obtain ⟨x0, x1, _⟩ := comp_mem.1 hx
    exact ⟨x0, by omega⟩
  · obtain ⟨w, _, _, _, e⟩ := hg i hi
    rw [e]; exact comp_asc ..
  · obtain ⟨w, hw, lw, ew, e⟩ := hg i hi
    obtain ⟨z, hz, lz, ez, e2⟩ := hg j hj
    rw [e] at hx
    rw [e2] at hy
    obtain ⟨x0, x1, x2⟩ := comp_mem.1 hx
    obtain ⟨_, _, y2⟩ := comp_mem.1 hy
    have hm : mutB n l (w : Int) (z : Int) = true := mut_trans hv ⟨by omega, hw⟩ ⟨x0, by omega⟩ ⟨by omega, hz⟩ x2 (by rw [mut_turn]; exact y2)
    have hwz : w = z := by
      rcases Nat.lt_trichotomy w z with q | q | q
      · have := (lead_iff hv (v := (z : Int)) (by omega) hz).1 lz w (by omega) (by omega)
        rw [mut_turn, hm] at this; cases this
      · exact q
      · have := (lead_iff hv (v := (w : Int)) (by omega) hw).1 lw z (by omega) (by omega)
        rw [hm] at this; cases this
    subst hwz
    obtain ⟨h1, e1⟩ := List.getElem?_eq_some_iff.1 ew
    obtain ⟨h2, e2⟩ := List.getElem?_eq_some_iff.1 ez
    rcases Nat.lt_trichotomy i j with q | q | q
    · have := List.pairwise_iff_getElem.1 hnd i j h1 h2 q; omega
    · exact q
    · have := List.pairwise_iff_getElem.1 hnd j i h2 h1 q; omega
  · obtain ⟨u, hu, hl, hm⟩ := lead_of hv h0 h1
    have hmem : u ∈ leadsT n l n.toNat := List.mem_filter.2 ⟨List.mem_range.2 (by omega), hl⟩
    obtain ⟨i, hi, e⟩ := List.mem_iff_getElem.1 hmem
    refine ⟨i, by unfold strT; rw [List.length_map]; exact hi, ?_⟩
    unfold strT
    rw [List.getElem_map, e]
    exact comp_mem.2 ⟨h0, by omega, hm⟩
theorem filter_full {X : Type} (p : X → Bool) : ∀ {L : List X}, (L.filter p).length = L.length ↔ ∀ x ∈ L, p x = true := List.length_filter_eq_length_iff
/-- There are fewer components than vertices exactly where two vertices reach each other. -/
theorem str_few {n : Int} {l : List Ar} (hv : validD n l = true) : (strV n l).length < n.toNat ↔ ∃ u v : Nat, (u : Int) < n ∧ (v : Int) < n ∧ u ≠ v ∧ Path l u v ∧ Path l v u := by
  unfold strV
  rw [if_pos hv]
  unfold strT
  rw [List.length_map]
  constructor
  · intro h
    have hne : ¬ ∀ x ∈ List.range n.toNat, lead n l (x : Int) = true := fun q => by
      have := (filter_full (fun v : Nat => lead n l (v : Int)) (L := List.range n.toNat)).2 q
      unfold leadsT at h
      rw [this, List.length_range] at h
      omega
    have hex : ∃ v : Nat, v < n.toNat ∧ ¬ lead n l (v : Int) = true := by
      rcases Classical.em (∃ v : Nat, v < n.toNat ∧ ¬ lead n l (v : Int) = true) with q | q
      · exact q
      · exact absurd (fun x hx => by
          rcases Classical.em (lead n l (x : Int) = true) with z | z
          · exact z
          · exact absurd ⟨x, List.mem_range.1 hx, z⟩ q) hne
    obtain ⟨v, hvn, hnl⟩ := hex
    rw [lead_iff hv (by omega) (by omega)] at hnl
    have : ∃ u : Int, 0 ≤ u ∧ u < (v : Int) ∧ mutB n l (v : Int) u = true := by
      rcases Classical.em (∃ u : Int, 0 ≤ u ∧ u < (v : Int) ∧ mutB n l (v : Int) u = true) with q | q
      · exact q
      · exact absurd (fun u h0 h1 => by
          cases z : mutB n l (v : Int) u with
          | false => rfl
          | true => exact absurd ⟨u, h0, h1, z⟩ q) hnl
    obtain ⟨u, u0, u1, u2⟩ := this
    obtain ⟨w, rfl⟩ := Int.eq_ofNat_of_zero_le u0
    have hm := (mut_iff hv (u := (v : Int)) (v := (w : Int)) (by omega) (by omega) (by omega) (by omega)).1 u2
    exact ⟨v, w, by omega, by omega, by omega, hm.1, hm.2⟩
  · rintro ⟨u, v, hu, hw, hne, p, q⟩
    have key : ∀ a b : Nat, a < b → (b : Int) < n → mutB n l (b : Int) (a : Int) = true → (leadsT n l n.toNat).length < n.toNat := fun a b hab hb hm => by
      rcases Nat.lt_or_ge (leadsT n l n.toNat).length n.toNat with z | z
      · exact z
      · have hl := (filter_full (fun v : Nat => lead n l (v : Int)) (L := List.range n.toNat)).1 (by
          rw [List.length_range]; exact Nat.le_antisymm (leads_len ..) z) b (List.mem_range.2 (by omega))
        have := (lead_iff hv (v := (b : Int)) (by omega) hb).1 hl a (by omega) (by omega)
        rw [hm] at this; cases this
    have hm : mutB n l (u : Int) (v : Int) = true := (mut_iff hv (by omega) hu (by omega) hw).2 ⟨p, q⟩
    rcases Nat.lt_or_gt_of_ne hne with z | z
    · exact key u v z hw (by rw [mut_turn]; exact hm)
    · exact key v u z hu hm
/-- An order exists exactly where there is no cycle. -/
theorem ord_cycle {n : Int} {l : List Ar} (hv : validD n l = true) : (ordV n l).2 = !(decide ((strV n l).length < n.toNat) || l.any fun a => a.1 == a.2) := by
  obtain ⟨h0, _, _, hok⟩ := validD_iff.1 hv
  obtain ⟨m, rfl⟩ := Int.eq_ofNat_of_zero_le h0
  cases q : ordV (m : Int) l with
  | mk L b =>
    cases b with
    | true =>
      obtain ⟨_, _, ht, hl⟩ := ordV_true q
      simp only [Int.toNat_natCast] at ht hl
      have h1 : ¬ (strV (m : Int) l).length < (m : Int).toNat := fun z => by
        obtain ⟨u, v, hu, hw, hne, p1, p2⟩ := (str_few hv).1 z
        exact hne (by have := ht.acyclic hl (by omega) (by omega) (by omega) (by omega) p1 p2; omega)
      have h2 : (l.any fun a => a.1 == a.2) = false := by
        rw [List.any_eq_false]
        intro a ha
        have := ht.noloop hl hok ha
        simpa using this
      rw [decide_eq_false h1, h2]; rfl
    | false =>
      obtain ⟨_, hn⟩ := ordV_false q
      obtain ⟨D, _, hD, hs⟩ := ord_none (m : Int).toNat (TopI.nil l _) (by simp) (hn hv)
      simp only [Int.toNat_natCast] at hD hs
      rcases stuck hok hD hs with ⟨u, v, hu, hw, hne, p1, p2⟩ | ⟨a, ha, e⟩
      · rw [decide_eq_true ((str_few hv).2 ⟨u, v, by omega, by omega, hne, p1, p2⟩)]; rfl
      · have : (l.any fun a => a.1 == a.2) = true := List.any_eq_true.2 ⟨a, ha, by simpa using e⟩
        rw [this, Bool.or_true]; rfl
end Go.Proofs.Ytncedgnpdojkkaa.tpo
