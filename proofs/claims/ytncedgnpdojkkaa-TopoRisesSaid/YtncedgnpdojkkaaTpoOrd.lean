/-
  Plain facts on least topological orders and longest paths (layer 15). No function of the program is named here; conditions as each theorem states them.
-/
import Derived.Test.YtncedgnpdojkkaaTpoPlain
namespace Go.Proofs.Ytncedgnpdojkkaa.tpo
open dig

/-! ### The least topological order -/
def freeB (l : List Ar) (done : List Int) (v : Int) : Bool := !done.contains v && l.all (fun a => !(a.2 == v) || done.contains a.1)
theorem free_iff {l : List Ar} {done : List Int} {v : Int} : freeB l done v = true ↔ v ∉ done ∧ ∀ a ∈ l, a.2 = v → a.1 ∈ done := by
  unfold freeB
  rw [Bool.and_eq_true, Bool.not_eq_true', ← Bool.not_eq_true, List.contains_iff_mem, List.all_eq_true]
  refine and_congr_right fun _ => ⟨fun h a ha e => ?_, fun h a ha => ?_⟩
  · have := h a ha
    rw [Bool.or_eq_true, Bool.not_eq_true', beq_eq_false_iff_ne, List.contains_iff_mem] at this
    exact this.resolve_left (fun q => q e)
  · rw [Bool.or_eq_true, Bool.not_eq_true', beq_eq_false_iff_ne, List.contains_iff_mem]
    by_cases e : a.2 = v
    · exact Or.inr (h a ha e)
    · exact Or.inl e
def nextV (l : List Ar) (done : List Int) : Nat → Nat → Nat
  | 0, k => k
  | r + 1, k => if freeB l done (k : Int) = true then k else nextV l done r (k + 1)
theorem next_spec (l : List Ar) (done : List Int) : ∀ r k, k ≤ nextV l done r k ∧ nextV l done r k ≤ k + r ∧ (∀ j : Nat, k ≤ j → j < nextV l done r k → freeB l done (j : Int) = false) ∧ (nextV l done r k < k + r → freeB l done (nextV l done r k : Int) = true)
  | 0, k => by rw [nextV]; exact ⟨Nat.le_refl _, Nat.le_refl _, fun j h1 h2 => by omega, fun h => by omega⟩
  | r + 1, k => by
    rw [nextV]
    by_cases h : freeB l done (k : Int) = true
    · rw [if_pos h]; exact ⟨Nat.le_refl _, by omega, fun j h1 h2 => by omega, fun _ => h⟩
    · rw [if_neg h]
      obtain ⟨h1, h2, h3, h4⟩ := next_spec l done r (k + 1)
      refine ⟨by omega, by omega, fun j hj1 hj2 => ?_, fun hh => h4 (by omega)⟩
      by_cases e : j = k
      · subst e; simpa using h
      · exact h3 j (by omega) hj2
def ordF (l : List Ar) (n : Nat) : Nat → List Int → Option (List Int)
  | 0, done => some done
  | r + 1, done => if nextV l done n 0 < n then ordF l n r (done ++ [((nextV l done n 0 : Nat) : Int)]) else none
/-- Different vertices, each behind all from which arcs lead to it. -/
structure TopI (l : List Ar) (n : Nat) (done : List Int) : Prop where
  nodup : done.Nodup
  range : ∀ x ∈ done, 0 ≤ x ∧ x < n
  pre : ∀ k (h : k < done.length), ∀ a ∈ l, a.2 = done[k] → a.1 ∈ done.take k
theorem TopI.nil (l : List Ar) (n : Nat) : TopI l n [] := ⟨List.nodup_nil, (fun x hx => by cases hx), (fun k h => by simp at h)⟩
theorem TopI.step {l : List Ar} {n : Nat} {done : List Int} {v : Int} (h : TopI l n done) (hf : freeB l done v = true) (h0 : 0 ≤ v) (h1 : v < n) : TopI l n (done ++ [v]) := by
  obtain ⟨q1, q2⟩ := free_iff.1 hf
  refine ⟨?_, fun x hx => ?_, fun k hk a ha he => ?_⟩
  · refine List.nodup_append.2 ⟨h.nodup, List.nodup_cons.2 ⟨by simp, List.nodup_nil⟩, fun a ha b hb => ?_⟩
    rw [List.mem_singleton] at hb; subst hb
    exact fun e => q1 (e ▸ ha)
  · rcases List.mem_append.1 hx with q | q
    · exact h.range x q
    · rw [List.mem_singleton] at q; subst q; exact ⟨h0, h1⟩
  · rw [List.length_append, List.length_cons, List.length_nil] at hk
    by_cases e : k = done.length
    · subst e
      rw [List.getElem_append_right (Nat.le_refl _)] at he
      simp at he
      rw [List.take_append_of_le_length (Nat.le_refl _), List.take_length]
      exact q2 a ha he
    · have hk' : k < done.length := by omega
      rw [List.getElem_append_left hk'] at he
      rw [List.take_append_of_le_length (by omega)]
      exact h.pre k hk' a ha he
theorem ord_some {l : List Ar} {n : Nat} : ∀ (r : Nat) {done L : List Int}, TopI l n done → done.length + r = n → ordF l n r done = some L → TopI l n L ∧ L.length = n
  | 0, done, L, h, hl, e => by rw [ordF] at e; cases e; exact ⟨h, by omega⟩
  | r + 1, done, L, h, hl, e => by
    rw [ordF] at e
    split at e
    · rename_i hlt
      obtain ⟨_, _, _, h4⟩ := next_spec l done n 0
      exact ord_some r (h.step (h4 (by omega)) (by omega) (by omega)) (by rw [List.length_append, List.length_cons, List.length_nil]; omega) e
    · cases e
theorem ord_none {l : List Ar} {n : Nat} : ∀ (r : Nat) {done : List Int}, TopI l n done → done.length + r = n → ordF l n r done = none → ∃ D, TopI l n D ∧ D.length < n ∧ ∀ v : Nat, v < n → freeB l D (v : Int) = false
  | 0, done, h, hl, e => by rw [ordF] at e; cases e
  | r + 1, done, h, hl, e => by
    rw [ordF] at e
    obtain ⟨_, h2, h3, h4⟩ := next_spec l done n 0
    split at e
    · exact ord_none r (h.step (h4 (by omega)) (by omega) (by omega)) (by rw [List.length_append, List.length_cons, List.length_nil]; omega) e
    · exact ⟨done, h, by omega, fun v hv => h3 v (by omega) (by omega)⟩
def ordV (n : Int) (l : List Ar) : List Int × Bool :=
  if validD n l = true then (match ordF l n.toNat n.toNat [] with | some L => (L, true) | none => ([], false)) else ([], false)
theorem ordV_true {n : Int} {l : List Ar} {L : List Int} (h : ordV n l = (L, true)) : validD n l = true ∧ ordF l n.toNat n.toNat [] = some L ∧ TopI l n.toNat L ∧ L.length = n.toNat := by
  unfold ordV at h
  split at h
  · rename_i hv
    cases q : ordF l n.toNat n.toNat [] with
    | none => rw [q] at h; cases h
    | some M =>
      rw [q] at h
      obtain rfl : M = L := (Prod.mk.inj h).1
      have := ord_some n.toNat (TopI.nil l n.toNat) (by simp) q
      exact ⟨hv, rfl, this.1, this.2⟩
  · cases h
theorem ordV_false {n : Int} {l : List Ar} {L : List Int} (h : ordV n l = (L, false)) : L = [] ∧ (validD n l = true → ordF l n.toNat n.toNat [] = none) := by
  unfold ordV at h
  split at h
  · cases q : ordF l n.toNat n.toNat [] with
    | none => rw [q] at h; exact ⟨(Prod.mk.inj h).1.symm, fun _ => rfl⟩
    | some M => rw [q] at h; cases h
  · rename_i hv
    exact ⟨(Prod.mk.inj h).1.symm, fun q => absurd q hv⟩

/-! ### Orders and cycles -/
theorem nodup_idx {L : List Int} (h : L.Nodup) {i j : Nat} {x : Int} (hi : L[i]? = some x) (hj : L[j]? = some x) : i = j := by
  obtain ⟨h1, e1⟩ := List.getElem?_eq_some_iff.1 hi
  obtain ⟨h2, e2⟩ := List.getElem?_eq_some_iff.1 hj
  rcases Nat.lt_trichotomy i j with q | q | q
  · exact absurd (e1.trans e2.symm) (List.pairwise_iff_getElem.1 h i j h1 h2 q)
  · exact q
  · exact absurd (e2.trans e1.symm) (List.pairwise_iff_getElem.1 h j i h2 h1 q)
/-- Every arc leads forward. -/
theorem TopI.fwd {l : List Ar} {n : Nat} {L : List Int} (h : TopI l n L) {a : Ar} (ha : a ∈ l) {j : Nat} (hj : L[j]? = some a.2) : ∃ i, i < j ∧ L[i]? = some a.1 := by
  obtain ⟨h2, e2⟩ := List.getElem?_eq_some_iff.1 hj
  have := h.pre j h2 a ha e2.symm
  obtain ⟨i, hi, e⟩ := List.mem_iff_getElem.1 this
  rw [List.length_take] at hi
  refine ⟨i, by omega, ?_⟩
  rw [List.getElem_take] at e
  rw [← e]
  exact List.getElem?_eq_getElem (by omega)
theorem TopI.path {l : List Ar} {n : Nat} {L : List Int} (h : TopI l n L) {u v : Int} (hp : Path l u v) {i : Nat} (hi : L[i]? = some u) : ∀ {j : Nat}, L[j]? = some v → i ≤ j ∧ (i = j → u = v) := by
  induction hp with
  | refl => intro j hj; have := nodup_idx h.nodup hi hj; exact ⟨by omega, fun _ => rfl⟩
  | tail _ ha ih =>
    intro j hj
    obtain ⟨k, hk, e⟩ := h.fwd ha hj
    have := ih e
    exact ⟨by omega, fun q => by omega⟩
theorem TopI.all {l : List Ar} {n : Nat} {L : List Int} (h : TopI l n L) (hl : L.length = n) {x : Int} (h0 : 0 ≤ x) (h1 : x < n) : ∃ i, i < n ∧ L[i]? = some x := by
  obtain ⟨i, hi, e⟩ := List.mem_iff_getElem.1 (pig_all h.nodup h.range hl x h0 h1)
  exact ⟨i, by omega, by rw [List.getElem?_eq_getElem hi, e]⟩
/-- Where there is an order, two vertices that reach each other are one, and there is no loop. -/
theorem TopI.acyclic {l : List Ar} {n : Nat} {L : List Int} (h : TopI l n L) (hl : L.length = n) {u v : Int} (h0 : 0 ≤ u) (h1 : u < n) (h2 : 0 ≤ v) (h3 : v < n) (p : Path l u v) (q : Path l v u) : u = v := by
  obtain ⟨i, _, hi⟩ := h.all hl h0 h1
  obtain ⟨j, _, hj⟩ := h.all hl h2 h3
  have a := h.path p hi hj
  have b := h.path q hj hi
  exact a.2 (by omega)
theorem TopI.noloop {l : List Ar} {n : Nat} {L : List Int} (h : TopI l n L) (hl : L.length = n) (hok : ∀ a ∈ l, okA n a = true) {a : Ar} (ha : a ∈ l) : a.1 ≠ a.2 := by
  intro e
  have hk := okA_iff.1 (hok a ha)
  obtain ⟨j, _, hj⟩ := h.all hl hk.2.2.1 hk.2.2.2
  obtain ⟨i, hi, hi2⟩ := h.fwd ha hj
  rw [e] at hi2
  have := nodup_idx h.nodup hi2 hj
  omega
theorem cover : ∀ (n : Nat) {L : List Int}, (∀ v : Nat, v < n → (v : Int) ∈ L) → n ≤ L.length
  | 0, _, _ => Nat.zero_le _
  | n + 1, L, h => by
    have ih := cover n (L := L.filter fun y => !(y == (n : Int))) (fun v hv => List.mem_filter.2 ⟨h v (by omega), by simp; omega⟩)
    have h2 : (L.filter fun y => !(y == (n : Int))).length < L.length := by
      rcases Nat.lt_or_ge (L.filter fun y => !(y == (n : Int))).length L.length with q | q
      · exact q
      · have := List.length_filter_eq_length_iff.1 (Nat.le_antisymm (List.length_filter_le ..) q) _ (h n (by omega))
        simp at this
    omega
theorem countP_lt {X : Type} (p q : X → Bool) : ∀ {L : List X}, (∀ x ∈ L, p x = true → q x = true) → (∃ x ∈ L, q x = true ∧ p x = false) → L.countP p < L.countP q
  | [], _, ⟨x, hx, _⟩ => by cases hx
  | y :: t, h, ⟨x, hx, h1, h2⟩ => by
    have hm : t.countP p ≤ t.countP q := List.countP_mono_left (fun z hz => h z (List.mem_cons_of_mem _ hz))
    rw [List.countP_cons, List.countP_cons]
    rcases List.mem_cons.1 hx with rfl | hx
    · rw [h1, h2]; simp; omega
    · have ih := countP_lt p q (L := t) (fun z hz => h z (List.mem_cons_of_mem _ hz)) ⟨x, hx, h1, h2⟩
      cases hy : p y with
      | true => rw [h y (List.mem_cons_self ..) hy]; simp; omega
      | false => cases q y <;> simp <;> omega
/-- Where no vertex is free any more there is a cycle. -/
theorem stuck {l : List Ar} {n : Nat} {D : List Int} (hok : ∀ a ∈ l, okA n a = true) (hD : D.length < n) (hs : ∀ v : Nat, v < n → freeB l D (v : Int) = false) :
    (∃ u v : Nat, u < n ∧ v < n ∧ u ≠ v ∧ Path l u v ∧ Path l v u) ∨ ∃ a ∈ l, a.1 = a.2 := by
  have hback : ∀ v : Nat, v < n → (v : Int) ∉ D → ∃ u : Nat, u < n ∧ (u : Int) ∉ D ∧ ((u : Int), (v : Int)) ∈ l := fun v hv hvD => by
    have h1 : ¬ freeB l D (v : Int) = true := by rw [hs v hv]; decide
    rw [free_iff] at h1
    have h2 : ∃ a ∈ l, a.2 = (v : Int) ∧ a.1 ∉ D := by
      rcases Classical.em (∃ a ∈ l, a.2 = (v : Int) ∧ a.1 ∉ D) with q | q
      · exact q
      · exact absurd ⟨hvD, fun a ha e => by
          rcases Classical.em (a.1 ∈ D) with z | z
          · exact z
          · exact absurd ⟨a, ha, e, z⟩ q⟩ h1
    obtain ⟨a, ha, e, hne⟩ := h2
    have hk := okA_iff.1 (hok a ha)
    obtain ⟨x, y⟩ := a
    simp only at e hne hk
    obtain ⟨u, rfl⟩ := Int.eq_ofNat_of_zero_le hk.1
    subst e
    exact ⟨u, by omega, hne, ha⟩
  have key : ∀ (k : Nat) (v : Nat), v < n → (v : Int) ∉ D → (List.range n).countP (fun u => mk (rchI n l u) v) ≤ k →
      (∃ u v : Nat, u < n ∧ v < n ∧ u ≠ v ∧ Path l u v ∧ Path l v u) ∨ ∃ a ∈ l, a.1 = a.2 := by
    intro k
    induction k with
    | zero =>
      intro v hv _ hc
      have : 0 < (List.range n).countP (fun u => mk (rchI n l u) v) := List.countP_pos_iff.2 ⟨v, List.mem_range.2 hv, (rch_iff hok hv v).2 (.refl _)⟩
      omega
    | succ k ih =>
      intro v hv hvD hc
      obtain ⟨u, hu, huD, ha⟩ := hback v hv hvD
      by_cases hm : mk (rchI n l v) u = true
      · have p1 := (rch_iff hok hv u).1 hm
        have p2 : Path l u v := (Path.refl _).tail ha
        by_cases e : u = v
        · subst e; exact Or.inr ⟨_, ha, rfl⟩
        · exact Or.inl ⟨u, v, hu, hv, e, p2, p1⟩
      · refine ih u hu huD ?_
        have := countP_lt (fun w => mk (rchI n l w) u) (fun w => mk (rchI n l w) v) (L := List.range n) (fun w hw h => by
          have hw := List.mem_range.1 hw
          exact (rch_iff hok hw v).2 (((rch_iff hok hw u).1 h).tail ha)) ⟨v, List.mem_range.2 hv, (rch_iff hok hv v).2 (.refl _), by simpa using hm⟩
        omega
  have hex : ∃ v : Nat, v < n ∧ (v : Int) ∉ D := by
    rcases Classical.em (∃ v : Nat, v < n ∧ (v : Int) ∉ D) with q | q
    · exact q
    · have := cover n (L := D) (fun v hv => by
        rcases Classical.em ((v : Int) ∈ D) with z | z
        · exact z
        · exact absurd ⟨v, hv, z⟩ q)
      omega
  obtain ⟨v, hv, hvD⟩ := hex
  exact key _ v hv hvD (Nat.le_refl _)

/-! ### Longest paths -/
def dAt (D : List Int) (v : Int) : Int := D.getD v.toNat 0
/-- What the arcs that lead to v ask of it. -/
def inMax (l : List Ar) (D : List Int) (v : Int) : Int := l.foldl (fun m a => if a.2 = v then max m (dAt D a.1 + 1) else m) 0
def lonA (x : Int) (D : List Int) (a : Ar) : List Int := if a.2 = x then D.set x.toNat (max (dAt D x) (dAt D a.1 + 1)) else D
def lonX (l : List Ar) (D : List Int) (x : Int) : List Int := l.foldl (lonA x) D
def lonF (l : List Ar) (n : Nat) (o : List Int) : List Int := o.foldl (lonX l) (List.replicate n 0)
def lonV (n : Int) (l : List Ar) : List Int × Bool := if (ordV n l).2 = true then (lonF l n.toNat (ordV n l).1, true) else ([], false)
theorem lonX_take {l : List Ar} {k : Nat} (hk : k < l.length) (D : List Int) (x : Int) : lonX (l.take (k + 1)) D x = lonA x (lonX (l.take k) D x) l[k] := by
  unfold lonX
  rw [List.take_succ_eq_append_getElem hk, List.foldl_append]; rfl
theorem lonF_take {l : List Ar} {n : Nat} {o : List Int} {k : Nat} (hk : k < o.length) : lonF l n (o.take (k + 1)) = lonX l (lonF l n (o.take k)) o[k] := by
  unfold lonF
  rw [List.take_succ_eq_append_getElem hk, List.foldl_append]; rfl
theorem lonA_len (x : Int) (D : List Int) (a : Ar) : (lonA x D a).length = D.length := by
  unfold lonA; split
  · simp
  · rfl
theorem lonX_len (x : Int) : ∀ (l : List Ar) (D : List Int), (lonX l D x).length = D.length
  | [], _ => rfl
  | a :: t, D => by show (lonX t (lonA x D a) x).length = _; rw [lonX_len x t, lonA_len]
theorem lonF_len (l : List Ar) (n : Nat) (o : List Int) : (lonF l n o).length = n := by
  unfold lonF
  suffices ∀ (o : List Int) (D : List Int), (o.foldl (lonX l) D).length = D.length by rw [this]; simp
  intro o
  induction o with
  | nil => intro D; rfl
  | cons x t ih => intro D; rw [List.foldl_cons, ih, lonX_len]
theorem dAt_set (D : List Int) (k : Nat) (v : Int) (w : Int) (h : k < D.length) (hv : 0 ≤ v) : dAt (D.set k w) v = if v = k then w else dAt D v := by
  obtain ⟨u, rfl⟩ := Int.eq_ofNat_of_zero_le hv
  unfold dAt
  simp only [Int.toNat_natCast, List.getD_eq_getElem?_getD]
  rw [List.getElem?_set]
  by_cases e : k = u
  · subst e; simp [h]
  · rw [if_neg e, if_neg (by omega)]
/-- One vertex of the order: only its own number changes, to what its arcs ask. -/
theorem lonX_at (n : Nat) (x : Int) (h0 : 0 ≤ x) (h1 : x < n) : ∀ (l : List Ar) (D : List Int), D.length = n → (∀ a ∈ l, okA n a = true) → (∀ a ∈ l, a.2 = x → a.1 ≠ x) →
    (∀ v, 0 ≤ v → v ≠ x → dAt (lonX l D x) v = dAt D v) ∧ dAt (lonX l D x) x = l.foldl (fun m a => if a.2 = x then max m (dAt D a.1 + 1) else m) (dAt D x)
  | [], D, _, _, _ => ⟨fun _ _ _ => rfl, rfl⟩
  | a :: t, D, hD, hok, hne => by
    have ih := lonX_at n x h0 h1 t (lonA x D a) (by rw [lonA_len]; exact hD) (fun b hb => hok b (List.mem_cons_of_mem _ hb)) (fun b hb => hne b (List.mem_cons_of_mem _ hb))
    have hs : ∀ v, 0 ≤ v → v ≠ x → dAt (lonA x D a) v = dAt D v := fun v hv hvx => by
      unfold lonA; split
      · rw [dAt_set _ _ _ _ (by omega) hv, if_neg (by omega)]
      · rfl
    have he : dAt (lonA x D a) x = if a.2 = x then max (dAt D x) (dAt D a.1 + 1) else dAt D x := by
      unfold lonA; split
      · rw [dAt_set _ _ _ _ (by omega) h0, if_pos (by omega)]
      · rfl
    have hl : lonX (a :: t) D x = lonX t (lonA x D a) x := rfl
    refine ⟨fun v hv hvx => by rw [hl, ih.1 v hv hvx, hs v hv hvx], ?_⟩
    rw [hl, ih.2, he, List.foldl_cons]
    have hcong : ∀ (t : List Ar) (m : Int), (∀ b ∈ t, okA n b = true) → (∀ b ∈ t, b.2 = x → b.1 ≠ x) → t.foldl (fun m b => if b.2 = x then max m (dAt (lonA x D a) b.1 + 1) else m) m = t.foldl (fun m b => if b.2 = x then max m (dAt D b.1 + 1) else m) m := by
      intro t
      induction t with
      | nil => intro m _ _; rfl
      | cons b u ihu =>
        intro m hb1 hb2
        rw [List.foldl_cons, List.foldl_cons]
        have hk := okA_iff.1 (hb1 b (List.mem_cons_self ..))
        by_cases e : b.2 = x
        · rw [if_pos e, if_pos e, hs b.1 hk.1 (hb2 b (List.mem_cons_self ..) e)]
          exact ihu _ (fun c hc => hb1 c (List.mem_cons_of_mem _ hc)) (fun c hc => hb2 c (List.mem_cons_of_mem _ hc))
        · rw [if_neg e, if_neg e]
          exact ihu _ (fun c hc => hb1 c (List.mem_cons_of_mem _ hc)) (fun c hc => hb2 c (List.mem_cons_of_mem _ hc))
    exact hcong t _ (fun b hb => hok b (List.mem_cons_of_mem _ hb)) (fun b hb => hne b (List.mem_cons_of_mem _ hb))
theorem inMax_cong {l : List Ar} {D D' : List Int} {v : Int} (h : ∀ a ∈ l, a.2 = v → dAt D a.1 = dAt D' a.1) : inMax l D v = inMax l D' v := by
  unfold inMax
  suffices ∀ (l : List Ar) (m : Int), (∀ a ∈ l, a.2 = v → dAt D a.1 = dAt D' a.1) → l.foldl (fun m a => if a.2 = v then max m (dAt D a.1 + 1) else m) m = l.foldl (fun m a => if a.2 = v then max m (dAt D' a.1 + 1) else m) m from this l 0 h
  intro l
  induction l with
  | nil => intro m _; rfl
  | cons a t ih =>
    intro m h
    rw [List.foldl_cons, List.foldl_cons]
    by_cases e : a.2 = v
    · rw [if_pos e, if_pos e, h a (List.mem_cons_self ..) e]; exact ih _ (fun b hb => h b (List.mem_cons_of_mem _ hb))
    · rw [if_neg e, if_neg e]; exact ih _ (fun b hb => h b (List.mem_cons_of_mem _ hb))
theorem dAt_zero (n : Nat) (v : Int) : dAt (List.replicate n 0) v = 0 := by
  unfold dAt
  rw [List.getD_eq_getElem?_getD, List.getElem?_replicate]
  split <;> rfl
/-- The numbers that the reference reckons are what the arcs ask. -/
theorem lon_inv {l : List Ar} {n : Nat} {o : List Int} (h : TopI l n o) (hok : ∀ a ∈ l, okA n a = true) : ∀ k, k ≤ o.length →
    (∀ x ∈ o.take k, dAt (lonF l n (o.take k)) x = inMax l (lonF l n (o.take k)) x) ∧ ∀ x, 0 ≤ x → x ∉ o.take k → dAt (lonF l n (o.take k)) x = 0
  | 0, _ => ⟨fun x hx => by simp at hx, fun x _ _ => by show dAt (List.replicate n 0) x = 0; exact dAt_zero n x⟩
  | k + 1, hk => by
    have hlt : k < o.length := by omega
    obtain ⟨i1, i2⟩ := lon_inv h hok k (by omega)
    have hr := h.range o[k] (List.getElem_mem hlt)
    have hni : o[k] ∉ o.take k := fun q => by
      obtain ⟨i, hi, e⟩ := List.mem_iff_getElem.1 q
      rw [List.length_take] at hi
      rw [List.getElem_take] at e
      have := nodup_idx h.nodup (x := o[k]) (i := i) (j := k) (by rw [List.getElem?_eq_getElem (by omega), e]) (List.getElem?_eq_getElem hlt)
      omega
    have hfrom : ∀ a ∈ l, a.2 = o[k] → a.1 ∈ o.take k := fun a ha e => h.pre k hlt a ha e
    obtain ⟨x1, x2⟩ := lonX_at n o[k] hr.1 hr.2 l (lonF l n (o.take k)) (lonF_len ..) hok (fun a ha e q => hni (q ▸ hfrom a ha e))
    rw [i2 _ hr.1 hni] at x2
    rw [lonF_take hlt]
    have hold : ∀ a ∈ l, ∀ y, a.2 = y → (y ∈ o.take k ∨ y = o[k]) → dAt (lonF l n (o.take k)) a.1 = dAt (lonX l (lonF l n (o.take k)) o[k]) a.1 := fun a ha y e hy => by
      refine (x1 a.1 (okA_iff.1 (hok a ha)).1 (fun q => ?_)).symm
      rcases hy with hy | hy
      · obtain ⟨i, hi, e2⟩ := List.mem_iff_getElem.1 hy
        rw [List.length_take] at hi
        rw [List.getElem_take] at e2
        have := h.pre i (by omega) a ha (e.trans e2.symm)
        obtain ⟨i3, hi3, e3⟩ := List.mem_iff_getElem.1 this
        rw [List.length_take] at hi3
        rw [List.getElem_take] at e3
        have := nodup_idx h.nodup (x := o[k]) (i := i3) (j := k) (by rw [List.getElem?_eq_getElem (by omega), e3, q]) (List.getElem?_eq_getElem hlt)
        omega
      · exact hni (q ▸ hfrom a ha (e.trans hy))
    refine ⟨fun x hx => ?_, fun x h0 hx => ?_⟩
    · rw [List.take_succ_eq_append_getElem hlt, List.mem_append, List.mem_singleton] at hx
      rw [← inMax_cong (fun a ha e => hold a ha x e hx)]
      rcases hx with hx | hx
      · rw [x1 x (h.range x (List.mem_of_mem_take hx)).1 (fun q => hni (q ▸ hx))]; exact i1 x hx
      · subst hx; exact x2
    · rw [List.take_succ_eq_append_getElem hlt, List.mem_append, List.mem_singleton] at hx
      rw [x1 x h0 (fun q => hx (Or.inr q))]
      exact i2 x h0 (fun q => hx (Or.inl q))
theorem lon_max {l : List Ar} {n : Nat} {o : List Int} (h : TopI l n o) (hl : o.length = n) (hok : ∀ a ∈ l, okA n a = true) {x : Int} (h0 : 0 ≤ x) (h1 : x < n) : dAt (lonF l n o) x = inMax l (lonF l n o) x := by
  have := (lon_inv h hok o.length (Nat.le_refl _)).1 x
  rw [List.take_length] at this
  exact this (pig_all h.nodup h.range hl x h0 h1)
/-- What 'as the arcs ask' means. -/
theorem inMax_spec (l : List Ar) (D : List Int) (v : Int) : 0 ≤ inMax l D v ∧ (∀ a ∈ l, a.2 = v → dAt D a.1 + 1 ≤ inMax l D v) ∧ (inMax l D v = 0 ∨ ∃ a ∈ l, a.2 = v ∧ inMax l D v = dAt D a.1 + 1) := by
  unfold inMax
  suffices ∀ (l : List Ar) (m : Int), m ≤ l.foldl (fun m a => if a.2 = v then max m (dAt D a.1 + 1) else m) m ∧ (∀ a ∈ l, a.2 = v → dAt D a.1 + 1 ≤ l.foldl (fun m a => if a.2 = v then max m (dAt D a.1 + 1) else m) m) ∧
      (l.foldl (fun m a => if a.2 = v then max m (dAt D a.1 + 1) else m) m = m ∨ ∃ a ∈ l, a.2 = v ∧ l.foldl (fun m a => if a.2 = v then max m (dAt D a.1 + 1) else m) m = dAt D a.1 + 1) from this l 0
  intro l
  induction l with
  | nil => intro m; exact ⟨Int.le_refl _, (fun a ha => by cases ha), Or.inl rfl⟩
  | cons a t ih =>
    intro m
    rw [List.foldl_cons]
    by_cases e : a.2 = v
    · rw [if_pos e]
      obtain ⟨h1, h2, h3⟩ := ih (max m (dAt D a.1 + 1))
      refine ⟨by omega, fun b hb hbv => ?_, ?_⟩
      · rcases List.mem_cons.1 hb with rfl | hb
        · omega
        · exact h2 b hb hbv
      · rcases h3 with h3 | ⟨b, hb, hbv, h3⟩
        · rcases Int.le_total (dAt D a.1 + 1) m with q | q
          · exact Or.inl (by rw [h3]; omega)
          · exact Or.inr ⟨a, List.mem_cons_self .., e, by rw [h3]; omega⟩
        · exact Or.inr ⟨b, List.mem_cons_of_mem _ hb, hbv, h3⟩
    · rw [if_neg e]
      obtain ⟨h1, h2, h3⟩ := ih m
      refine ⟨h1, fun b hb hbv => ?_, ?_⟩
      · rcases List.mem_cons.1 hb with rfl | hb
        · exact absurd hbv e
        · exact h2 b hb hbv
      · rcases h3 with h3 | ⟨b, hb, hbv, h3⟩
        · exact Or.inl h3
        · exact Or.inr ⟨b, List.mem_cons_of_mem _ hb, hbv, h3⟩
/-- Numbers that are what the arcs ask are those of the reference. -/
theorem lon_uniq {l : List Ar} {n : Nat} {o D : List Int} (h : TopI l n o) (hl : o.length = n) (hok : ∀ a ∈ l, okA n a = true) (hD : D.length = n) (hm : ∀ x : Int, 0 ≤ x → x < n → dAt D x = inMax l D x) : D = lonF l n o := by
  have key : ∀ k (hk : k < o.length), dAt D o[k] = dAt (lonF l n o) o[k] := by
    intro k
    induction k using Nat.strongRecOn with
    | ind k ih =>
      intro hk
      have hr := h.range o[k] (List.getElem_mem hk)
      rw [hm _ hr.1 hr.2, lon_max h hl hok hr.1 hr.2]
      refine inMax_cong fun a ha e => ?_
      obtain ⟨i, hi, e2⟩ := List.mem_iff_getElem.1 (h.pre k hk a ha e)
      rw [List.length_take] at hi
      rw [List.getElem_take] at e2
      rw [← e2]
      exact ih i (by omega) (by omega)
  apply List.ext_getElem
  · rw [hD, lonF_len]
  · intro i h1 h2
    have hi : i < n := by omega
    obtain ⟨k, hk, e⟩ := h.all hl (x := (i : Int)) (by omega) (by omega)
    obtain ⟨hk2, e2⟩ := List.getElem?_eq_some_iff.1 e
    have := key k hk2
    rw [e2] at this
    unfold dAt at this
    simp only [Int.toNat_natCast, List.getD_eq_getElem?_getD] at this
    rwa [List.getElem?_eq_getElem h1, List.getElem?_eq_getElem h2] at this
end Go.Proofs.Ytncedgnpdojkkaa.tpo
