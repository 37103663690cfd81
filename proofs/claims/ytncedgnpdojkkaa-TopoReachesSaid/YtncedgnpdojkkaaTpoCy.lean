/-
  Plain facts on how the landed code of layer 15 finds longest paths: along the order, from each vertex to the heads of its arcs. No function of the program is named here; conditions as each theorem states them.
-/
import Derived.Test.YtncedgnpdojkkaaTpoCv
namespace Go.Proofs.Ytncedgnpdojkkaa.tpo
open dig

def pushA (c : Int) (D : List Int) (u : Int) : List Int := D.set u.toNat (max (dAt D u) (dAt D c + 1))
def pushL (c : Int) (us D : List Int) : List Int := us.foldl (pushA c) D
def pushF (l : List Ar) (n : Nat) (o : List Int) : List Int := o.foldl (fun D c => pushL c (outs l c) D) (List.replicate n 0)
theorem pushL_len (c : Int) : ∀ (us D : List Int), (pushL c us D).length = D.length
  | [], _ => rfl
  | u :: t, D => by show (pushL c t (pushA c D u)).length = _; rw [pushL_len c t]; unfold pushA; simp
theorem pushL_take {c : Int} {D us : List Int} {j : Nat} {u : Int} (h : us[j]? = some u) : pushL c (us.take (j + 1)) D = pushA c (pushL c (us.take j) D) u := by
  obtain ⟨hj, e⟩ := List.getElem?_eq_some_iff.1 h
  unfold pushL
  rw [List.take_succ_eq_append_getElem hj, List.foldl_append, e]; rfl
theorem pushF_take {l : List Ar} {n k : Nat} {o : List Int} {c : Int} (h : o[k]? = some c) : pushF l n (o.take (k + 1)) = pushL c (outs l c) (pushF l n (o.take k)) := by
  obtain ⟨hj, e⟩ := List.getElem?_eq_some_iff.1 h
  unfold pushF
  rw [List.take_succ_eq_append_getElem hj, List.foldl_append, e]; rfl
theorem pushF_len (l : List Ar) (n : Nat) (o : List Int) : (pushF l n o).length = n := by
  unfold pushF
  suffices ∀ (o : List Int) (D : List Int), (o.foldl (fun D c => pushL c (outs l c) D) D).length = D.length by rw [this]; simp
  intro o
  induction o with
  | nil => intro D; rfl
  | cons x t ih => intro D; rw [List.foldl_cons, ih, pushL_len]
theorem push_at (c : Int) (hc : 0 ≤ c) : ∀ (us D : List Int) (x : Int), (∀ u ∈ us, 0 ≤ u ∧ u < D.length) → c ∉ us → 0 ≤ x → dAt (pushL c us D) x = if x ∈ us then max (dAt D x) (dAt D c + 1) else dAt D x
  | [], D, x, _, _, _ => by rw [if_neg (by simp)]; rfl
  | u :: t, D, x, hu, hn, hx => by
    show dAt (pushL c t (pushA c D u)) x = _
    have h1 := hu u (List.mem_cons_self ..)
    have hcu : c ≠ u := fun e => hn (e ▸ List.mem_cons_self ..)
    have hct : c ∉ t := fun q => hn (List.mem_cons_of_mem _ q)
    rw [push_at c hc t (pushA c D u) x (fun y hy => by unfold pushA; rw [List.length_set]; exact hu y (List.mem_cons_of_mem _ hy)) hct hx]
    have hDc : dAt (pushA c D u) c = dAt D c := by
      unfold pushA; rw [dAt_set _ _ _ _ (by omega) hc, if_neg (by omega)]
    have hDx : dAt (pushA c D u) x = if x = u then max (dAt D u) (dAt D c + 1) else dAt D x := by
      unfold pushA; rw [dAt_set _ _ _ _ (by omega) hx]
      by_cases e : x = u
      · rw [if_pos (by omega), if_pos e]
      · rw [if_neg (by omega), if_neg e]
    rw [hDc, hDx]
    by_cases e : x = u
    · subst e
      rw [if_pos rfl, if_pos (List.mem_cons_self ..)]
      split <;> omega
    · rw [if_neg e]
      by_cases q : x ∈ t
      · rw [if_pos q, if_pos (List.mem_cons_of_mem _ q)]
      · rw [if_neg q, if_neg (fun z => (List.mem_cons.1 z).elim e q)]
theorem inMax_uniq {l : List Ar} {D : List Int} {v M : Int} (h0 : 0 ≤ M) (h1 : ∀ a ∈ l, a.2 = v → dAt D a.1 + 1 ≤ M) (h2 : M = 0 ∨ ∃ a ∈ l, a.2 = v ∧ M = dAt D a.1 + 1) : M = inMax l D v := by
  obtain ⟨q0, q1, q2⟩ := inMax_spec l D v
  rcases h2 with h2 | ⟨a, ha, e, h2⟩
  · rcases q2 with q2 | ⟨b, hb, e2, q2⟩
    · omega
    · have := h1 b hb e2; omega
  · have := q1 a ha e
    rcases q2 with q2 | ⟨b, hb, e2, q2⟩
    · omega
    · have := h1 b hb e2; omega
theorem top_noself {l : List Ar} {n k : Nat} {o : List Int} {c : Int} (h : TopI l n o) (hk : o[k]? = some c) : ∀ i, i ≤ k → ∀ x, o[i]? = some x → x ∉ outs l c := by
  intro i hi x hx hm
  obtain ⟨j, hj, hjc⟩ := h.fwd (outs_mem.1 hm) hx
  have := nodup_idx h.nodup hjc hk
  omega
theorem push_rng {l : List Ar} {n : Nat} {o : List Int} (h : TopI l n o) (hok : ∀ a ∈ l, okA (n : Int) a = true) : ∀ k, k ≤ o.length → ∀ x : Int, 0 ≤ x → 0 ≤ dAt (pushF l n (o.take k)) x ∧ dAt (pushF l n (o.take k)) x ≤ k
  | 0, _, x, _ => by rw [List.take_zero, show pushF l n [] = List.replicate n 0 from rfl, dAt_zero]; exact ⟨Int.le_refl _, Int.le_refl _⟩
  | k + 1, hk, x, hx => by
    have hkl : k < o.length := hk
    obtain ⟨c, hc⟩ : ∃ c, o[k]? = some c := ⟨_, List.getElem?_eq_getElem hkl⟩
    have hcm : c ∈ o := List.mem_of_getElem? hc
    have hcr := h.range c hcm
    rw [pushF_take hc, push_at c hcr.1 _ _ _ (fun u hu => by rw [pushF_len]; exact outs_rng hok hu) (top_noself h hc k (Nat.le_refl _) c hc) hx]
    have h1 := push_rng h hok k (by omega) x hx
    have h2 := push_rng h hok k (by omega) c hcr.1
    split <;> omega
theorem push_inv {l : List Ar} {n : Nat} {o : List Int} (h : TopI l n o) (hok : ∀ a ∈ l, okA (n : Int) a = true) : ∀ k, k ≤ o.length → ∀ x : Int, 0 ≤ x → x < n → dAt (pushF l n (o.take k)) x = inMax (l.filter fun a => (o.take k).contains a.1) (pushF l n (o.take k)) x
  | 0, _, x, _, _ => by
    rw [List.take_zero]
    rw [show (l.filter fun a => ([] : List Int).contains a.1) = [] by rw [List.filter_eq_nil_iff]; intro a _; simp]
    show dAt (List.replicate n 0) x = _
    rw [dAt_zero]; rfl
  | k + 1, hk, x, hx0, hx1 => by
    have hkl : k < o.length := hk
    obtain ⟨c, hc⟩ : ∃ c, o[k]? = some c := ⟨_, List.getElem?_eq_getElem hkl⟩
    have hcm : c ∈ o := List.mem_of_getElem? hc
    have hcr := h.range c hcm
    have hns := top_noself h hc
    have hcc := hns k (Nat.le_refl _) c hc
    obtain ⟨D, hD⟩ : ∃ D, pushF l n (o.take k) = D := ⟨_, rfl⟩
    have hDl : D.length = n := by rw [← hD, pushF_len]
    have hat : ∀ y : Int, 0 ≤ y → dAt (pushL c (outs l c) D) y = if y ∈ outs l c then max (dAt D y) (dAt D c + 1) else dAt D y := fun y hy => push_at c hcr.1 _ _ _ (fun u hu => by rw [hDl]; exact outs_rng hok hu) hcc hy
    have hin : ∀ y, y ∈ o.take (k + 1) → 0 ≤ y → dAt (pushL c (outs l c) D) y = dAt D y := fun y hy h0 => by
      obtain ⟨i, hi, e⟩ := List.mem_iff_getElem.1 hy
      rw [List.length_take] at hi
      rw [hat y h0, if_neg (hns i (by omega) y (by rw [List.getElem?_eq_getElem (by omega), ← e, List.getElem_take]))]
    have ih := push_inv h hok k (by omega) x hx0 hx1
    rw [hD] at ih
    rw [pushF_take hc, hD]
    obtain ⟨s0, s1, s2⟩ := inMax_spec (l.filter fun a => (o.take k).contains a.1) D x
    rw [← ih] at s0 s1 s2
    have hmt : ∀ y, y ∈ o.take k → y ∈ o.take (k + 1) := fun y hy => by
      rw [List.take_succ_eq_append_getElem hkl]; exact List.mem_append_left _ hy
    have hck : c ∈ o.take (k + 1) := by
      rw [List.take_succ_eq_append_getElem hkl, ← Option.some.inj ((List.getElem?_eq_getElem hkl).symm.trans hc)]; exact List.mem_append_right _ (List.mem_singleton.2 rfl)
    have hax := hat x hx0
    refine inMax_uniq ?_ (fun a ha e => ?_) ?_
    · rw [hax]; split <;> omega
    · obtain ⟨ha1, ha2⟩ := List.mem_filter.1 ha
      have ha2 := List.contains_iff_mem.1 ha2
      have ha0 := (okA_iff.1 (hok a ha1)).1
      rw [hin a.1 ha2 ha0, hax]
      rw [List.take_succ_eq_append_getElem hkl] at ha2
      rcases List.mem_append.1 ha2 with q | q
      · have := s1 a (List.mem_filter.2 ⟨ha1, List.contains_iff_mem.2 q⟩) e
        split <;> omega
      · rw [List.mem_singleton, Option.some.inj ((List.getElem?_eq_getElem hkl).symm.trans hc)] at q
        have hxo : x ∈ outs l c := outs_mem.2 (by rw [← q, ← e]; exact ha1)
        rw [if_pos hxo, q]; omega
    · rw [hax]
      have hold : dAt D x = 0 ∨ ∃ a ∈ l.filter (fun a => (o.take (k + 1)).contains a.1), a.2 = x ∧ dAt D x = dAt (pushL c (outs l c) D) a.1 + 1 := by
        rcases s2 with s2 | ⟨a, ha, e, s2⟩
        · exact Or.inl s2
        · obtain ⟨ha1, ha2⟩ := List.mem_filter.1 ha
          have ha2 := List.contains_iff_mem.1 ha2
          exact Or.inr ⟨a, List.mem_filter.2 ⟨ha1, List.contains_iff_mem.2 (hmt _ ha2)⟩, e, by rw [hin a.1 (hmt _ ha2) (okA_iff.1 (hok a ha1)).1]; exact s2⟩
      by_cases hxo : x ∈ outs l c
      · rw [if_pos hxo]
        rcases Int.le_total (dAt D c + 1) (dAt D x) with q | q
        · rw [Int.max_eq_left q]; exact hold
        · rw [Int.max_eq_right q]
          exact Or.inr ⟨(c, x), List.mem_filter.2 ⟨outs_mem.1 hxo, List.contains_iff_mem.2 hck⟩, rfl, by rw [hin c hck hcr.1]⟩
      · rw [if_neg hxo]; exact hold
theorem push_lon {l : List Ar} {n : Nat} {o : List Int} (h : TopI l n o) (hl : o.length = n) (hok : ∀ a ∈ l, okA (n : Int) a = true) : pushF l n o = lonF l n o := by
  refine lon_uniq h hl hok (pushF_len l n o) fun x h0 h1 => ?_
  have := push_inv h hok o.length (Nat.le_refl _) x h0 h1
  rw [List.take_length] at this
  rw [show (l.filter fun a => o.contains a.1) = l from List.filter_eq_self.2 fun a ha => by
    obtain ⟨i, -, hi⟩ := h.all hl (okA_iff.1 (hok a ha)).1 (okA_iff.1 (hok a ha)).2.1
    exact List.contains_iff_mem.2 (List.mem_of_getElem? hi)] at this
  exact this
end Go.Proofs.Ytncedgnpdojkkaa.tpo
