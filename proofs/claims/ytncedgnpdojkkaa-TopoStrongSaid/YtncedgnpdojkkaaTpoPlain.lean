/-
  Plain facts on paths and reachable vertices of digraphs (layer 15). No function of the program is named here; conditions as each theorem states them.
-/
import Derived.Test.YtncedgnpdojkkaaDigPlain
namespace Go.Proofs.Ytncedgnpdojkkaa.tpo
open dig

/-! ### Lists of different numbers in a range -/
theorem drop_len (x : Int) : ∀ {L : List Int}, L.Nodup → L.length ≤ (L.filter fun y => !(y == x)).length + 1
  | [], _ => by simp
  | y :: t, h => by
    obtain ⟨h1, h2⟩ := List.nodup_cons.1 h
    have ih := drop_len x h2
    by_cases e : y = x
    · subst e
      have : (t.filter fun z => !(z == y)) = t := List.filter_eq_self.2 fun z hz => by
        have : z ≠ y := fun q => h1 (q ▸ hz)
        simpa using this
      simp [this]
    · simp [e]; omega
/-- Different numbers from 0 on below n are at most n. -/
theorem pig : ∀ (n : Nat) (L : List Int), L.Nodup → (∀ x ∈ L, 0 ≤ x ∧ x < n) → L.length ≤ n
  | 0, L, _, h => by
    cases L with
    | nil => simp
    | cons x t => have := h x (List.mem_cons_self ..); omega
  | n + 1, L, hn, h => by
    have h1 := drop_len (n : Int) hn
    have h2 := pig n (L.filter fun y => !(y == (n : Int))) (hn.filter _) (fun x hx => by
      obtain ⟨hx, hne⟩ := List.mem_filter.1 hx
      have := h x hx
      have hne : ¬ x = n := by simpa using hne
      omega)
    omega
/-- As many as there can be: each is there. -/
theorem pig_all {n : Nat} {L : List Int} (hn : L.Nodup) (h : ∀ x ∈ L, 0 ≤ x ∧ x < n) (hl : L.length = n) (x : Int) (h0 : 0 ≤ x) (h1 : x < n) : x ∈ L := by
  by_cases hx : x ∈ L
  · exact hx
  · have := pig n (x :: L) (List.nodup_cons.2 ⟨hx, hn⟩) (fun y hy => by
      rcases List.mem_cons.1 hy with rfl | hy
      · exact ⟨h0, h1⟩
      · exact h y hy)
    rw [List.length_cons] at this
    omega

/-! ### Paths -/
inductive Path (l : List Ar) : Int → Int → Prop
  | refl (u : Int) : Path l u u
  | tail {u v w : Int} (h : Path l u v) (ha : (v, w) ∈ l) : Path l u w
theorem Path.trans {l : List Ar} {u v w : Int} (h1 : Path l u v) (h2 : Path l v w) : Path l u w := by
  induction h2 with
  | refl => exact h1
  | tail _ ha ih => exact ih.tail ha
theorem Path.range {l : List Ar} {n : Int} (hok : ∀ a ∈ l, okA n a = true) {u v : Int} (h : Path l u v) (h0 : 0 ≤ u) (h1 : u < n) : 0 ≤ v ∧ v < n := by
  induction h with
  | refl => exact ⟨h0, h1⟩
  | tail _ ha _ => have := okA_iff.1 (hok _ ha); exact ⟨this.2.2.1, this.2.2.2⟩

/-! ### Marks that spread along arcs -/
def mk (I : List Bool) (u : Nat) : Bool := I.getD u false
theorem mk_set (I : List Bool) (k u : Nat) (h : k < I.length) : mk (I.set k true) u = (decide (u = k) || mk I u) := by
  unfold mk
  rw [List.getD_eq_getElem?_getD, List.getD_eq_getElem?_getD, List.getElem?_set]
  by_cases e : k = u
  · subst e; simp [h]
  · rw [if_neg e]; simp [Ne.symm e]
def relax (I : List Bool) (a : Ar) : List Bool := if mk I a.1.toNat = true then I.set a.2.toNat true else I
def roundR (l : List Ar) (I : List Bool) : List Bool := l.foldl relax I
def roundsR (l : List Ar) : Nat → List Bool → List Bool
  | 0, I => I
  | k + 1, I => roundR l (roundsR l k I)
theorem relax_len (I : List Bool) (a : Ar) : (relax I a).length = I.length := by
  unfold relax; split
  · simp
  · rfl
theorem round_len : ∀ (l : List Ar) (I : List Bool), (roundR l I).length = I.length
  | [], _ => rfl
  | a :: t, I => by
    show (roundR t (relax I a)).length = _
    rw [round_len t, relax_len]
theorem rounds_len (l : List Ar) (I : List Bool) : ∀ k, (roundsR l k I).length = I.length
  | 0 => rfl
  | k + 1 => by rw [roundsR, round_len, rounds_len l I k]
theorem round_take {l : List Ar} {k : Nat} (hk : k < l.length) (I : List Bool) : roundR (l.take (k + 1)) I = relax (roundR (l.take k) I) l[k] := by
  unfold roundR
  rw [List.take_succ_eq_append_getElem hk, List.foldl_append]; rfl
theorem relax_mono {I : List Bool} {a : Ar} {u : Nat} (h : mk I u = true) : mk (relax I a) u = true := by
  unfold relax
  split
  · by_cases hk : a.2.toNat < I.length
    · rw [mk_set _ _ _ hk, h, Bool.or_true]
    · rw [List.set_eq_of_length_le (by omega)]; exact h
  · exact h
theorem round_mono {u : Nat} : ∀ {l : List Ar} {I : List Bool}, mk I u = true → mk (roundR l I) u = true
  | [], _, h => h
  | a :: t, I, h => by
    show mk (roundR t (relax I a)) u = true
    exact round_mono (relax_mono h)
theorem rounds_mono {l : List Ar} {I : List Bool} {u : Nat} (h : mk I u = true) : ∀ k, mk (roundsR l k I) u = true
  | 0 => h
  | k + 1 => round_mono (rounds_mono h k)
/-- Marks are set only where a path leads. -/
theorem round_sound {L : List Ar} {n : Int} {v : Int} (hok : ∀ a ∈ L, okA n a = true) : ∀ {l : List Ar} {I : List Bool}, (∀ a ∈ l, a ∈ L) → (∀ u : Nat, mk I u = true → Path L v u) → ∀ u : Nat, mk (roundR l I) u = true → Path L v u
  | [], _, _, h, u, hu => h u hu
  | a :: t, I, hl, h, u, hu => by
    refine round_sound hok (l := t) (I := relax I a) (fun b hb => hl b (List.mem_cons_of_mem _ hb)) (fun w hw => ?_) u hu
    unfold relax at hw
    split at hw
    · rename_i hm
      have ha := hl a (List.mem_cons_self ..)
      obtain ⟨q0, q1, q2, q3⟩ := okA_iff.1 (hok a ha)
      by_cases hk : a.2.toNat < I.length
      · rw [mk_set _ _ _ hk, Bool.or_eq_true, decide_eq_true_eq] at hw
        rcases hw with rfl | hw
        · have h1 := h _ hm
          rw [Int.toNat_of_nonneg q0] at h1
          rw [Int.toNat_of_nonneg q2]
          exact h1.tail ha
        · exact h w hw
      · rw [List.set_eq_of_length_le (by omega)] at hw; exact h w hw
    · exact h w hw
theorem rounds_sound {L : List Ar} {n : Int} {v : Int} (hok : ∀ a ∈ L, okA n a = true) {I : List Bool} (h : ∀ u : Nat, mk I u = true → Path L v u) : ∀ (k u : Nat), mk (roundsR L k I) u = true → Path L v u
  | 0, u, hu => h u hu
  | k + 1, u, hu => round_sound hok (fun _ ha => ha) (rounds_sound hok h k) u hu
/-- More marks are counted as more. -/
theorem count_mono : ∀ {I J : List Bool}, I.length = J.length → (∀ u, mk I u = true → mk J u = true) → I.count true ≤ J.count true ∧ (I.count true = J.count true → I = J)
  | [], [], _, _ => ⟨Nat.le_refl _, fun _ => rfl⟩
  | [], _ :: _, h, _ => by simp at h
  | _ :: _, [], h, _ => by simp at h
  | a :: t, b :: u, h, hm => by
    have ih := count_mono (I := t) (J := u) (by simpa using h) (fun k hk => by have := hm (k + 1); unfold mk at this hk ⊢; simpa using this (by simpa using hk))
    have h0 := hm 0
    unfold mk at h0
    simp only [List.getD_cons_zero] at h0
    cases a <;> cases b <;> simp at h0 ⊢
    · exact ih
    · exact ⟨by omega, by omega⟩
    · exact ⟨ih.1, fun e => ih.2 e⟩
/-- A round that changes nothing: the marks are closed along arcs. -/
theorem round_fixed {l : List Ar} {I : List Bool} (h : roundR l I = I) {n : Nat} (hn : I.length = n) (hok : ∀ a ∈ l, okA n a = true) {a : Ar} (ha : a ∈ l) (hm : mk I a.1.toNat = true) : mk I a.2.toNat = true := by
  obtain ⟨l1, l2, rfl⟩ := List.append_of_mem ha
  have h2 := h
  unfold roundR at h2
  rw [List.foldl_append, List.foldl_cons] at h2
  have hP : mk (roundR l1 I) a.1.toNat = true := round_mono hm
  have hk := okA_iff.1 (hok a ha)
  have hR : mk (relax (roundR l1 I) a) a.2.toNat = true := by
    unfold relax
    rw [if_pos hP, mk_set _ _ _ (by rw [round_len]; omega)]
    simp
  have h3 : mk (roundR l2 (relax (roundR l1 I) a)) a.2.toNat = true := round_mono hR
  have e : roundR l2 (relax (roundR l1 I) a) = I := h2
  rw [e] at h3
  exact h3
theorem rounds_grow (l : List Ar) (I : List Bool) (h0 : 1 ≤ I.count true) : ∀ k, roundR l (roundsR l k I) = roundsR l k I ∨ k + 1 ≤ (roundsR l k I).count true
  | 0 => Or.inr h0
  | k + 1 => by
    by_cases e : roundR l (roundsR l k I) = roundsR l k I
    · left; rw [roundsR, e, e]
    · right
      have ih := (rounds_grow l I h0 k).resolve_left e
      have hc := count_mono (I := roundsR l k I) (J := roundR l (roundsR l k I)) (round_len ..).symm (fun u hu => round_mono hu)
      rw [roundsR]
      rcases Nat.lt_or_ge ((roundsR l k I).count true) ((roundR l (roundsR l k I)).count true) with q | q
      · omega
      · exact absurd (hc.2 (by omega)).symm e
theorem rounds_done (l : List Ar) (I : List Bool) (h0 : 1 ≤ I.count true) : roundR l (roundsR l I.length I) = roundsR l I.length I := by
  rcases rounds_grow l I h0 I.length with q | q
  · exact q
  · have : (roundsR l I.length I).count true ≤ (roundsR l I.length I).length := List.count_le_length
    rw [rounds_len] at this
    omega
/-- The marks of what v reaches. -/
def rchI (n : Nat) (l : List Ar) (v : Nat) : List Bool := roundsR l n ((List.replicate n false).set v true)
theorem mk_zero (n u : Nat) : mk (List.replicate n false) u = false := by
  unfold mk
  rw [List.getD_eq_getElem?_getD, List.getElem?_replicate]
  split <;> rfl
theorem rch_len (n : Nat) (l : List Ar) (v : Nat) : (rchI n l v).length = n := by
  unfold rchI; rw [rounds_len]; simp
theorem rch_iff {n v : Nat} {l : List Ar} (hok : ∀ a ∈ l, okA n a = true) (hv : v < n) (u : Nat) : mk (rchI n l v) u = true ↔ Path l v u := by
  have hs : ∀ u : Nat, mk ((List.replicate n false).set v true) u = decide (u = v) := fun u => by
    rw [mk_set _ _ _ (by simpa using hv), mk_zero, Bool.or_false]
  have hlen : ((List.replicate n false).set v true).length = n := by simp
  have hstart : mk ((List.replicate n false).set v true) v = true := by rw [hs]; simp
  constructor
  · exact rounds_sound hok (fun w hw => by rw [hs, decide_eq_true_eq] at hw; subst hw; exact .refl _) n u
  · intro h
    have hcnt : 1 ≤ ((List.replicate n false).set v true).count true := by
      rcases Nat.eq_zero_or_pos (((List.replicate n false).set v true).count true) with q | q
      · exfalso
        rw [List.count_eq_zero] at q
        apply q
        unfold mk at hstart
        rw [List.getD_eq_getElem?_getD, List.getElem?_eq_getElem (by rw [hlen]; exact hv)] at hstart
        have hx := List.getElem_mem (l := (List.replicate n false).set v true) (n := v) (by rw [hlen]; exact hv)
        rw [show ((List.replicate n false).set v true)[v]'(by rw [hlen]; exact hv) = true from hstart] at hx
        exact hx
      · exact q
    have hfix := rounds_done l _ hcnt
    rw [hlen] at hfix
    have hcl : ∀ {x y : Int}, Path l x y → x = v → mk (rchI n l v) y.toNat = true := by
      intro x y hp
      induction hp with
      | refl => intro e; subst e; exact rounds_mono hstart n
      | tail _ ha ih => intro e; exact round_fixed hfix (by rw [rounds_len, hlen]) hok ha (ih e)
    have := hcl h rfl
    simpa using this

/-! ### Reach -/
/-- The marked numbers, ascending. -/
def upTo (I : List Bool) (n : Nat) : List Int := ((List.range n).filter fun u => mk I u).map fun u : Nat => (u : Int)
theorem up_succ (I : List Bool) (n : Nat) : upTo I (n + 1) = upTo I n ++ (if mk I n = true then [(n : Int)] else []) := by
  unfold upTo
  rw [List.range_succ, List.filter_append, List.map_append]
  congr 1
  cases h : mk I n <;> simp [h]
theorem up_len (I : List Bool) (n : Nat) : (upTo I n).length ≤ n := by
  unfold upTo
  rw [List.length_map]
  exact Nat.le_trans (List.length_filter_le ..) (by simp)
theorem up_mem {I : List Bool} {n : Nat} {x : Int} : x ∈ upTo I n ↔ 0 ≤ x ∧ x < n ∧ mk I x.toNat = true := by
  unfold upTo
  simp only [List.mem_map, List.mem_filter, List.mem_range]
  constructor
  · rintro ⟨u, ⟨h1, h2⟩, rfl⟩; exact ⟨by omega, by omega, by simpa using h2⟩
  · rintro ⟨h1, h2, h3⟩
    obtain ⟨u, rfl⟩ := Int.eq_ofNat_of_zero_le h1
    exact ⟨u, ⟨by omega, by simpa using h3⟩, rfl⟩
def rchV (n : Int) (l : List Ar) (v : Int) : List Int := if (validD n l && decide (0 ≤ v) && decide (v < n)) = true then upTo (rchI n.toNat l v.toNat) n.toNat else []
theorem rch_mem {n v x : Int} {l : List Ar} (hv : validD n l = true) (h0 : 0 ≤ v) (h1 : v < n) : x ∈ rchV n l v ↔ 0 ≤ x ∧ x < n ∧ Path l v x := by
  obtain ⟨hn, -, -, hok⟩ := validD_iff.1 hv
  obtain ⟨m, rfl⟩ := Int.eq_ofNat_of_zero_le hn
  obtain ⟨k, rfl⟩ := Int.eq_ofNat_of_zero_le h0
  unfold rchV
  rw [if_pos (by rw [hv, decide_eq_true h0, decide_eq_true h1]; rfl), up_mem]
  constructor
  · rintro ⟨q0, q1, q2⟩
    obtain ⟨j, rfl⟩ := Int.eq_ofNat_of_zero_le q0
    have := (rch_iff hok (by simpa using h1) _).1 q2
    exact ⟨q0, by simpa using q1, by simpa using this⟩
  · rintro ⟨q0, q1, q2⟩
    obtain ⟨j, rfl⟩ := Int.eq_ofNat_of_zero_le q0
    refine ⟨q0, by simpa using q1, ?_⟩
    have := (rch_iff (v := k) hok (by simpa using h1) j).2 q2
    simpa using this
theorem rch_len_le (n : Int) (l : List Ar) (v : Int) : (rchV n l v).length ≤ n.toNat := by
  unfold rchV; split
  · exact up_len ..
  · simp
/-- The marked numbers ascend. -/
theorem up_asc (I : List Bool) : ∀ n : Nat, (upTo I n).Pairwise (· < ·)
  | 0 => by unfold upTo; exact List.Pairwise.nil
  | n + 1 => by
    rw [up_succ]
    refine List.pairwise_append.2 ⟨up_asc I n, ?_, fun a ha b hb => ?_⟩
    · split
      · exact List.pairwise_singleton ..
      · exact List.Pairwise.nil
    · split at hb
      · rw [List.mem_singleton] at hb; subst hb; exact (up_mem.1 ha).2.1
      · cases hb
end Go.Proofs.Ytncedgnpdojkkaa.tpo
