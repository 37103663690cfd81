/-
  Plain facts on how the landed code of layer 15 finds the least order: counts of the arcs that still wait. No function of the program is named here; conditions as each theorem states them.
-/
import Derived.Test.YtncedgnpdojkkaaTpoCp
namespace Go.Proofs.Ytncedgnpdojkkaa.tpo
open dig

theorem dAt_ext {I J : List Int} (hl : I.length = J.length) (h : ∀ u : Nat, u < I.length → dAt I (u : Int) = dAt J (u : Int)) : I = J := by
  refine List.ext_getElem hl fun u h1 h2 => ?_
  have := h u h1
  unfold dAt at this
  rw [Int.toNat_natCast, List.getD_eq_getElem?_getD, List.getD_eq_getElem?_getD, List.getElem?_eq_getElem h1, List.getElem?_eq_getElem h2] at this
  exact this
/-- What a vertex waits for: the arcs to it from vertices that are not listed; -1 behind its turn. -/
def wtA (l : List Ar) (done : List Int) (u : Int) : Int := if done.contains u = true then -1 else ((l.countP fun a => a.2 == u && !done.contains a.1 : Nat) : Int)
def wtL (l : List Ar) (n : Nat) (done : List Int) : List Int := (List.range n).map fun u : Nat => wtA l done (u : Int)
theorem wtL_len (l : List Ar) (n : Nat) (done : List Int) : (wtL l n done).length = n := by unfold wtL; simp
theorem wtL_at {l : List Ar} {n u : Nat} {done : List Int} (h : u < n) : dAt (wtL l n done) (u : Int) = wtA l done (u : Int) := by
  unfold wtL dAt
  rw [Int.toNat_natCast, List.getD_eq_getElem?_getD, List.getElem?_map, List.getElem?_range h]; rfl
theorem wtA_rng (l : List Ar) (done : List Int) (u : Int) : -1 ≤ wtA l done u ∧ wtA l done u ≤ l.length := by
  have : (l.countP fun a => a.2 == u && !done.contains a.1) ≤ l.length := List.countP_le_length
  unfold wtA; split <;> omega
theorem wtL_nil (n : Nat) : wtL [] n [] = List.replicate n 0 := by
  refine dAt_ext (by rw [wtL_len]; simp) fun u hu => ?_
  rw [wtL_len] at hu
  rw [wtL_at hu, dAt_zero]; rfl
theorem wt_step0 {l : List Ar} {n k t : Nat} (hk : k < l.length) (ht : l[k].2 = (t : Int)) (htn : t < n) : wtL (l.take (k + 1)) n [] = (wtL (l.take k) n []).set t (dAt (wtL (l.take k) n []) (t : Int) + 1) := by
  refine dAt_ext (by rw [List.length_set, wtL_len, wtL_len]) fun u hu => ?_
  rw [wtL_len] at hu
  rw [wtL_at hu, dAt_set _ _ _ _ (by rw [wtL_len]; exact htn) (by omega), wtL_at hu, wtL_at htn]
  unfold wtA
  simp only [List.contains_nil, Bool.not_false, Bool.and_true, Bool.false_eq_true, if_false]
  rw [List.take_succ_eq_append_getElem hk, List.countP_append, List.countP_singleton, ht]
  by_cases e : (u : Int) = t
  · rw [if_pos (by rw [beq_iff_eq]; exact e.symm), if_pos e, e]; push_cast; rfl
  · rw [if_neg (by rw [beq_iff_eq]; exact Ne.symm e), if_neg e]; simp
theorem wt_zero {l : List Ar} {done : List Int} {u : Int} : wtA l done u = 0 ↔ freeB l done u = true := by
  rw [free_iff]
  unfold wtA
  by_cases h : done.contains u = true
  · rw [if_pos h]
    exact ⟨fun q => absurd q (by decide), fun q => absurd (List.contains_iff_mem.1 h) q.1⟩
  · rw [if_neg h]
    have h2 : u ∉ done := fun q => h (List.contains_iff_mem.2 q)
    rw [show ((((l.countP fun a => a.2 == u && !done.contains a.1) : Nat) : Int) = 0) ↔ (l.countP fun a => a.2 == u && !done.contains a.1) = 0 by omega, List.countP_eq_zero]
    constructor
    · intro q
      refine ⟨h2, fun a ha e => ?_⟩
      have := q a ha
      rw [Bool.and_eq_true, beq_iff_eq, Bool.not_eq_true', ← Bool.not_eq_true, List.contains_iff_mem] at this
      exact Classical.byContradiction fun hn => this ⟨e, hn⟩
    · rintro ⟨-, q⟩ a ha hh
      rw [Bool.and_eq_true, beq_iff_eq, Bool.not_eq_true', ← Bool.not_eq_true, List.contains_iff_mem] at hh
      exact hh.2 (q a ha hh.1)
theorem place_next (l : List Ar) (done : List Int) : ∀ r k, placeI ((List.range' k r).map fun u : Nat => wtA l done (u : Int)) 0 k = if nextV l done r k < k + r then ((nextV l done r k : Nat) : Int) else -1
  | 0, k => by rw [List.range'_zero, List.map_nil, placeI, nextV, if_neg (by omega)]
  | r + 1, k => by
    rw [List.range'_succ, List.map_cons, placeI, nextV, place_next l done r (k + 1)]
    by_cases h : freeB l done (k : Int) = true
    · rw [if_pos (wt_zero.2 h), if_pos h, if_pos (by omega)]
    · rw [if_neg (fun q => h (wt_zero.1 q)), if_neg h, show k + 1 + r = k + (r + 1) by omega]
theorem place_wt (l : List Ar) (n : Nat) (done : List Int) : placeI (wtL l n done) 0 0 = if nextV l done n 0 < n then ((nextV l done n 0 : Nat) : Int) else -1 := by
  unfold wtL
  rw [List.range_eq_range', place_next, Nat.zero_add]
def decA (D : List Int) (u : Int) : List Int := D.set u.toNat (dAt D u - 1)
def decL (D us : List Int) : List Int := us.foldl decA D
theorem decL_take {D us : List Int} {j : Nat} {u : Int} (h : us[j]? = some u) : decL D (us.take (j + 1)) = decA (decL D (us.take j)) u := by
  obtain ⟨hj, e⟩ := List.getElem?_eq_some_iff.1 h
  unfold decL
  rw [List.take_succ_eq_append_getElem hj, List.foldl_append, e]; rfl
theorem decL_len : ∀ (us D : List Int), (decL D us).length = D.length
  | [], _ => rfl
  | u :: t, D => by show (decL (decA D u) t).length = _; rw [decL_len t]; unfold decA; simp
theorem decL_at : ∀ (us D : List Int) (x : Int), (∀ u ∈ us, 0 ≤ u ∧ u < D.length) → 0 ≤ x → dAt (decL D us) x = dAt D x - (us.count x : Nat)
  | [], D, x, _, _ => by show dAt D x = _; simp
  | u :: t, D, x, hu, hx => by
    show dAt (decL (decA D u) t) x = _
    have h1 := hu u (List.mem_cons_self ..)
    rw [decL_at t (decA D u) x (fun y hy => by unfold decA; rw [List.length_set]; exact hu y (List.mem_cons_of_mem _ hy)) hx]
    unfold decA
    rw [dAt_set _ _ _ _ (by omega) hx, List.count_cons]
    by_cases e : x = u
    · subst e
      rw [if_pos (by omega), if_pos (by simp)]; omega
    · rw [if_neg (by omega), if_neg (by rw [beq_iff_eq]; exact Ne.symm e)]; omega
theorem outs_count (l : List Ar) (v x : Int) : (outs l v).count x = l.countP fun a => a.1 == v && a.2 == x := by
  unfold outs
  rw [List.count_eq_countP, List.countP_map, List.countP_filter]
  refine List.countP_congr fun a _ => ?_
  simp only [Function.comp]
  rw [Bool.and_comm]
theorem count_part (l : List Ar) (done : List Int) (v x : Int) (hv : v ∉ done) : (l.countP fun a => a.2 == x && !done.contains a.1) = (l.countP fun a => a.2 == x && !(done ++ [v]).contains a.1) + l.countP fun a => a.1 == v && a.2 == x := by
  induction l with
  | nil => rfl
  | cons a t ih =>
    rw [List.countP_cons, List.countP_cons, List.countP_cons, ih]
    have hc : (done ++ [v]).contains a.1 = (done.contains a.1 || a.1 == v) := by
      rw [Bool.eq_iff_iff, Bool.or_eq_true, List.contains_iff_mem, List.mem_append, List.mem_singleton, List.contains_iff_mem, beq_iff_eq]
    rw [hc]
    by_cases e : a.1 = v
    · have h1 : done.contains a.1 = false := by rw [Bool.eq_false_iff]; exact fun q => hv (e ▸ List.contains_iff_mem.1 q)
      have h2 : (a.1 == v) = true := by rw [beq_iff_eq]; exact e
      rw [h1, h2]
      cases h3 : (a.2 == x) <;> simp <;> omega
    · have h2 : (a.1 == v) = false := by rw [beq_eq_false_iff_ne]; exact e
      rw [h2, Bool.or_false, Bool.false_and]
      simp; omega
theorem wt_step {l : List Ar} {n : Nat} {done : List Int} {v : Nat} (ht : TopI l n done) (hok : ∀ a ∈ l, okA (n : Int) a = true) (hf : freeB l done (v : Int) = true) (hv : v < n) :
    decL ((wtL l n done).set v (-1)) (outs l (v : Int)) = wtL l n (done ++ [(v : Int)]) := by
  obtain ⟨q1, q2⟩ := free_iff.1 hf
  refine dAt_ext (by rw [decL_len, List.length_set, wtL_len, wtL_len]) fun x hx => ?_
  rw [decL_len, List.length_set, wtL_len] at hx
  rw [decL_at _ _ _ (fun u hu => by rw [List.length_set, wtL_len]; exact outs_rng hok hu) (by omega), dAt_set _ _ _ _ (by rw [wtL_len]; exact hv) (by omega), wtL_at hx, wtL_at hx, outs_count]
  have hz : ((x : Int) ∈ done ∨ (x : Int) = v) → (l.countP fun a => a.1 == (v : Int) && a.2 == (x : Int)) = 0 := fun h => by
    rw [List.countP_eq_zero]
    intro a ha hh
    rw [Bool.and_eq_true, beq_iff_eq, beq_iff_eq] at hh
    rcases h with h | h
    · obtain ⟨k, hk, e⟩ := List.mem_iff_getElem.1 h
      have := ht.pre k hk a ha (by rw [hh.2, e])
      rw [hh.1] at this
      exact q1 (List.mem_of_mem_take this)
    · have := q2 a ha (by rw [hh.2, h])
      rw [hh.1] at this
      exact q1 this
  by_cases e : (x : Int) = v
  · rw [if_pos e, hz (Or.inr e)]
    unfold wtA
    rw [if_pos (List.contains_iff_mem.2 (by rw [e]; simp))]; rfl
  · rw [if_neg e]
    by_cases h : (x : Int) ∈ done
    · rw [hz (Or.inl h)]
      unfold wtA
      rw [if_pos (List.contains_iff_mem.2 h), if_pos (List.contains_iff_mem.2 (List.mem_append_left _ h))]; rfl
    · unfold wtA
      rw [if_neg (fun q => h (List.contains_iff_mem.1 q)), if_neg (fun q => by
        rcases List.mem_append.1 (List.contains_iff_mem.1 q) with q | q
        · exact h q
        · exact e (List.mem_singleton.1 q)), count_part l done (v : Int) (x : Int) q1]
      omega
end Go.Proofs.Ytncedgnpdojkkaa.tpo
