/-
  hasPoints, Valid and Orthogonal of package poly. Condition: the list is no longer than a list can be.
-/
import Derived.Test.YtllhdalfhhjigaaEvery
import Derived.LoopTactic
namespace Go.Proofs.Ytllhdalfhhjigaa
open Go.RowKit

theorem alTo_zero (l : List Pt) : alTo l 0 = true := by unfold alTo; simp
theorem alTo_yes (l : List Pt) (k : Nat) (h : alTo l k = true) (hv : vld (pa l k).1 (pa l k).2 = true) : alTo l (k + 1) = true := by
  unfold alTo at *
  simp only [decide_eq_true_eq] at *
  intro i hi
  by_cases hk : i < k
  · exact h i hk
  · obtain rfl : i = k := by omega
    exact hv
theorem alTo_no (l : List Pt) (k n : Nat) (hk : k < n) (hv : vld (pa l k).1 (pa l k).2 = false) : alTo l n = false := by
  unfold alTo
  simp only [decide_eq_false_iff_not]
  intro h
  rw [h k hk] at hv
  cases hv

set_option maxHeartbeats 1000000 in
theorem isInvalid_any (x y : Int) (w : World) :
    Calls Try.prog 44 #[.agg #[.int .i64 x, .int .i64 y]] w fun e w' => e = .returned (.bool (!vld x y)) ∧ Below w.heap.size w w' := by
  obtain ⟨v, hv⟩ : ∃ v, vld x y = v := ⟨_, rfl⟩
  have HV := Lib.hid hv
  rw [hv]
  clear hv
  go_enter Try.func44, Try.ntmps44
  go_wp2_with fail
  refine (valid_of _ _ _ _ HV).mono ?_
  rintro e w1 ⟨rfl, hb1⟩
  go_wp2
  go_ret
  exact ⟨rfl, below_keep hb1 (al1 ..)⟩
theorem isInvalid_of (x y : Int) (v : Bool) (w : World) (h : Hid (vld x y = v)) :
    Calls Try.prog 44 #[.agg #[.int .i64 x, .int .i64 y]] w fun e w' => e = .returned (.bool (!v)) ∧ Below w.heap.size w w' := by
  have := isInvalid_any x y w
  rw [h.out] at this
  exact this

set_option maxHeartbeats 2000000 in
theorem indexFunc_any (ao : Option Addr) (cap : Nat) (pts : List Pt) (hlen : pts.length ≤ maxLen) (w : World) (hP : Pl w (.slice ao pts.length cap) pts) :
    Calls Try.prog 53 #[.slice ao pts.length cap, .func (.func 44) #[] #[]] w fun e W' =>
      (∃ i : Int, e = .returned (.int .i64 i) ∧ decide (0 ≤ i) = !alTo pts pts.length) ∧ Below w.heap.size w W' := by
  unfold maxLen at hlen
  go_enter Try.func53, Try.ntmps53
  go_wp2_with fail
  go_loopw [8] (fun i wr => ∃ k : Nat, k ≤ pts.length ∧ i = .int .i64 k ∧ Below w.heap.size w wr ∧ alTo pts k = true) (fun i _ => pts.length - (intOf i).toNat)
  case atStart => exact ⟨0, Nat.zero_le _, rfl, Below.refl _ _, alTo_zero _⟩
  case round =>
    obtain ⟨k, hk, rfl, hB, hal⟩ := hrel
    rename_i wr
    have HAL := Lib.hid hal
    clear hal
    by_cases hlt : k < pts.length
    · obtain ⟨A, cap', e1, _, c0, c1⟩ := (hP.below hB hP.block).get k hlt
      cases e1
      obtain ⟨p, hp⟩ : ∃ v, vld (pa pts k).1 (pa pts k).2 = v := ⟨_, rfl⟩
      have HV := Lib.hid hp
      clear hp
      cases p
      · go_wp2_with fail
        refine (isInvalid_of _ _ _ _ HV).mono ?_
        rintro e w1 ⟨rfl, hb1⟩
        go_wp2
        go_ret
        exact ⟨⟨k, rfl, by rw [alTo_no pts k _ hlt HV.out]; simp⟩, below_keep hb1 hB⟩
      · go_wp2_with fail
        refine (isInvalid_of _ _ _ _ HV).mono ?_
        rintro e w1 ⟨rfl, hb1⟩
        go_wp2
        go_roundw
        case rel => exact ⟨k + 1, by omega, by go_num, below_keep hb1 hB, alTo_yes pts k HAL.out HV.out⟩
        case measure => simp [intOf]; omega
    · obtain rfl : k = pts.length := by omega
      go_wp2
      go_ret
      exact ⟨⟨-1, rfl, by rw [HAL.out]; rfl⟩, hB⟩

set_option maxHeartbeats 1000000 in
theorem containsFunc_any (ao : Option Addr) (cap : Nat) (pts : List Pt) (hlen : pts.length ≤ maxLen) (w : World) (hP : Pl w (.slice ao pts.length cap) pts) :
    Calls Try.prog 43 #[.slice ao pts.length cap, .func (.func 44) #[] #[]] w fun e W' =>
      e = .returned (.bool (!alTo pts pts.length)) ∧ Below w.heap.size w W' := by
  obtain ⟨v, hv⟩ : ∃ v, (!alTo pts pts.length) = v := ⟨_, rfl⟩
  have hq := indexFunc_any ao cap pts hlen w hP
  rw [hv] at hq ⊢
  clear hv
  go_enter Try.func43, Try.ntmps43
  go_wp2_with fail
  refine hq.mono ?_
  rintro e w1 ⟨⟨i, rfl, hi⟩, hb1⟩
  have HI := Lib.hid hi
  clear hi
  go_wp2
  go_ret
  exact ⟨ret_bool HI.out, hb1⟩

/-- hasPoints, as a test. -/
def hasP (l : List Pt) : Bool := decide (1 ≤ l.length ∧ l.length ≤ 512) && alTo l l.length
set_option maxHeartbeats 1000000 in
theorem hasPoints_any (ao : Option Addr) (cap : Nat) (pts : List Pt) (hlen : pts.length ≤ maxLen) (w : World) (hP : Pl w (.slice ao pts.length cap) pts) :
    Calls Try.prog 26 #[.slice ao pts.length cap] w fun e W' => e = .returned (.bool (hasP pts)) ∧ Below w.heap.size w W' := by
  obtain ⟨v, hv⟩ : ∃ v, hasP pts = v := ⟨_, rfl⟩
  have HV := Lib.hid hv
  rw [hv]
  clear hv
  have hq := containsFunc_any ao cap pts hlen w hP
  obtain ⟨a, ha⟩ : ∃ a, alTo pts pts.length = a := ⟨_, rfl⟩
  have HA := Lib.hid ha
  rw [ha] at hq
  clear ha
  by_cases h0 : 0 < pts.length
  · by_cases h1 : pts.length ≤ 512
    · have HO : Hid (v = a) := Lib.hid (by have := HV.out; unfold hasP at this; rw [HA.out] at this; rw [← this]; simp; omega)
      go_enter Try.func26, Try.ntmps26
      go_wp2_with fail
      refine hq.mono ?_
      rintro e w1 ⟨rfl, hb1⟩
      go_wp2
      go_ret
      exact ⟨ret_bool (by rw [HO.out]; try simp), hb1⟩
    · have HO : Hid (v = false) := Lib.hid (by have := HV.out; unfold hasP at this; rw [← this]; simp; omega)
      go_enter Try.func26, Try.ntmps26
      go_wp2
      go_ret
      exact ⟨ret_bool HO.out.symm, Below.refl _ _⟩
  · have HO : Hid (v = false) := Lib.hid (by have := HV.out; unfold hasP at this; rw [← this]; simp; omega)
    go_enter Try.func26, Try.ntmps26
    go_wp2
    go_ret
    exact ⟨ret_bool HO.out.symm, Below.refl _ _⟩
theorem hasPoints_of (ao : Option Addr) (cap : Nat) (pts : List Pt) (v : Bool) (hlen : pts.length ≤ maxLen) (w : World) (hP : Pl w (.slice ao pts.length cap) pts) (h : Hid (hasP pts = v)) :
    Calls Try.prog 26 #[.slice ao pts.length cap] w fun e W' => e = .returned (.bool v) ∧ Below w.heap.size w W' := by
  have := hasPoints_any ao cap pts hlen w hP
  rw [h.out] at this
  exact this

theorem all_ne (pts : List Pt) : (sgs pts (pts.length - 1)).all sgNe = true ↔ dif pts := by
  rw [← dif_index]
  unfold sgs sgNe
  simp only [List.all_map, List.all_eq_true, List.mem_range, Function.comp, decide_eq_true_eq]
  exact ⟨fun h i hi => h i (by omega), fun h i hi => h i (by omega)⟩
theorem hasP_pval (pts : List Pt) : pval pts = (hasP pts && (sgs pts (pts.length - 1)).all sgNe) := by
  rw [Bool.eq_iff_iff, Bool.and_eq_true, all_ne, pval_iff]
  unfold hasP alTo
  simp only [Bool.and_eq_true, decide_eq_true_eq]
  constructor
  · rintro ⟨h1, h2, h3⟩
    refine ⟨⟨h1, fun i hi => ?_⟩, h3⟩
    exact h2 _ (by unfold pa; rw [List.getD_eq_getElem?_getD, List.getElem?_eq_getElem hi]; exact List.getElem_mem hi)
  · rintro ⟨⟨h1, h2⟩, h3⟩
    refine ⟨h1, fun x hx => ?_, h3⟩
    obtain ⟨i, hi, rfl⟩ := List.getElem_of_mem hx
    have := h2 i hi
    unfold pa at this
    rw [List.getD_eq_getElem?_getD, List.getElem?_eq_getElem hi] at this
    exact this

set_option maxHeartbeats 1000000 in
theorem pvalid_any (ao : Option Addr) (cap : Nat) (pts : List Pt) (hlen : pts.length ≤ maxLen) (w : World) (hP : Pl w (.slice ao pts.length cap) pts) :
    Calls Try.prog 9 #[.slice ao pts.length cap] w fun e W' => e = .returned (.bool (pval pts)) ∧ Below w.heap.size w W' := by
  rw [hasP_pval]
  obtain ⟨v, hv⟩ : ∃ v, hasP pts = v := ⟨_, rfl⟩
  obtain ⟨u, hu⟩ : ∃ u, (sgs pts (pts.length - 1)).all sgNe = u := ⟨_, rfl⟩
  have HV := Lib.hid hv
  have HU := Lib.hid hu
  rw [hv, hu]
  clear hv hu
  cases v
  · go_enter Try.func9, Try.ntmps9
    go_wp2_with fail
    refine (hasPoints_of ao cap pts _ hlen _ hP HV).mono ?_
    rintro e w1 ⟨rfl, hb1⟩
    go_wp2
    go_ret
    exact ⟨rfl, hb1⟩
  · go_enter Try.func9, Try.ntmps9
    go_wp2_with fail
    refine (hasPoints_of ao cap pts _ hlen _ hP HV).mono ?_
    rintro e w1 ⟨rfl, hb1⟩
    go_wp2_with fail
    refine (callsIn_wide.1 (everyNe_any 6 (by omega) ao cap pts hlen w1 (hP.keep hb1))).mono ?_
    rw [HU.out]
    rintro e w2 ⟨rfl, hb2⟩
    go_wp2
    go_ret
    exact ⟨rfl, below_keep hb2 hb1⟩
theorem pvalid_of (ao : Option Addr) (cap : Nat) (pts : List Pt) (v : Bool) (hlen : pts.length ≤ maxLen) (w : World) (hP : Pl w (.slice ao pts.length cap) pts) (h : Hid (pval pts = v)) :
    Calls Try.prog 9 #[.slice ao pts.length cap] w fun e W' => e = .returned (.bool v) ∧ Below w.heap.size w W' := by
  have := pvalid_any ao cap pts hlen w hP
  rw [h.out] at this
  exact this

/-- Orthogonal, as a test. -/
def ortB (l : List Pt) : Bool := pval l && (sgs l (l.length - 1)).all sgOr
set_option maxHeartbeats 1000000 in
theorem orthogonal_any (ao : Option Addr) (cap : Nat) (pts : List Pt) (hlen : pts.length ≤ maxLen) (w : World) (hP : Pl w (.slice ao pts.length cap) pts) :
    Calls Try.prog 17 #[.slice ao pts.length cap] w fun e W' => e = .returned (.bool (ortB pts)) ∧ Below w.heap.size w W' := by
  unfold ortB
  obtain ⟨v, hv⟩ : ∃ v, pval pts = v := ⟨_, rfl⟩
  obtain ⟨u, hu⟩ : ∃ u, (sgs pts (pts.length - 1)).all sgOr = u := ⟨_, rfl⟩
  have HV := Lib.hid hv
  have HU := Lib.hid hu
  rw [hv, hu]
  clear hv hu
  cases v
  · go_enter Try.func17, Try.ntmps17
    go_wp2_with fail
    refine (pvalid_of ao cap pts _ hlen _ hP HV).mono ?_
    rintro e w1 ⟨rfl, hb1⟩
    go_wp2
    go_ret
    exact ⟨rfl, hb1⟩
  · go_enter Try.func17, Try.ntmps17
    go_wp2_with fail
    refine (pvalid_of ao cap pts _ hlen _ hP HV).mono ?_
    rintro e w1 ⟨rfl, hb1⟩
    go_wp2_with fail
    refine (callsIn_wide.1 (everyOr_any 6 (by omega) ao cap pts hlen w1 (hP.keep hb1))).mono ?_
    rw [HU.out]
    rintro e w2 ⟨rfl, hb2⟩
    go_wp2
    go_ret
    exact ⟨rfl, below_keep hb2 hb1⟩
theorem orthogonal_of (ao : Option Addr) (cap : Nat) (pts : List Pt) (v : Bool) (hlen : pts.length ≤ maxLen) (w : World) (hP : Pl w (.slice ao pts.length cap) pts) (h : Hid (ortB pts = v)) :
    Calls Try.prog 17 #[.slice ao pts.length cap] w fun e W' => e = .returned (.bool v) ∧ Below w.heap.size w W' := by
  have := orthogonal_any ao cap pts hlen w hP
  rw [h.out] at this
  exact this
end Go.Proofs.Ytllhdalfhhjigaa
