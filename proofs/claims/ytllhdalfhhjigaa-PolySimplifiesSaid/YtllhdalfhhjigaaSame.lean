/-
  Same of package poly, of its reference, and slices.Equal: two lists have the same points in the same order. Condition: the first list is no longer than a list can be.
-/
import Derived.Test.YtllhdalfhhjigaaPts
import Derived.Test.YtllhdalfhhjigaaSegs
import Derived.Test.YtllhdalfhhjigaaCompact
namespace Go.Proofs.Ytllhdalfhhjigaa
open Go.RowKit

def samB (a b : List Pt) : Bool := decide (a = b)
theorem pts_ext (a b : List Pt) (h : a.length = b.length) (hp : ∀ i, i < a.length → pa a i = pa b i) : a = b := by
  apply List.ext_getElem h
  intro i h1 h2
  have := hp i h1
  unfold pa at this
  rw [List.getD_eq_getElem?_getD, List.getD_eq_getElem?_getD, List.getElem?_eq_getElem h1, List.getElem?_eq_getElem h2] at this
  exact this
theorem sam_yes (a b : List Pt) (h : a.length = b.length) (hp : ∀ i, i < a.length → pa a i = pa b i) : samB a b = true := by
  unfold samB; exact decide_eq_true (pts_ext a b h hp)
theorem sam_no (a b : List Pt) (k : Nat) (hp : pa a k ≠ pa b k) : samB a b = false := by
  unfold samB; exact decide_eq_false (fun e => hp (by rw [e]))
theorem sam_len (a b : List Pt) (h : a.length ≠ b.length) : samB a b = false := by
  unfold samB; exact decide_eq_false (fun e => h (by rw [e]))

set_option maxRecDepth 100000 in
set_option maxHeartbeats 2000000 in
theorem equal_any (ao bo : Option Addr) (cap cbp : Nat) (ps qs : List Pt) (hlen : ps.length ≤ maxLen) (w : World) (hP : Pl w (.slice ao ps.length cap) ps) (hQ : Pl w (.slice bo qs.length cbp) qs) :
    Calls Try.prog 42 #[.slice ao ps.length cap, .slice bo qs.length cbp] w fun e W' => e = .returned (.bool (samB ps qs)) ∧ Below w.heap.size w W' := by
  have hmx : Try.prog.follows .mixedOrders = true := by kernel_rfl
  unfold maxLen at hlen
  by_cases hl : ps.length = qs.length
  · have HL := Lib.hid hl
    clear hl
    have hQ' : Pl w (.slice bo ps.length cbp) qs := by rw [HL.out]; exact hQ
    rw [← HL.out]
    have HP := Lib.hid hP
    have HQ := Lib.hid hQ'
    clear hP hQ hQ'
    go_enter Try.func42, Try.ntmps42
    go_wp2_with fail
    go_loopw [13] (fun i wr => ∃ k : Nat, k ≤ ps.length ∧ i = .int .i64 k ∧ Below w.heap.size w wr ∧ ∀ i, i < k → pa ps i = pa qs i) (fun i _ => ps.length - (intOf i).toNat)
    case atStart => exact ⟨0, Nat.zero_le _, rfl, Below.refl _ _, fun i h => by omega⟩
    case round =>
      obtain ⟨k, hk, rfl, hB, hall⟩ := hrel
      rename World => wr
      have HAL := Lib.hid hall
      clear hall
      by_cases hlt : k < ps.length
      · obtain ⟨A, c1, e1, _, c0, c1⟩ := (HP.out.keep hB).get k hlt
        cases e1
        obtain ⟨A', c2, e2, _, d0, d1⟩ := (HQ.out.keep hB).get k (by have := HL.out; omega)
        have e2' : bo = some A' := by simp only [Value.slice.injEq] at e2; exact e2.1
        subst e2'
        clear e2
        obtain ⟨v, hv⟩ : ∃ v, eq2 (pa ps k).1 (pa ps k).2 (pa qs k).1 (pa qs k).2 = v := ⟨_, rfl⟩
        have HV := Lib.hid hv
        have hpp := neq_pt HV
        clear hv
        cases v
        · have hne : pa ps k ≠ pa qs k := fun e => by have := HV.out; rw [e, (eq2_iff _ _ _ _).2 ⟨rfl, rfl⟩] at this; cases this
          go_wp2_with fail
          go_quiet (fail)
          go_wp2
          go_ret
          exact ⟨ret_bool (sam_no ps qs k hne).symm, below_keep (below_drewN _ _) hB⟩
        · have heq : pa ps k = pa qs k := Prod.ext ((eq2_iff _ _ _ _).1 HV.out).1 ((eq2_iff _ _ _ _).1 HV.out).2
          go_wp2_with fail
          go_quiet (fail)
          go_wp2
          go_roundw
          case rel =>
            refine ⟨k + 1, by omega, by go_num, below_keep (below_drewN _ _) hB, fun i hi => ?_⟩
            by_cases e : i = k
            · subst e; exact heq
            · exact HAL.out i (by omega)
          case measure => simp [intOf]; omega
      · have hend : k = ps.length := by omega
        go_wp2
        go_ret
        exact ⟨ret_bool (sam_yes ps qs HL.out (fun i hi => HAL.out i (by omega))).symm, hB⟩
  · have HO := Lib.hid (sam_len ps qs hl)
    have hi : ¬ ((ps.length : Int) = (qs.length : Int)) := by omega
    go_enter Try.func42, Try.ntmps42
    go_wp2
    go_ret
    exact ⟨ret_bool HO.out.symm, Below.refl _ _⟩

set_option maxRecDepth 100000 in
set_option maxHeartbeats 2000000 in
theorem rsame_any (ao bo : Option Addr) (cap cbp : Nat) (ps qs : List Pt) (hlen : ps.length ≤ maxLen) (w : World) (hP : Pl w (.slice ao ps.length cap) ps) (hQ : Pl w (.slice bo qs.length cbp) qs) :
    Calls Try.prog 19 #[.slice ao ps.length cap, .slice bo qs.length cbp] w fun e W' => e = .returned (.bool (samB ps qs)) ∧ Below w.heap.size w W' := by
  have hmx : Try.prog.follows .mixedOrders = true := by kernel_rfl
  unfold maxLen at hlen
  by_cases hl : ps.length = qs.length
  · have HL := Lib.hid hl
    clear hl
    have hQ' : Pl w (.slice bo ps.length cbp) qs := by rw [HL.out]; exact hQ
    rw [← HL.out]
    have HP := Lib.hid hP
    have HQ := Lib.hid hQ'
    clear hP hQ hQ'
    go_enter Try.func19, Try.ntmps19
    go_wp2_with fail
    go_loopw [5] (fun i wr => ∃ k : Nat, k ≤ ps.length ∧ i = .int .i64 k ∧ Below w.heap.size w wr ∧ ∀ i, i < k → pa ps i = pa qs i) (fun i _ => ps.length - (intOf i).toNat)
    case atStart => exact ⟨0, Nat.zero_le _, rfl, Below.refl _ _, fun i h => by omega⟩
    case round =>
      obtain ⟨k, hk, rfl, hB, hall⟩ := hrel
      rename World => wr
      have HAL := Lib.hid hall
      clear hall
      by_cases hlt : k < ps.length
      · obtain ⟨A, c1, e1, _, c0, c1⟩ := (HP.out.keep hB).get k hlt
        cases e1
        obtain ⟨A', c2, e2, _, d0, d1⟩ := (HQ.out.keep hB).get k (by have := HL.out; omega)
        have e2' : bo = some A' := by simp only [Value.slice.injEq] at e2; exact e2.1
        subst e2'
        clear e2
        obtain ⟨v, hv⟩ : ∃ v, eq2 (pa ps k).1 (pa ps k).2 (pa qs k).1 (pa qs k).2 = v := ⟨_, rfl⟩
        have HV := Lib.hid hv
        have hpp := neq_pt HV
        clear hv
        cases v
        · have hne : pa ps k ≠ pa qs k := fun e => by have := HV.out; rw [e, (eq2_iff _ _ _ _).2 ⟨rfl, rfl⟩] at this; cases this
          go_wp2_with fail
          go_quiet (fail)
          go_wp2
          go_ret
          exact ⟨ret_bool (sam_no ps qs k hne).symm, below_keep (below_drewN _ _) hB⟩
        · have heq : pa ps k = pa qs k := Prod.ext ((eq2_iff _ _ _ _).1 HV.out).1 ((eq2_iff _ _ _ _).1 HV.out).2
          go_wp2_with fail
          go_quiet (fail)
          go_wp2
          go_roundw
          case rel =>
            refine ⟨k + 1, by omega, by go_num, below_keep (below_drewN _ _) hB, fun i hi => ?_⟩
            by_cases e : i = k
            · subst e; exact heq
            · exact HAL.out i (by omega)
          case measure => simp [intOf]; omega
      · have hend : k = ps.length := by omega
        go_wp2
        go_ret
        exact ⟨ret_bool (sam_yes ps qs HL.out (fun i hi => HAL.out i (by omega))).symm, hB⟩
  · have HO := Lib.hid (sam_len ps qs hl)
    have hi : ¬ ((ps.length : Int) = (qs.length : Int)) := by omega
    go_enter Try.func19, Try.ntmps19
    go_wp2
    go_ret
    exact ⟨ret_bool HO.out.symm, Below.refl _ _⟩

set_option maxHeartbeats 1000000 in
theorem same_any (ao bo : Option Addr) (cap cbp : Nat) (ps qs : List Pt) (hlen : ps.length ≤ maxLen) (w : World) (hP : Pl w (.slice ao ps.length cap) ps) (hQ : Pl w (.slice bo qs.length cbp) qs) :
    Calls Try.prog 24 #[.slice ao ps.length cap, .slice bo qs.length cbp] w fun e W' => e = .returned (.bool (samB ps qs)) ∧ Below w.heap.size w W' := by
  have hq := equal_any ao bo cap cbp ps qs hlen w hP hQ
  obtain ⟨v, hv⟩ : ∃ v, samB ps qs = v := ⟨_, rfl⟩
  rw [hv] at hq ⊢
  clear hv
  go_enter Try.func24, Try.ntmps24
  go_wp2_with fail
  refine hq.mono ?_
  rintro e w1 ⟨rfl, hb1⟩
  go_wp2
  go_ret
  exact ⟨rfl, hb1⟩
end Go.Proofs.Ytllhdalfhhjigaa
