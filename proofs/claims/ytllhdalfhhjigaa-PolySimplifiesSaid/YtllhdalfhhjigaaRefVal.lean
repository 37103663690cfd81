/-
  Valid of layer 4's reference. Condition: the list is no longer than a list can be.
-/
import Derived.Test.YtllhdalfhhjigaaRefPts
import Derived.LoopTactic
namespace Go.Proofs.Ytllhdalfhhjigaa
open Go.RowKit Go.Sort

set_option maxRecDepth 100000 in
set_option maxHeartbeats 2000000 in
theorem rvalid_any (ao : Option Addr) (cap : Nat) (pts : List Pt) (hlen : pts.length ≤ maxLen) (w : World) (hP : Pl w (.slice ao pts.length cap) pts) :
    Calls Try.prog 10 #[.slice ao pts.length cap] w fun e W' => e = .returned (.bool (pval pts)) ∧ Below w.heap.size w W' := by
  have hmx : Try.prog.follows .mixedOrders = true := by kernel_rfl
  obtain ⟨v, hv⟩ : ∃ v, pval pts = v := ⟨_, rfl⟩
  have HO := Lib.hid hv
  rw [hv]
  clear hv
  unfold maxLen at hlen
  by_cases h0 : pts.length < 1
  · have hi0 : (pts.length : Int) < 1 := by omega
    go_enter Try.func10, Try.ntmps10
    go_wp2
    go_ret
    exact ⟨ret_bool (by rw [← HO.out]; unfold pval; simp; omega), Below.refl _ _⟩
  by_cases h1 : 512 < pts.length
  · have hi0 : ¬ (pts.length : Int) < 1 := by omega
    have hi1 : (512 : Int) < (pts.length : Int) := by omega
    go_enter Try.func10, Try.ntmps10
    go_wp2
    go_ret
    exact ⟨ret_bool (by rw [← HO.out]; unfold pval; simp; omega), Below.refl _ _⟩
  have HQ : Hid (v = okTo pts pts.length) := Lib.hid (by rw [← HO.out]; unfold pval; simp; omega)
  have hi0 : ¬ (pts.length : Int) < 1 := by omega
  have hi1 : ¬ (512 : Int) < (pts.length : Int) := by omega
  go_enter Try.func10, Try.ntmps10
  go_wp2_with fail
  go_loopw [3] (fun i wr => ∃ k : Nat, k ≤ pts.length ∧ i = .int .i64 k ∧ Below w.heap.size w wr ∧ okTo pts k = true) (fun i _ => pts.length - (intOf i).toNat)
  case atStart => exact ⟨0, Nat.zero_le _, rfl, Below.refl _ _, okTo_zero _⟩
  case round =>
    obtain ⟨k, hk, rfl, hB, hok⟩ := hrel
    rename World => wr
    have HK := Lib.hid hok
    clear hok
    by_cases hlt : k < pts.length
    · have hPr := hP.below hB hP.block
      obtain ⟨A, cap', e1, _, c0, c1⟩ := hPr.get k hlt
      cases e1
      have r0 := fun d os => cell_regrown c0 d os
      have r1 := fun d os => cell_regrown c1 d os
      obtain ⟨p, hp⟩ : ∃ v, vld (pa pts k).1 (pa pts k).2 = v := ⟨_, rfl⟩
      have HV := Lib.hid hp
      have cP := fun dd os => Calls.regrown_of (w := wr) (d := dd) (os := os) (point4_of _ _ p _ HV)
      clear hp c0 c1
      cases p
      · go_wp2_with fail
        refine wp_region_quiet_below hmx (by kernel_rfl) ?_
        repeat (go_big_quiet_step (with_reducible exact cP _ _))
        refine wpQuiet_nil ?_
        intro _ hw'
        obtain ⟨⟨dq, osq⟩, hw''⟩ := hw'
        subst hw''
        go_wp2
        go_ret
        exact ⟨ret_bool (by rw [HQ.out, okTo_no pts k _ hlt (Or.inl HV.out)]), below_keep (below_regrown wr dq osq) hB⟩
      by_cases hk0 : k = 0
      · have hd0 : decide ((0 : Int) < (k : Int)) = false := decide_eq_false (by omega)
        have hd1 : decide (0 < k) = false := decide_eq_false (by omega)
        have HK0 := Lib.hid hk0
        clear hk0
        go_wp2_with fail
        refine wp_region_quiet_below hmx (by kernel_rfl) ?_
        repeat (go_big_quiet_step (with_reducible exact cP _ _))
        refine wpQuiet_nil ?_
        intro _ hw'
        obtain ⟨⟨dq, osq⟩, hw''⟩ := hw'
        subst hw''
        go_wp2
        go_roundw
        case rel => exact ⟨k + 1, by omega, by go_num, below_keep (below_regrown wr dq osq) hB, by rw [okTo_succ pts k HK.out, HV.out]; simp [HK0.out]⟩
        case measure => simp [intOf]; omega
      · obtain ⟨A', cap'', e2, _, d0, d1⟩ := hPr.get (k - 1) (by omega)
        have e2' : A = A' := by simp only [Value.slice.injEq, Option.some.injEq] at e2; exact e2.1
        subst e2'
        clear e2
        obtain ⟨j, hj⟩ : ∃ j, k - 1 = j := ⟨_, rfl⟩
        rw [hj] at d0 d1
        have s0 := fun d os => cell_regrown d0 d os
        have s1 := fun d os => cell_regrown d1 d os
        have hwk : IntKind.i64.wrap ((k : Int) - 1) = (j : Int) := by rw [IntWalk.i64_in _ (by omega)]; omega
        have hjl : j < pts.length := by omega
        have hd0 : decide ((0 : Int) < (k : Int)) = true := decide_eq_true (by omega)
        have hd1 : decide (0 < k) = true := decide_eq_true (by omega)
        have HJ := Lib.hid hj
        clear hj d0 d1
        obtain ⟨v2, hv2⟩ : ∃ v, eq2 (pa pts k).1 (pa pts k).2 (pa pts j).1 (pa pts j).2 = v := ⟨_, rfl⟩
        have HV2 := Lib.hid hv2
        have hpp := eql_pt HV2
        clear hv2
        cases v2
        · have hne : pa pts k ≠ pa pts (k - 1) := fun e => by have := HV2.out; rw [e, HJ.out, (eq2_iff _ _ _ _).2 ⟨rfl, rfl⟩] at this; cases this
          have HN := Lib.hid hne
          clear hne
          go_wp2_with fail
          refine wp_region_quiet_below hmx (by kernel_rfl) ?_
          repeat (go_big_quiet_step (with_reducible exact cP _ _))
          refine wpQuiet_nil ?_
          intro _ hw'
          obtain ⟨⟨dq, osq⟩, hw''⟩ := hw'
          subst hw''
          go_wp2
          go_roundw
          case rel => exact ⟨k + 1, by omega, by go_num, below_keep (below_regrown wr dq osq) hB, by rw [okTo_succ pts k HK.out, HV.out]; simp [HN.out]⟩
          case measure => simp [intOf]; omega
        · have heq : pa pts k = pa pts (k - 1) := by rw [HJ.out]; exact Prod.ext ((eq2_iff _ _ _ _).1 HV2.out).1 ((eq2_iff _ _ _ _).1 HV2.out).2
          have HE := Lib.hid heq
          clear heq
          go_wp2_with fail
          refine wp_region_quiet_below hmx (by kernel_rfl) ?_
          repeat (go_big_quiet_step (with_reducible exact cP _ _))
          refine wpQuiet_nil ?_
          intro _ hw'
          obtain ⟨⟨dq, osq⟩, hw''⟩ := hw'
          subst hw''
          go_wp2
          go_ret
          exact ⟨ret_bool (by rw [HQ.out, okTo_no pts k _ hlt (Or.inr ⟨by omega, HE.out⟩)]), below_keep (below_regrown wr dq osq) hB⟩
    · have hkn : k = pts.length := by omega
      go_wp2
      go_ret
      exact ⟨ret_bool (by rw [HQ.out, ← hkn, HK.out]), hB⟩
theorem rvalid_at (ao : Option Addr) (cap n : Nat) (pts : List Pt) (hn : pts.length = n) (hlen : pts.length ≤ maxLen) (w : World) (hP : Pl w (.slice ao n cap) pts) (v : Bool) (h : Hid (pval pts = v)) :
    Calls Try.prog 10 #[.slice ao n cap] w fun e W' => e = .returned (.bool v) ∧ Below w.heap.size w W' := by
  subst hn; have := rvalid_any ao cap pts hlen w hP; rw [h.out] at this; exact this
end Go.Proofs.Ytllhdalfhhjigaa
