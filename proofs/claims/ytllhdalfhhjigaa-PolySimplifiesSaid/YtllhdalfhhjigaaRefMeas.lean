/-
  Length, Bends and Orthogonal of layer 4's reference. Condition: the list is no longer than a list can be.
-/
import Derived.Test.YtllhdalfhhjigaaRefVal
namespace Go.Proofs.Ytllhdalfhhjigaa
open Go.RowKit Go.Sort

/-- Two points next to each other in memory, at every world of a class. -/
theorem Pl.two {W : World} {A : Addr} {n cap : Nat} {l : List Pt} (h : Pl W (.slice (some A) n cap) l) (i : Nat) (hi : i < l.length) :
    W.cell? (A.add (i * 2)) = some (.int .i64 (pa l i).1) ∧ W.cell? ⟨(A.add (i * 2)).block, (A.add (i * 2)).off + 1, none⟩ = some (.int .i64 (pa l i).2) := by
  obtain ⟨A', cap', e, _, c0, c1⟩ := h.get i hi
  cases e
  exact ⟨c0, c1⟩

set_option maxRecDepth 100000 in
set_option maxHeartbeats 4000000 in
theorem rlength_any (ao : Option Addr) (cap : Nat) (pts : List Pt) (hlen : pts.length ≤ maxLen) (w : World) (hP : Pl w (.slice ao pts.length cap) pts) :
    Calls Try.prog 12 #[.slice ao pts.length cap] w fun e W' => e = .returned (.int .i64 (lenV pts)) ∧ Below w.heap.size w W' := by
  have hmx : Try.prog.follows .mixedOrders = true := by kernel_rfl
  obtain ⟨v, hv⟩ : ∃ v, pval pts = v := ⟨_, rfl⟩
  have HV := Lib.hid hv
  clear hv
  cases v
  · go_enter Try.func12, Try.ntmps12
    go_wp2_with fail
    refine (rvalid_at ao cap _ pts rfl hlen _ hP false HV).mono ?_
    rintro e w1 ⟨rfl, hb1⟩
    go_wp2
    go_ret
    exact ⟨ret_int (by unfold lenV; rw [HV.out]; rfl), hb1⟩
  have hL := ((pval_iff pts).1 HV.out).1
  have HPv := Lib.hid (valid_pa pts HV.out)
  have HR : Hid (lenV pts = lsum (sgs pts (pts.length - 1))) := Lib.hid (by unfold lenV; rw [HV.out, lsum_all pts HV.out]; rfl)
  obtain ⟨A, rfl⟩ : ∃ A, ao = some A := by
    obtain ⟨A, cap', e, _⟩ := hP.get 0 (by omega)
    cases e
    exact ⟨A, rfl⟩
  go_enter Try.func12, Try.ntmps12
  go_wp2_with fail
  refine (rvalid_at _ cap _ pts rfl hlen _ hP true HV).mono ?_
  rintro e w1 ⟨rfl, hb1⟩
  have hP1 := hP.keep hb1
  clear hP
  go_wp2_with fail
  go_loopw [3, 4] (fun s i wr => ∃ a : Nat, a + 1 ≤ pts.length ∧ s = .int .i64 (lsum (sgs pts a)) ∧ i = .int .i64 ((a : Int) + 1) ∧ Below w1.heap.size w1 wr) (fun _ i _ => pts.length - (intOf i).toNat)
  case atStart => exact ⟨0, by omega, by simp [lsum, sgs], rfl, Below.refl _ _⟩
  case round =>
    obtain ⟨a, ha, rfl, rfl, hB⟩ := hrel
    rename World => wr
    by_cases hlt : a + 1 < pts.length
    · have hPr := hP1.keep hB
      obtain ⟨c0, c1⟩ := hPr.two a (by omega)
      obtain ⟨d0, d1⟩ := hPr.two (a + 1) hlt
      have v1 := (vld_iff _ _).1 (HPv.out a (by omega))
      have v2 := (vld_iff _ _).1 (HPv.out (a + 1) hlt)
      have hr := lsum_range pts a
      have HS : Hid (lsum (sgs pts (a + 1)) = lsum (sgs pts a) + max ((pa pts (a + 1)).1 - (pa pts a).1) (-((pa pts (a + 1)).1 - (pa pts a).1)) + max ((pa pts (a + 1)).2 - (pa pts a).2) (-((pa pts (a + 1)).2 - (pa pts a).2))) := Lib.hid (by
        rw [sgs_succ, lsum_snoc]
        unfold sgD dist
        simp only [HPv.out a (by omega), HPv.out (a + 1) hlt, Bool.and_self, if_true]
        omega)
      obtain ⟨X, hX⟩ : ∃ X, lsum (sgs pts a) = X := ⟨_, rfl⟩
      rw [hX] at HS hr ⊢
      clear hX
      have ka : IntKind.i64.wrap (a : Int) = a := IntWalk.i64_in _ (by omega)
      have la : a < pts.length := by omega
      have na : (0 : Int) ≤ (a : Int) + 1 := by omega
      have w3 : IntKind.i64.wrap ((pa pts (a + 1)).1 - (pa pts a).1) = (pa pts (a + 1)).1 - (pa pts a).1 := IntWalk.i64_in _ (by omega)
      have w4 : IntKind.i64.wrap ((pa pts (a + 1)).2 - (pa pts a).2) = (pa pts (a + 1)).2 - (pa pts a).2 := IntWalk.i64_in _ (by omega)
      have q1 := fun W => abs4_any ((pa pts (a + 1)).1 - (pa pts a).1) W (by omega) (by omega)
      have q2 := fun W => abs4_any ((pa pts (a + 1)).2 - (pa pts a).2) W (by omega) (by omega)
      obtain ⟨D1, hD1⟩ : ∃ D, max ((pa pts (a + 1)).1 - (pa pts a).1) (-((pa pts (a + 1)).1 - (pa pts a).1)) = D := ⟨_, rfl⟩
      obtain ⟨D2, hD2⟩ : ∃ D, max ((pa pts (a + 1)).2 - (pa pts a).2) (-((pa pts (a + 1)).2 - (pa pts a).2)) = D := ⟨_, rfl⟩
      rw [hD1] at q1 HS
      rw [hD2] at q2 HS
      have w5 : IntKind.i64.wrap (X + D1) = X + D1 := IntWalk.i64_in _ (by omega)
      have w6 : IntKind.i64.wrap (X + D1 + D2) = X + D1 + D2 := IntWalk.i64_in _ (by omega)
      clear v1 v2 hr hD1 hD2
      go_wp2_with fail
      go_quiet (first | with_reducible exact Calls.quiet_of_same (q1 _) | with_reducible exact Calls.quiet_of_same (q2 _))
      go_wp2
      go_roundw
      case rel => exact ⟨a + 1, by omega, by rw [HS.out], by go_num, below_keep (below_drewN wr nq) hB⟩
      case measure => simp [intOf]; omega
    · have hae : a = pts.length - 1 := by omega
      go_wp2
      go_ret
      exact ⟨ret_int (by rw [HR.out, ← hae]), below_keep hB hb1⟩

set_option maxRecDepth 100000 in
set_option maxHeartbeats 4000000 in
theorem rbends_any (ao : Option Addr) (cap : Nat) (pts : List Pt) (hlen : pts.length ≤ maxLen) (w : World) (hP : Pl w (.slice ao pts.length cap) pts) :
    Calls Try.prog 16 #[.slice ao pts.length cap] w fun e W' => e = .returned (.int .i64 (bndV pts)) ∧ Below w.heap.size w W' := by
  have hmx : Try.prog.follows .mixedOrders = true := by kernel_rfl
  obtain ⟨v, hv⟩ : ∃ v, pval pts = v := ⟨_, rfl⟩
  have HV := Lib.hid hv
  clear hv
  cases v
  · go_enter Try.func16, Try.ntmps16
    go_wp2_with fail
    refine (rvalid_at ao cap _ pts rfl hlen _ hP false HV).mono ?_
    rintro e w1 ⟨rfl, hb1⟩
    go_wp2
    go_ret
    exact ⟨ret_int (by unfold bndV; rw [HV.out]; rfl), hb1⟩
  have hL := ((pval_iff pts).1 HV.out).1
  have HPv := Lib.hid (valid_pa pts HV.out)
  have HR : Hid (bndV pts = (bndTo pts (pts.length - 1) : Int)) := Lib.hid (by unfold bndV; rw [HV.out]; rfl)
  obtain ⟨A, rfl⟩ : ∃ A, ao = some A := by
    obtain ⟨A, cap', e, _⟩ := hP.get 0 (by omega)
    cases e
    exact ⟨A, rfl⟩
  go_enter Try.func16, Try.ntmps16
  go_wp2_with fail
  refine (rvalid_at _ cap _ pts rfl hlen _ hP true HV).mono ?_
  rintro e w1 ⟨rfl, hb1⟩
  have hP1 := hP.keep hb1
  clear hP
  go_wp2_with fail
  go_loopw [3, 4] (fun s i wr => ∃ a : Nat, (a + 2 ≤ pts.length ∨ a = 0) ∧ a + 1 ≤ 512 ∧ s = .int .i64 (bndTo pts (a + 1) : Int) ∧ bndTo pts (a + 1) ≤ a ∧ i = .int .i64 ((a : Int) + 1) ∧ Below w1.heap.size w1 wr) (fun _ i _ => pts.length - (intOf i).toNat)
  case atStart => exact ⟨0, Or.inr rfl, by omega, rfl, Nat.le_refl _, rfl, Below.refl _ _⟩
  case round =>
    obtain ⟨a, ha, ha5, rfl, hle, rfl, hB⟩ := hrel
    rename World => wr
    by_cases hlt : a + 2 < pts.length
    · have hPr := hP1.keep hB
      obtain ⟨c0, c1⟩ := hPr.two a (by omega)
      obtain ⟨d0, d1⟩ := hPr.two (a + 1) (by omega)
      obtain ⟨f0, f1⟩ := hPr.two (a + 2) hlt
      have t0 := fun d os => cell_regrown c0 d os
      have t1 := fun d os => cell_regrown c1 d os
      have t2 := fun d os => cell_regrown d0 d os
      have t3 := fun d os => cell_regrown d1 d os
      have t4 := fun d os => cell_regrown f0 d os
      have t5 := fun d os => cell_regrown f1 d os
      obtain ⟨g, hg⟩ : ∃ g, bndB (pa pts a) (pa pts (a + 1)) (pa pts (a + 2)) = g := ⟨_, rfl⟩
      have HS : Hid (bndTo pts (a + 1 + 1) = bndTo pts (a + 1) + if g then 1 else 0) := Lib.hid (by rw [bndTo_succ pts (a + 1) (by omega) (by omega), ← hg]; rfl)
      have cC := fun dd os => Calls.regrown_of (w := wr) (d := dd) (os := os) (bend4_of (pa pts a) (pa pts (a + 1)) (pa pts (a + 2)) g _ (Lib.hid (HPv.out a (by omega))) (Lib.hid (HPv.out (a + 1) (by omega))) (Lib.hid (HPv.out (a + 2) hlt)) (Lib.hid hg))
      clear hg c0 c1 d0 d1 f0 f1
      obtain ⟨X, hX⟩ : ∃ X, bndTo pts (a + 1) = X := ⟨_, rfl⟩
      rw [hX] at HS hle ⊢
      clear hX
      have ka : IntKind.i64.wrap (a : Int) = a := IntWalk.i64_in _ (by omega)
      have kb : IntKind.i64.wrap ((a : Int) + 1 + 1) = (a : Int) + 1 + 1 := IntWalk.i64_in _ (by omega)
      have la : a < pts.length := by omega
      have lb : a + 1 < pts.length := by omega
      have na : (0 : Int) ≤ (a : Int) + 1 := by omega
      have nb : (0 : Int) ≤ (a : Int) + 1 + 1 := by omega
      have kw : IntKind.i64.wrap ((X : Int) + 1) = (X : Int) + 1 := IntWalk.i64_in _ (by omega)
      go_wp2_with fail
      refine wp_region_quiet_below hmx (by kernel_rfl) ?_
      repeat (go_big_quiet_step (with_reducible exact cC _ _))
      refine wpQuiet_nil ?_
      intro _ hw'
      obtain ⟨⟨dq, osq⟩, hw''⟩ := hw'
      subst hw''
      cases g
      · go_wp2
        go_roundw
        case rel => exact ⟨a + 1, by omega, by omega, by rw [HS.out]; simp, by rw [HS.out]; simp; omega, by go_num, below_keep (below_regrown wr dq osq) hB⟩
        case measure => simp [intOf]; omega
      · go_wp2
        go_roundw
        case rel => exact ⟨a + 1, by omega, by omega, by rw [HS.out]; simp, by rw [HS.out]; simp; omega, by go_num, below_keep (below_regrown wr dq osq) hB⟩
        case measure => simp [intOf]; omega
    · have hae : bndTo pts (a + 1) = bndTo pts (pts.length - 1) := by
        rcases ha with h | h
        · rw [show a + 1 = pts.length - 1 by omega]
        · subst h
          by_cases h2 : pts.length = 1
          · rw [h2]; rfl
          · rw [show pts.length - 1 = 0 + 1 by omega]
      have HAE := Lib.hid hae
      clear hae
      go_wp2
      go_ret
      exact ⟨ret_int (by rw [HR.out, HAE.out]), below_keep hB hb1⟩

set_option maxRecDepth 100000 in
set_option maxHeartbeats 4000000 in
theorem rortho_any (ao : Option Addr) (cap : Nat) (pts : List Pt) (hlen : pts.length ≤ maxLen) (w : World) (hP : Pl w (.slice ao pts.length cap) pts) :
    Calls Try.prog 18 #[.slice ao pts.length cap] w fun e W' => e = .returned (.bool (ortB pts)) ∧ Below w.heap.size w W' := by
  have hmx : Try.prog.follows .mixedOrders = true := by kernel_rfl
  obtain ⟨v, hv⟩ : ∃ v, pval pts = v := ⟨_, rfl⟩
  have HV := Lib.hid hv
  clear hv
  cases v
  · go_enter Try.func18, Try.ntmps18
    go_wp2_with fail
    refine (rvalid_at ao cap _ pts rfl hlen _ hP false HV).mono ?_
    rintro e w1 ⟨rfl, hb1⟩
    go_wp2
    go_ret
    exact ⟨ret_bool (by unfold ortB; rw [HV.out]; rfl), hb1⟩
  have hL := ((pval_iff pts).1 HV.out).1
  have HR : Hid (ortB pts = (sgs pts (pts.length - 1)).all sgOr) := Lib.hid (by unfold ortB; rw [HV.out, Bool.true_and])
  obtain ⟨A, rfl⟩ : ∃ A, ao = some A := by
    obtain ⟨A, cap', e, _⟩ := hP.get 0 (by omega)
    cases e
    exact ⟨A, rfl⟩
  go_enter Try.func18, Try.ntmps18
  go_wp2_with fail
  refine (rvalid_at _ cap _ pts rfl hlen _ hP true HV).mono ?_
  rintro e w1 ⟨rfl, hb1⟩
  have hP1 := hP.keep hb1
  clear hP
  go_wp2_with fail
  go_loopw [3] (fun i wr => ∃ a : Nat, a + 1 ≤ pts.length ∧ i = .int .i64 ((a : Int) + 1) ∧ Below w1.heap.size w1 wr ∧ (sgs pts a).all sgOr = true) (fun i _ => pts.length - (intOf i).toNat)
  case atStart => exact ⟨0, by omega, rfl, Below.refl _ _, rfl⟩
  case round =>
    obtain ⟨a, ha, rfl, hB, hall⟩ := hrel
    rename World => wr
    have HAL := Lib.hid hall
    clear hall
    by_cases hlt : a + 1 < pts.length
    · have hPr := hP1.keep hB
      obtain ⟨c0, c1⟩ := hPr.two a (by omega)
      obtain ⟨d0, d1⟩ := hPr.two (a + 1) hlt
      have ka : IntKind.i64.wrap (a : Int) = a := IntWalk.i64_in _ (by omega)
      have la : a < pts.length := by omega
      have na : (0 : Int) ≤ (a : Int) + 1 := by omega
      have HS := Lib.hid (sgs_succ pts a)
      have hno : sgOr (pa pts a, pa pts (a + 1)) = false → (sgs pts (pts.length - 1)).all sgOr = false := by
        intro h
        obtain ⟨t, ht⟩ := sgs_prefix pts (show a + 1 ≤ pts.length - 1 by omega)
        rw [← ht, List.all_append, sgs_succ, List.all_append]
        simp [h]
      have HNO := Lib.hid hno
      clear hno
      by_cases hx : (pa pts (a + 1)).1 = (pa pts a).1
      · have HG : Hid (sgOr (pa pts a, pa pts (a + 1)) = true) := Lib.hid (by unfold sgOr; simp [hx])
        have hd : decide ((pa pts (a + 1)).1 = (pa pts a).1) = true := decide_eq_true hx
        rw [hx] at d0
        go_wp2_with fail
        go_quiet (fail)
        go_wp2
        go_roundw
        case rel => exact ⟨a + 1, by omega, by go_num, below_keep (below_drewN wr nq) hB, by rw [HS.out, List.all_append, HAL.out]; simp [HG.out]⟩
        case measure => simp [intOf]; omega
      · have hd : decide ((pa pts (a + 1)).1 = (pa pts a).1) = false := decide_eq_false hx
        by_cases hy : (pa pts (a + 1)).2 = (pa pts a).2
        · have HG : Hid (sgOr (pa pts a, pa pts (a + 1)) = true) := Lib.hid (by unfold sgOr; simp [hy])
          rw [hy] at d1
          go_wp2_with fail
          go_quiet (fail)
          go_wp2
          go_roundw
          case rel => exact ⟨a + 1, by omega, by go_num, below_keep (below_drewN wr nq) hB, by rw [HS.out, List.all_append, HAL.out]; simp [HG.out]⟩
          case measure => simp [intOf]; omega
        · have hd2 : decide ((pa pts (a + 1)).2 = (pa pts a).2) = false := decide_eq_false hy
          have hn1 : ((pa pts (a + 1)).1 != (pa pts a).1) = true := by simpa using hx
          have hn2 : ((pa pts (a + 1)).2 != (pa pts a).2) = true := by simpa using hy
          have HG : Hid (sgOr (pa pts a, pa pts (a + 1)) = false) := Lib.hid (by unfold sgOr; simp; omega)
          go_wp2_with fail
          go_quiet (fail)
          go_wp2
          go_ret
          exact ⟨ret_bool (by rw [HR.out, HNO.out HG.out]), below_keep (below_keep (below_drewN wr nq) hB) hb1⟩
    · have hae : a = pts.length - 1 := by omega
      go_wp2
      go_ret
      exact ⟨ret_bool (by rw [HR.out, ← hae, HAL.out]), below_keep hB hb1⟩
end Go.Proofs.Ytllhdalfhhjigaa
