/-
  Crossings of layer 4's reference. Condition: the lists are no longer than a list can be.
-/
import Derived.Test.YtllhdalfhhjigaaRefVal
import Derived.Test.YtllhdalfhhjigaaRefCrs
namespace Go.Proofs.Ytllhdalfhhjigaa
open Go.RowKit Go.Sort

set_option maxRecDepth 100000 in
set_option maxHeartbeats 4000000 in
theorem rcrossings_any (ao bo : Option Addr) (cap cbp : Nat) (ps qs : List Pt) (hla : ps.length ≤ maxLen) (hlb : qs.length ≤ maxLen) (w : World) (hP : Pl w (.slice ao ps.length cap) ps) (hQ : Pl w (.slice bo qs.length cbp) qs) :
    Calls Try.prog 22 #[.slice ao ps.length cap, .slice bo qs.length cbp] w fun e W' => e = .returned (.int .i64 (crsV ps qs)) ∧ Below w.heap.size w W' := by
  have hmx : Try.prog.follows .mixedOrders = true := by kernel_rfl
  obtain ⟨u, hu⟩ : ∃ v, pval ps = v := ⟨_, rfl⟩
  obtain ⟨v, hv⟩ : ∃ v, pval qs = v := ⟨_, rfl⟩
  have HU := Lib.hid hu
  have HV := Lib.hid hv
  clear hu hv
  cases u
  · go_enter Try.func22, Try.ntmps22
    go_wp2_with fail
    refine (rvalid_at ao cap _ ps rfl hla _ hP false HU).mono ?_
    rintro e w1 ⟨rfl, hb1⟩
    go_wp2
    go_ret
    exact ⟨ret_int (by unfold crsV; rw [HU.out]; rfl), hb1⟩
  cases v
  · go_enter Try.func22, Try.ntmps22
    go_wp2_with fail
    refine (rvalid_at ao cap _ ps rfl hla _ hP true HU).mono ?_
    rintro e w1 ⟨rfl, hb1⟩
    go_wp2_with fail
    refine (rvalid_at bo cbp _ qs rfl hlb _ (hQ.keep hb1) false HV).mono ?_
    rintro e w2 ⟨rfl, hb2⟩
    go_wp2
    go_ret
    exact ⟨ret_int (by unfold crsV; rw [HV.out]; simp), below_keep hb2 hb1⟩
  have hLp := ((pval_iff ps).1 HU.out).1
  have hLq := ((pval_iff qs).1 HV.out).1
  have HR : Hid (crsV ps qs = xAll (sgs ps (ps.length - 1)) (sgs qs (qs.length - 1))) := Lib.hid (by unfold crsV; rw [HU.out, HV.out]; rfl)
  have HPv := Lib.hid (valid_pa ps HU.out)
  have HQv := Lib.hid (valid_pa qs HV.out)
  go_enter Try.func22, Try.ntmps22
  go_wp2_with fail
  refine (rvalid_at ao cap _ ps rfl hla _ hP true HU).mono ?_
  rintro e w1 ⟨rfl, hb1⟩
  go_wp2_with fail
  refine (rvalid_at bo cbp _ qs rfl hlb _ (hQ.keep hb1) true HV).mono ?_
  rintro e w2 ⟨rfl, hb2⟩
  have hB2 := below_keep hb2 hb1
  have hP2 := hP.keep hB2
  have hQ2 := hQ.keep hB2
  clear hP hQ hb1 hb2
  go_wp2_with fail
  go_loopw [5, 6] (fun s i wr => ∃ a : Nat, a + 1 ≤ ps.length ∧ s = .int .i64 (xAll (sgs ps a) (sgs qs (qs.length - 1))) ∧ i = .int .i64 ((a : Int) + 1) ∧ Below w2.heap.size w2 wr) (fun _ i _ => ps.length - (intOf i).toNat)
  case atStart => exact ⟨0, by omega, by simp [xAll, sgs], rfl, Below.refl _ _⟩
  case round =>
    obtain ⟨a, ha, rfl, rfl, hB⟩ := hrel
    rename World => wr
    by_cases hlt : a + 1 < ps.length
    · have r1 := xAll_small (sgs ps a) (sgs qs (qs.length - 1)) (by rw [sgs_length]; omega) (by rw [sgs_length]; omega)
      obtain ⟨X, hX⟩ : ∃ X, xAll (sgs ps a) (sgs qs (qs.length - 1)) = X := ⟨_, rfl⟩
      rw [hX] at r1 ⊢
      have HX := Lib.hid hX
      clear hX
      go_wp2_with fail
      go_loopw [5, 7] (fun s i wq => ∃ b : Nat, b + 1 ≤ qs.length ∧ s = .int .i64 (X + xIn (pa ps a, pa ps (a + 1)) (sgs qs b)) ∧ i = .int .i64 ((b : Int) + 1) ∧ Below w2.heap.size w2 wq) (fun _ i _ => qs.length - (intOf i).toNat)
      case atStart => exact ⟨0, by omega, by simp [xIn, sgs], rfl, hB⟩
      case round =>
        clear hB
        obtain ⟨b, hb, rfl, rfl, hBq⟩ := hrel
        rename World => wq
        have r2 := xIn_range (pa ps a, pa ps (a + 1)) (sgs qs b)
        rw [sgs_length] at r2
        have HS := Lib.hid (sgs_succ qs b)
        have HXI := Lib.hid (xIn_snoc (pa ps a, pa ps (a + 1)) (sgs qs b) (pa qs b, pa qs (b + 1)))
        obtain ⟨Y, hY⟩ : ∃ Y, xIn (pa ps a, pa ps (a + 1)) (sgs qs b) = Y := ⟨_, rfl⟩
        rw [hY] at r2 ⊢
        have HY := Lib.hid hY
        clear hY
        by_cases hlq : b + 1 < qs.length
        · have hPr := hP2.keep hBq
          have hQr := hQ2.keep hBq
          obtain ⟨A, cp1, e1, _, c0, c1⟩ := hPr.get a (by omega)
          cases e1
          obtain ⟨A', cp2, e2, _, c2, c3⟩ := hPr.get (a + 1) hlt
          have e2' : A = A' := by simp only [Value.slice.injEq, Option.some.injEq] at e2; exact e2.1
          subst e2'
          obtain ⟨B, cp3, e3, _, d0, d1⟩ := hQr.get b (by omega)
          have e3' : bo = some B := by simp only [Value.slice.injEq] at e3; exact e3.1
          subst e3'
          obtain ⟨B', cp4, e4, _, d2, d3⟩ := hQr.get (b + 1) hlq
          have e4' : B = B' := by simp only [Value.slice.injEq, Option.some.injEq] at e4; exact e4.1
          subst e4'
          clear e2 e3 e4
          have t0 := fun d os => cell_regrown c0 d os
          have t1 := fun d os => cell_regrown c1 d os
          have t2 := fun d os => cell_regrown c2 d os
          have t3 := fun d os => cell_regrown c3 d os
          have t4 := fun d os => cell_regrown d0 d os
          have t5 := fun d os => cell_regrown d1 d os
          have t6 := fun d os => cell_regrown d2 d os
          have t7 := fun d os => cell_regrown d3 d os
          have ka : IntKind.i64.wrap (a : Int) = a := IntWalk.i64_in _ (by omega)
          have kb : IntKind.i64.wrap (b : Int) = b := IntWalk.i64_in _ (by omega)
          have la : a < ps.length := by omega
          have lb : b < qs.length := by omega
          have na : (0 : Int) ≤ (a : Int) + 1 := by omega
          have nb : (0 : Int) ≤ (b : Int) + 1 := by omega
          obtain ⟨g, hg⟩ : ∃ g, sgX (pa ps a, pa ps (a + 1)) (pa qs b, pa qs (b + 1)) = g := ⟨_, rfl⟩
          have HG := Lib.hid hg
          have cC := fun dd os => Calls.regrown_of (w := wq) (d := dd) (os := os) (cross4_of (pa ps a) (pa ps (a + 1)) (pa qs b) (pa qs (b + 1)) g _ (Lib.hid (HPv.out a la)) (Lib.hid (HPv.out _ hlt)) (Lib.hid (HQv.out b lb)) (Lib.hid (HQv.out _ hlq)) (Lib.hid hg))
          have kw : IntKind.i64.wrap (X + Y + 1) = X + Y + 1 := IntWalk.i64_in _ (by omega)
          clear hg c0 c1 c2 c3 d0 d1 d2 d3
          go_wp2_with fail
          refine wp_region_quiet_below hmx (by kernel_rfl) ?_
          repeat (go_big_quiet_step (with_reducible exact cC _ _))
          refine wpQuiet_nil ?_
          intro _ hw'
          obtain ⟨⟨dq, osq⟩, hw''⟩ := hw'
          subst hw''
          cases g
          · go_wp2
            go_roundw
            case rel => exact ⟨b + 1, by omega, by rw [HS.out, HXI.out, HG.out, HY.out]; simp, by go_num, below_keep (below_regrown wq dq osq) hBq⟩
            case measure => simp [intOf]; omega
          · go_wp2
            go_roundw
            case rel => exact ⟨b + 1, by omega, by rw [HS.out, HXI.out, HG.out, HY.out, if_pos rfl, Int.add_assoc], by go_num, below_keep (below_regrown wq dq osq) hBq⟩
            case measure => simp [intOf]; omega
        · have hbe : b = qs.length - 1 := by omega
          go_wp2
          go_roundw
          case rel => exact ⟨a + 1, by omega, by rw [sgs_succ, xAll_snoc, HX.out, ← hbe, HY.out], by go_num, hBq⟩
          case measure => simp [intOf]; omega
    · have hae : a = ps.length - 1 := by omega
      go_wp2
      go_ret
      exact ⟨ret_int (by rw [HR.out, ← hae]), below_keep hB hB2⟩
theorem rcrossings_at (ao : Option Addr) (cap n : Nat) (ps : List Pt) (hn : ps.length = n) (hla : ps.length ≤ maxLen) (w : World) (hP : Pl w (.slice ao n cap) ps) (bo : Option Addr) (cbp k : Nat) (qs : List Pt) (hk : qs.length = k) (hQ : Pl w (.slice bo k cbp) qs) (hlb : qs.length ≤ maxLen) (v : Int) (h : Hid (crsV ps qs = v)) :
    Calls Try.prog 22 #[.slice ao n cap, .slice bo k cbp] w fun e W' => e = .returned (.int .i64 v) ∧ Below w.heap.size w W' := by
  subst hn hk; have := rcrossings_any ao bo cap cbp ps qs hla hlb w hP hQ; rw [h.out] at this; exact this
theorem same_at (ao : Option Addr) (cap n : Nat) (ps : List Pt) (hn : ps.length = n) (hla : ps.length ≤ maxLen) (w : World) (hP : Pl w (.slice ao n cap) ps) (bo : Option Addr) (cbp k : Nat) (qs : List Pt) (hk : qs.length = k) (hQ : Pl w (.slice bo k cbp) qs) (v : Bool) (h : Hid (samB ps qs = v)) :
    Calls Try.prog 24 #[.slice ao n cap, .slice bo k cbp] w fun e W' => e = .returned (.bool v) ∧ Below w.heap.size w W' := by
  subst hn hk; have := same_any ao bo cap cbp ps qs hla w hP hQ; rw [h.out] at this; exact this
end Go.Proofs.Ytllhdalfhhjigaa
