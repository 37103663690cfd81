/-
  Simplify of layer 4's reference. Condition: the list is no longer than a list can be.
-/
import Derived.Test.YtllhdalfhhjigaaRefMeas
namespace Go.Proofs.Ytllhdalfhhjigaa
open Go.RowKit Go.Sort

theorem simpI_length (l : List Pt) : ∀ k, (simpI l k).length ≤ k
  | 0 => Nat.le_refl _
  | k + 1 => by
    have := simpI_length l k
    cases h : keepI l k with
    | true => rw [simpI_yes l k h]; simp; omega
    | false => rw [simpI_no l k h]; omega

set_option maxRecDepth 100000 in
set_option maxHeartbeats 8000000 in
theorem rsimplify_any (ao : Option Addr) (cap : Nat) (pts : List Pt) (hlen : pts.length ≤ maxLen) (w : World) (hP : Pl w (.slice ao pts.length cap) pts) :
    Calls Try.prog 21 #[.slice ao pts.length cap] w fun e W' => ∃ v', e = .returned v' ∧ Pl W' v' (simp4 pts) ∧ Below w.heap.size w W' := by
  have hmx : Try.prog.follows .mixedOrders = true := by kernel_rfl
  obtain ⟨i0, hi, hz0, hz1, hz2⟩ := info_parts info_pt
  unfold maxLen at hlen
  by_cases h0 : pts.length < 1
  · have hi0 : (pts.length : Int) < 1 := by omega
    go_enter Try.func21, Try.ntmps21
    go_wp2
    go_ret
    exact ⟨_, rfl, by rw [simp4_no pts (by unfold hasP; simp; omega)]; exact Pl.nil _, Below.refl _ _⟩
  by_cases h1 : 512 < pts.length
  · have hi0 : ¬ (pts.length : Int) < 1 := by omega
    have hi1 : (512 : Int) < (pts.length : Int) := by omega
    go_enter Try.func21, Try.ntmps21
    go_wp2
    go_ret
    exact ⟨_, rfl, by rw [simp4_no pts (by unfold hasP; simp; omega)]; exact Pl.nil _, Below.refl _ _⟩
  have hi0 : ¬ (pts.length : Int) < 1 := by omega
  have hi1 : ¬ (512 : Int) < (pts.length : Int) := by omega
  obtain ⟨A, rfl⟩ : ∃ A, ao = some A := by
    obtain ⟨A, cap', e, _⟩ := hP.get 0 (by omega)
    cases e
    exact ⟨A, rfl⟩
  have HNO : Hid (∀ k, k < pts.length → vld (pa pts k).1 (pa pts k).2 = false → simp4 pts = []) := Lib.hid (fun k hk h => simp4_no pts (by unfold hasP; rw [alTo_no pts k _ hk h]; simp))
  have HYES : Hid (alTo pts pts.length = true → hasP pts = true) := Lib.hid (fun h => by unfold hasP; rw [h]; simp; omega)
  have hown0 : (w.alloc (.cells #[] 33)).ownsRow w.heap.size 33 2 (.slice (some ⟨w.heap.size, 0, none⟩) 0 0) 0 [] := World.ownsRow_lit (base := w.heap.size) (e := 33) (size := 2) w #[] 0 (Nat.le_refl _) (by unfold maxLen; omega) rfl
  have HP := Lib.hid hP
  clear hP
  go_enter Try.func21, Try.ntmps21
  go_wp2_with fail
  go_loopw [3, 4] (fun s i wr => ∃ a : Nat, a ≤ pts.length ∧ i = .int .i64 a ∧ wr.ownsRow w.heap.size 33 2 s (ddTo pts a).length (flat2 (ddTo pts a)) ∧ alTo pts a = true ∧ Below w.heap.size w wr) (fun _ i _ => pts.length - (intOf i).toNat)
  case atStart => exact ⟨0, Nat.zero_le _, rfl, hown0, alTo_zero _, al1 ..⟩
  case round =>
    clear hown0
    obtain ⟨a, ha, rfl, hown, hal, hB⟩ := hrel
    rename World => wr
    have HO := Lib.hid hown
    have HAL := Lib.hid hal
    clear hown hal
    have hdl := ddTo_size pts a
    by_cases hlt : a < pts.length
    · have hPr := HP.out.keep hB
      obtain ⟨c0, c1⟩ := hPr.two a hlt
      obtain ⟨p, hp⟩ : ∃ v, vld (pa pts a).1 (pa pts a).2 = v := ⟨_, rfl⟩
      have HV := Lib.hid hp
      clear hp
      cases p
      · go_wp2_with fail
        refine (point4_of _ _ false _ HV).mono ?_
        rintro e w1 ⟨rfl, hb1⟩
        go_wp2
        go_ret
        exact ⟨_, rfl, by rw [HNO.out a hlt HV.out]; exact Pl.nil _, below_keep hb1 hB⟩
      have HAN := Lib.hid (alTo_yes pts a HAL.out HV.out)
      by_cases ha0 : a = 0
      · have HK : Hid (ddTo pts (a + 1) = ddTo pts a ++ [pa pts a]) := Lib.hid (by rw [ddTo, if_pos (Or.inl ha0)])
        have hb0 : ((a : Int) == 0) = true := by simp [ha0]
        have hb1' : (a == 0) = true := by simp [ha0]
        have hd0 : decide ((a : Int) = 0) = true := by simp [ha0]
        have hd1 : decide (a = 0) = true := by simp [ha0]
        clear ha0
        go_wp2_with fail
        refine (point4_of _ _ true _ HV).mono ?_
        rintro e w1 ⟨rfl, hb1⟩
        have HO1 := Lib.hid (own_keep HO.out hb1)
        have hB1 := below_keep hb1 hB
        obtain ⟨c0, c1⟩ := (HP.out.keep hB1).two a hlt
        go_wp2_with fail
        go_quiet (fail)
        have HO2 := Lib.hid (own_keep HO1.out (below_drewN w1 nq))
        have hB2 := below_keep (below_drewN w1 nq) hB1
        have hs2 := hB2.size
        obtain ⟨c0, c1⟩ := (HP.out.keep hB2).two a hlt
        generalize w1.drewN nq = w2 at *
        go_wp2_with (at_builtin; refine wpList_append_own _ rfl (.tmp 42) (.tmp 47) 22 rfl w.heap.size 33 i0 (.agg #[.int .i64 0, .int .i64 0]) 2 16 Try.underlying22 hi hz0 hz1 hz2 rfl (by decide) _ _ _ rfl (HO2.out.alloc _) ⟨w2.heap.size, 0, none⟩ 1 1 [.int .i64 (pa pts a).1, .int .i64 (pa pts a).2] rfl rfl (cell2_new _ _ _ _) (by simp [Value.oneCell']) (by unfold maxLen; omega) (by omega) (by simp; omega) ?_; intro v3 w3 hown3 hgrow3 _)
        go_roundw
        case rel => exact ⟨a + 1, by omega, by go_num, by rw [HK.out, flat2_snoc, List.length_append]; exact hown3, HAN.out, (hB2.alloc hs2 _).grown hgrow3 (by simp; omega) fun q hq => (HO2.out.lt q hq).1⟩
        case measure => simp [intOf]; omega
      · have hb0 : ((a : Int) == 0) = false := by simp [ha0]
        have hb1' : (a == 0) = false := by simp [ha0]
        have hd0 : decide ((a : Int) = 0) = false := by simp [ha0]
        have hd1 : decide (a = 0) = false := by simp [ha0]
        obtain ⟨j, hj⟩ : ∃ j, a - 1 = j := ⟨_, rfl⟩
        have hwk : IntKind.i64.wrap ((a : Int) - 1) = (j : Int) := by rw [IntWalk.i64_in _ (by omega)]; omega
        have hjl : j < pts.length := by omega
        have HJ := Lib.hid hj
        clear hj
        obtain ⟨v2, hv2⟩ : ∃ v, eq2 (pa pts a).1 (pa pts a).2 (pa pts j).1 (pa pts j).2 = v := ⟨_, rfl⟩
        have HV2 := Lib.hid hv2
        have hpp := neq_pt HV2
        clear hv2
        go_wp2_with fail
        refine (point4_of _ _ true _ HV).mono ?_
        rintro e w1 ⟨rfl, hb1⟩
        have HO1 := Lib.hid (own_keep HO.out hb1)
        have hB1 := below_keep hb1 hB
        obtain ⟨c0, c1⟩ := (HP.out.keep hB1).two a hlt
        obtain ⟨d0, d1⟩ := (HP.out.keep hB1).two j hjl
        go_wp2_with fail
        go_quiet (fail)
        have HO2 := Lib.hid (own_keep HO1.out (below_drewN w1 nq))
        have hB2 := below_keep (below_drewN w1 nq) hB1
        have hs2 := hB2.size
        obtain ⟨c0, c1⟩ := (HP.out.keep hB2).two a hlt
        generalize w1.drewN nq = w2 at *
        cases v2
        · have HK : Hid (ddTo pts (a + 1) = ddTo pts a ++ [pa pts a]) := Lib.hid (ddTo_next pts a (fun e => by have := HV2.out; rw [e, HJ.out, (eq2_iff _ _ _ _).2 ⟨rfl, rfl⟩] at this; cases this))
          go_wp2_with (at_builtin; refine wpList_append_own _ rfl (.tmp 42) (.tmp 47) 22 rfl w.heap.size 33 i0 (.agg #[.int .i64 0, .int .i64 0]) 2 16 Try.underlying22 hi hz0 hz1 hz2 rfl (by decide) _ _ _ rfl (HO2.out.alloc _) ⟨w2.heap.size, 0, none⟩ 1 1 [.int .i64 (pa pts a).1, .int .i64 (pa pts a).2] rfl rfl (cell2_new _ _ _ _) (by simp [Value.oneCell']) (by unfold maxLen; omega) (by omega) (by simp; omega) ?_; intro v3 w3 hown3 hgrow3 _)
          go_roundw
          case rel => exact ⟨a + 1, by omega, by go_num, by rw [HK.out, flat2_snoc, List.length_append]; exact hown3, HAN.out, (hB2.alloc hs2 _).grown hgrow3 (by simp; omega) fun q hq => (HO2.out.lt q hq).1⟩
          case measure => simp [intOf]; omega
        · have HK : Hid (ddTo pts (a + 1) = ddTo pts a) := Lib.hid (ddTo_same pts a (by omega) (by rw [HJ.out]; exact Prod.ext ((eq2_iff _ _ _ _).1 HV2.out).1 ((eq2_iff _ _ _ _).1 HV2.out).2))
          go_wp2
          go_roundw
          case rel => exact ⟨a + 1, by omega, by go_num, by rw [HK.out]; exact HO2.out, HAN.out, hB2⟩
          case measure => simp [intOf]; omega
    · have hae : a = pts.length := by omega
      subst hae
      have hq := HYES.out HAL.out
      have HF := Lib.hid (dd_facts pts hq)
      have HS := Lib.hid (simp4_eq pts hq)
      have pD := own_pl HO.out
      clear hq HO hdl HNO HYES HAL
      generalize ddTo pts pts.length = D at *
      obtain ⟨so, sc, e3, hx⟩ := id pD
      subst e3
      obtain ⟨B, rfl⟩ : ∃ B, so = some B := by
        obtain ⟨B, cap', e, _⟩ := pD.get 0 HF.out.1
        simp only [Value.slice.injEq] at e
        exact ⟨B, e.1⟩
      clear hx
      have hD5 := HF.out.2.1
      have own2 : (wr.alloc (.cells #[] 33)).ownsRow wr.heap.size 33 2 (.slice (some ⟨wr.heap.size, 0, none⟩) 0 0) 0 [] := World.ownsRow_lit (base := wr.heap.size) (e := 33) (size := 2) wr #[] 0 (Nat.le_refl _) (by unfold maxLen; omega) rfl
      go_wp2_with fail
      go_loopw [5, 6] (fun s i wq => ∃ b : Nat, b ≤ D.length ∧ i = .int .i64 b ∧ wq.ownsRow wr.heap.size 33 2 s (simpI D b).length (flat2 (simpI D b)) ∧ Below wr.heap.size wr wq) (fun _ i _ => D.length - (intOf i).toNat)
      case atStart => exact ⟨0, Nat.zero_le _, rfl, own2, al1 ..⟩
      case round =>
        clear own2
        obtain ⟨b, hb, rfl, hown, hBq⟩ := hrel
        rename World => wq
        have HOq := Lib.hid hown
        clear hown
        have hsl := simpI_length D b
        by_cases hlb : b < D.length
        · have hPr := pD.keep hBq
          by_cases hb0 : b = 0
          · have HK : Hid (simpI D (b + 1) = simpI D b ++ [pa D b]) := Lib.hid (simpI_yes D b (by unfold keepI; simp [hb0]))
            have hq0 : ((b : Int) == 0) = true := by simp [hb0]
            have hq1 : (b == 0) = true := by simp [hb0]
            have hq2 : decide ((b : Int) = 0) = true := by simp [hb0]
            have hq3 : decide (b = 0) = true := by simp [hb0]
            clear hb0
            go_wp2_with fail
            refine wp_region_quiet_below hmx (by kernel_rfl) ?_
            repeat (go_big_quiet_step (fail))
            refine wpQuiet_nil ?_
            intro _ hw'
            obtain ⟨⟨dq, osq⟩, hw''⟩ := hw'
            subst hw''
            have HO4 := Lib.hid (own_keep HOq.out (below_regrown wq dq osq))
            have hB4 := below_keep (below_regrown wq dq osq) hBq
            have hs4 := hB4.size
            obtain ⟨c0, c1⟩ := (pD.keep hB4).two b hlb
            generalize grow (redrawn wq dq) osq = w4 at *
            go_wp2_with (at_builtin; refine wpList_append_own _ rfl (.tmp 82) (.tmp 87) 22 rfl wr.heap.size 33 i0 (.agg #[.int .i64 0, .int .i64 0]) 2 16 Try.underlying22 hi hz0 hz1 hz2 rfl (by decide) _ _ _ rfl (HO4.out.alloc _) ⟨w4.heap.size, 0, none⟩ 1 1 [.int .i64 (pa D b).1, .int .i64 (pa D b).2] rfl rfl (cell2_new _ _ _ _) (by simp [Value.oneCell']) (by unfold maxLen; omega) (by omega) (by simp; omega) ?_; intro v5 w5 hown5 hgrow5 _)
            go_roundw
            case rel => exact ⟨b + 1, by omega, by go_num, by rw [HK.out, flat2_snoc, List.length_append]; exact hown5, (hB4.alloc hs4 _).grown hgrow5 (by simp; omega) fun q hq => (HO4.out.lt q hq).1⟩
            case measure => simp [intOf]; omega
          · have hq0 : ((b : Int) == 0) = false := by simp [hb0]
            have hq1 : (b == 0) = false := by simp [hb0]
            have hq2 : decide ((b : Int) = 0) = false := by simp [hb0]
            have hq3 : decide (b = 0) = false := by simp [hb0]
            have kb : IntKind.i64.wrap ((b : Int) + 1) = (b : Int) + 1 := IntWalk.i64_in _ (by omega)
            by_cases hbe : b + 1 = D.length
            · have HK : Hid (simpI D (b + 1) = simpI D b ++ [pa D b]) := Lib.hid (simpI_yes D b (by unfold keepI; simp [hbe]))
              have hr0 : ((b : Int) + 1 == (D.length : Int)) = true := by simp; omega
              have hr1 : (b + 1 == D.length) = true := by simp [hbe]
              have hr2 : decide ((b : Int) + 1 = (D.length : Int)) = true := decide_eq_true (by omega)
              have hr3 : decide (b + 1 = D.length) = true := by simp [hbe]
              have HBE := Lib.hid hbe
              clear hbe
              go_wp2_with fail
              refine wp_region_quiet_below hmx (by kernel_rfl) ?_
              repeat (go_big_quiet_step (fail))
              refine wpQuiet_nil ?_
              intro _ hw'
              obtain ⟨⟨dq, osq⟩, hw''⟩ := hw'
              subst hw''
              have HO4 := Lib.hid (own_keep HOq.out (below_regrown wq dq osq))
              have hB4 := below_keep (below_regrown wq dq osq) hBq
              have hs4 := hB4.size
              obtain ⟨c0, c1⟩ := (pD.keep hB4).two b hlb
              generalize grow (redrawn wq dq) osq = w4 at *
              go_wp2_with (at_builtin; refine wpList_append_own _ rfl (.tmp 82) (.tmp 87) 22 rfl wr.heap.size 33 i0 (.agg #[.int .i64 0, .int .i64 0]) 2 16 Try.underlying22 hi hz0 hz1 hz2 rfl (by decide) _ _ _ rfl (HO4.out.alloc _) ⟨w4.heap.size, 0, none⟩ 1 1 [.int .i64 (pa D b).1, .int .i64 (pa D b).2] rfl rfl (cell2_new _ _ _ _) (by simp [Value.oneCell']) (by unfold maxLen; omega) (by omega) (by simp; omega) ?_; intro v5 w5 hown5 hgrow5 _)
              go_roundw
              case rel => exact ⟨b + 1, by omega, by go_num, by rw [HK.out, flat2_snoc, List.length_append]; exact hown5, (hB4.alloc hs4 _).grown hgrow5 (by simp; omega) fun q hq => (HO4.out.lt q hq).1⟩
              case measure => simp [intOf]; omega
            · have hr0 : ((b : Int) + 1 == (D.length : Int)) = false := by simp; omega
              have hr1 : (b + 1 == D.length) = false := by simp [hbe]
              have hr2 : decide ((b : Int) + 1 = (D.length : Int)) = false := decide_eq_false (by omega)
              have hr3 : decide (b + 1 = D.length) = false := by simp [hbe]
              obtain ⟨j, hj⟩ : ∃ j, b - 1 = j := ⟨_, rfl⟩
              have hwk : IntKind.i64.wrap ((b : Int) - 1) = (j : Int) := by rw [IntWalk.i64_in _ (by omega)]; omega
              have hjl : j < D.length := by omega
              have hb1l : b + 1 < D.length := by omega
              have nb : (0 : Int) ≤ (b : Int) + 1 := by omega
              obtain ⟨g, hg⟩ : ∃ g, bndB (pa D j) (pa D b) (pa D (b + 1)) = g := ⟨_, rfl⟩
              have HKI : Hid (keepI D b = g) := Lib.hid (by unfold keepI; rw [hq3, hr3, hj, hg]; simp)
              obtain ⟨c0, c1⟩ := hPr.two b hlb
              obtain ⟨d0, d1⟩ := hPr.two j hjl
              obtain ⟨f0, f1⟩ := hPr.two (b + 1) hb1l
              have t0 := fun d os => cell_regrown c0 d os
              have t1 := fun d os => cell_regrown c1 d os
              have t2 := fun d os => cell_regrown d0 d os
              have t3 := fun d os => cell_regrown d1 d os
              have t4 := fun d os => cell_regrown f0 d os
              have t5 := fun d os => cell_regrown f1 d os
              have cC := fun dd os => Calls.regrown_of (w := wq) (d := dd) (os := os) (bend4_of (pa D j) (pa D b) (pa D (b + 1)) g _ (Lib.hid (HF.out.2.2.2 j hjl)) (Lib.hid (HF.out.2.2.2 b hlb)) (Lib.hid (HF.out.2.2.2 (b + 1) hb1l)) (Lib.hid hg))
              clear hg hj c0 c1 d0 d1 f0 f1
              go_wp2_with fail
              refine wp_region_quiet_below hmx (by kernel_rfl) ?_
              repeat (go_big_quiet_step (with_reducible exact cC _ _))
              refine wpQuiet_nil ?_
              intro _ hw'
              obtain ⟨⟨dq, osq⟩, hw''⟩ := hw'
              subst hw''
              have HO4 := Lib.hid (own_keep HOq.out (below_regrown wq dq osq))
              have hB4 := below_keep (below_regrown wq dq osq) hBq
              have hs4 := hB4.size
              obtain ⟨c0, c1⟩ := (pD.keep hB4).two b hlb
              generalize grow (redrawn wq dq) osq = w4 at *
              cases g
              · have HK : Hid (simpI D (b + 1) = simpI D b) := Lib.hid (simpI_no D b HKI.out)
                go_wp2
                go_roundw
                case rel => exact ⟨b + 1, by omega, by go_num, by rw [HK.out]; exact HO4.out, hB4⟩
                case measure => simp [intOf]; omega
              · have HK : Hid (simpI D (b + 1) = simpI D b ++ [pa D b]) := Lib.hid (simpI_yes D b HKI.out)
                go_wp2_with (at_builtin; refine wpList_append_own _ rfl (.tmp 82) (.tmp 87) 22 rfl wr.heap.size 33 i0 (.agg #[.int .i64 0, .int .i64 0]) 2 16 Try.underlying22 hi hz0 hz1 hz2 rfl (by decide) _ _ _ rfl (HO4.out.alloc _) ⟨w4.heap.size, 0, none⟩ 1 1 [.int .i64 (pa D b).1, .int .i64 (pa D b).2] rfl rfl (cell2_new _ _ _ _) (by simp [Value.oneCell']) (by unfold maxLen; omega) (by omega) (by simp; omega) ?_; intro v5 w5 hown5 hgrow5 _)
                go_roundw
                case rel => exact ⟨b + 1, by omega, by go_num, by rw [HK.out, flat2_snoc, List.length_append]; exact hown5, (hB4.alloc hs4 _).grown hgrow5 (by simp; omega) fun q hq => (HO4.out.lt q hq).1⟩
                case measure => simp [intOf]; omega
        · have hbe : b = D.length := by omega
          subst hbe
          have h := HOq.out
          rw [simpI_eq] at h
          have HH := Lib.hid h
          clear h
          go_wp2
          go_ret
          exact ⟨_, rfl, by rw [HS.out]; exact own_pl HH.out, below_keep hBq hB⟩
theorem rsimplify_at (ao : Option Addr) (cap n : Nat) (pts : List Pt) (hn : pts.length = n) (hlen : pts.length ≤ maxLen) (w : World) (hP : Pl w (.slice ao n cap) pts) (r : List Pt) (h : Hid (simp4 pts = r)) :
    Calls Try.prog 21 #[.slice ao n cap] w fun e W' => ∃ so sc, e = .returned (.slice so r.length sc) ∧ Pl W' (.slice so r.length sc) r ∧ Below w.heap.size w W' := by
  subst hn
  have := rsimplify_any ao cap pts hlen w hP
  rw [h.out] at this
  refine this.mono ?_
  rintro e W' ⟨v', rfl, hp, hb⟩
  obtain ⟨so, sc, rfl, hx⟩ := hp
  exact ⟨so, sc, rfl, ⟨so, sc, rfl, hx⟩, hb⟩
end Go.Proofs.Ytllhdalfhhjigaa
