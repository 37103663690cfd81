/-
  What Same of the reference of layer 11 returns. Condition: two graphs in memory.
-/
import Derived.Test.YtjeacpohanadnaaMGe
import Derived.StillTailTactics
namespace Go.Proofs.Ytjeacpohanadnaa.gra
open Go.RowKit lex

set_option maxRecDepth 100000 in
set_option maxHeartbeats 16000000 in
theorem gsame_of (v v2 : Value) (g h : Gr) (R : Bool) (w : World) (h1 : Hid (GrV w v g)) (h2 : Hid (GrV w v2 h)) (hr : Hid (decide (g = h) = R)) :
    Calls Try.prog 17 #[v, v2] w fun e w' => e = .returned (.bool R) ∧ Below w.heap.size w w' := by
  have hmx : Try.prog.follows .mixedOrders = true := by kernel_rfl
  obtain ⟨nv, ev, cv, rfl, -, ha, he, hcl⟩ := h1.out
  obtain ⟨nv2, ev2, cv2, rfl, -, hb, hf, hcl2⟩ := h2.out
  have hfe := hr.out
  clear h1 h2 hr
  obtain ⟨n0, d, a, es, cs⟩ := g
  obtain ⟨n1, d1, b, fs, hs⟩ := h
  simp only at ha hb he hf hcl hcl2
  simp only [Gr.mk.injEq] at hfe
  obtain ⟨ao, ac, rfl, hc1, hm1, -⟩ := id ha
  obtain ⟨bo, bc, rfl, -, -, -⟩ := id hb
  obtain ⟨eo, ec, rfl, hc2, hm2, -⟩ := id he
  obtain ⟨fo, fc, rfl, -, -, -⟩ := id hf
  obtain ⟨co, cc, rfl, hc3, hm3, -⟩ := id hcl
  obtain ⟨ho, hc, rfl, -, -, -⟩ := id hcl2
  unfold maxLen at hm1 hm2 hm3
  have hla : a.length ≤ 9223372036854775807 := by omega
  have hle : es.length ≤ 9223372036854775807 := by omega
  have hlc : cs.length ≤ 9223372036854775807 := by omega
  obtain ⟨X, hX⟩ : ∃ X, bb n0 = X := ⟨_, rfl⟩
  obtain ⟨Y, hY⟩ : ∃ Y, bb n1 = Y := ⟨_, rfl⟩
  have hXY : n0 = n1 ↔ X.toList = Y.toList := by rw [← hX, ← hY, ByteArray.toList_eq, ByteArray.toList_eq]
  simp only [hX, hY]
  simp only [hXY] at hfe
  have HB := Lib.hid (al2 w (.cells #[.string X, .bool d, .slice ao a.length ac, .slice eo es.length ec, .slice co cs.length cc] 26) (.cells #[.string Y, .bool d1, .slice bo b.length bc, .slice fo fs.length fc, .slice ho hs.length hc] 26))
  have HC := Lib.hid (gat_alloc (.cells #[.string Y, .bool d1, .slice bo b.length bc, .slice fo fs.length fc, .slice ho hs.length hc] 26) (gat_new w X d (.slice ao a.length ac) (.slice eo es.length ec) (.slice co cs.length cc) 26))
  have hd := gat_new (w.alloc (.cells #[.string X, .bool d, .slice ao a.length ac, .slice eo es.length ec, .slice co cs.length cc] 26)) Y d1 (.slice bo b.length bc) (.slice fo fs.length fc) (.slice ho hs.length hc) 26
  rw [World.size_alloc] at hd
  have HD := Lib.hid hd
  have HA := Lib.hid (ha.keep HB.out)
  have HA2 := Lib.hid (hb.keep HB.out)
  have HE := Lib.hid (he.keep HB.out)
  have HE2 := Lib.hid (hf.keep HB.out)
  have HK := Lib.hid (hcl.keep HB.out)
  have HK2 := Lib.hid (hcl2.keep HB.out)
  have hga1 := guard_ed
  have hga2 := guard_cl
  obtain ⟨c0, c1, c2, c3, c4⟩ := HC.out
  obtain ⟨d0, d1', d2, d3, d4⟩ := HD.out
  clear hc1 hm1 hc2 hm2 hc3 hm3 ha hb he hf hcl hcl2 hd hX hY hXY
  by_cases k0 : X.toList = Y.toList
  case neg =>
    have z0 : (X.toList == Y.toList) = false := by rw [beq_eq_false_iff_ne]; exact k0
    have y0 : (X.toList != Y.toList) = true := by rw [bne_iff_ne]; exact k0
    rw [decide_eq_false (fun e => k0 (e.1))] at hfe
    subst hfe
    clear k0
    go_enter Try.func17, Try.ntmps17
    go_wp2
    go_ret
    exact ⟨rfl, HB.out⟩
  have z0 : (X.toList == Y.toList) = true := by rw [beq_iff_eq]; exact k0
  have y0 : (X.toList != Y.toList) = false := by rw [bne_eq_false_iff_eq]; exact k0
  by_cases k1 : d = d1
  case neg =>
    rw [decide_eq_false (fun e => k1 (e.2.1))] at hfe
    subst hfe
    clear k0
    cases d <;> cases d1 <;> first | exact absurd rfl k1 | skip
    all_goals
      clear k1
      go_enter Try.func17, Try.ntmps17
      go_wp2
      go_ret
      exact ⟨rfl, HB.out⟩
  subst k1
  have y1 : (d != d) = false := by simp
  by_cases k2 : a.length = b.length
  case neg =>
    have y2 : ((a.length : Int) != (b.length : Int)) = true := by rw [bne_iff_ne]; omega
    rw [decide_eq_false (fun e => k2 (congrArg List.length e.2.2.1))] at hfe
    subst hfe
    clear k0 k2
    go_enter Try.func17, Try.ntmps17
    go_wp2
    go_ret
    exact ⟨rfl, HB.out⟩
  have y2 : ((a.length : Int) != (b.length : Int)) = false := by rw [k2]; simp
  by_cases k3 : es.length = fs.length
  case neg =>
    have y3 : ((es.length : Int) != (fs.length : Int)) = true := by rw [bne_iff_ne]; omega
    rw [decide_eq_false (fun e => k3 (congrArg List.length e.2.2.2.1))] at hfe
    subst hfe
    clear k0 k2 k3
    go_enter Try.func17, Try.ntmps17
    go_wp2
    go_ret
    exact ⟨rfl, HB.out⟩
  have y3 : ((es.length : Int) != (fs.length : Int)) = false := by rw [k3]; simp
  by_cases k4 : cs.length = hs.length
  case neg =>
    have y4 : ((cs.length : Int) != (hs.length : Int)) = true := by rw [bne_iff_ne]; omega
    rw [decide_eq_false (fun e => k4 (congrArg List.length e.2.2.2.2))] at hfe
    subst hfe
    clear k0 k2 k3 k4
    go_enter Try.func17, Try.ntmps17
    go_wp2
    go_ret
    exact ⟨rfl, HB.out⟩
  have y4 : ((cs.length : Int) != (hs.length : Int)) = false := by rw [k4]; simp
  have HL := Lib.hid k2
  have HL2 := Lib.hid k3
  have HL3 := Lib.hid k4
  have HR : Hid (decide (a = b ∧ es = fs ∧ cs = hs) = R) := Lib.hid (by rw [← hfe]; simp [k0])
  obtain ⟨W2, hW2⟩ : ∃ W2, (w.alloc (.cells #[.string X, .bool d, .slice ao a.length ac, .slice eo es.length ec, .slice co cs.length cc] 26)).alloc (.cells #[.string Y, .bool d, .slice bo b.length bc, .slice fo fs.length fc, .slice ho hs.length hc] 26) = W2 := ⟨_, rfl⟩
  have HW2 := Lib.hid hW2
  clear hW2 hfe k0 k2 k3 k4
  go_enter Try.func17, Try.ntmps17
  go_wp2_with fail
  rw [HW2.out] at HB HC HD HA HA2 HE HE2 HK HK2 ⊢
  clear c0 c1 c2 c3 c4 d0 d1' d2 d3 d4 z0 y0 y1 y2 y3 y4
  go_loopw [5] (fun iv wr => ∃ i : Nat, iv = .int .i64 i ∧ i ≤ a.length ∧ a.take i = b.take i ∧ Below W2.heap.size W2 wr) (fun iv _ => a.length - (intOf iv).toNat)
  case atStart => exact ⟨0, rfl, Nat.zero_le _, rfl, Below.refl _ _⟩
  case round =>
    obtain ⟨i, rfl, hi, htk, hB⟩ := hrel
    rename World => wr
    obtain ⟨-, -, c2, c3, c4⟩ := gat_keep HC.out hB
    obtain ⟨-, -, d2, d3, d4⟩ := gat_keep HD.out hB
    by_cases hlt : i < a.length
    · have hlt2 : i < b.length := by have := HL.out; omega
      have hBd := hB.drew
      have HBd := Lib.hid (below_keep hBd HB.out)
      have hC := gat_keep HC.out hBd
      have hD := gat_keep HD.out hBd
      have ha := (HA.out.keep hBd)
      have hb := (HA2.out.keep hBd)
      obtain ⟨A, rfl, s0, s1, s2, s3, s4, ⟨pv, s5, hs6⟩, -⟩ := ha.get hlt
      obtain ⟨B, rfl, t0, t1, t2, t3, t4, ⟨pv2, t5, ht6⟩, -⟩ := hb.get hlt2
      obtain ⟨x, hx⟩ : ∃ x, a[i] = x := ⟨_, rfl⟩
      obtain ⟨y, hy⟩ : ∃ y, b[i] = y := ⟨_, rfl⟩
      rw [hx] at s0 s1 s2 s3 s4 hs6
      rw [hy] at t0 t1 t2 t3 t4 ht6
      obtain ⟨po, pc, rfl, -, -, -⟩ := id hs6
      obtain ⟨qo, qc, rfl, -, -, -⟩ := id ht6
      have HX : Hid (NdV wr.drew (.agg #[.string (bb x.nm), .string (bb x.lb), .int .i64 x.w, .int .i64 x.h, .int .i64 x.cl, .slice po x.ps.length pc]) x) := Lib.hid ⟨_, rfl, hs6⟩
      have HY : Hid (NdV wr.drew (.agg #[.string (bb y.nm), .string (bb y.lb), .int .i64 y.w, .int .i64 y.h, .int .i64 y.cl, .slice qo y.ps.length qc]) y) := Lib.hid ⟨_, rfl, ht6⟩
      have i0 : (0 : Int) ≤ (i : Int) := by omega
      have i1 : (i : Int) < (a.length : Int) := by omega
      have i2 : (i : Int) < (b.length : Int) := by omega
      have HXY : Hid ((x = y → a.take (i + 1) = b.take (i + 1)) ∧ (x ≠ y → a ≠ b)) := Lib.hid ⟨fun e => take_eq hlt hlt2 htk (by rw [hx, hy, e]), fun e => take_ne hlt hlt2 (by rw [hx, hy]; exact e)⟩
      clear htk hx hy ha hb hs6 ht6
      go_wp2_with fail
      refine wp_region_still_tail 10 (by kernel_rfl) (by kernel_rfl) ?_
      change wpStill _ _ wr.drew (fun a' => wpList _ _ _ _ a' wr.drew) _ _
      clear c2 c3 c4 d2 d3 d4
      have HBD := Lib.hid hBd
      clear hBd
      generalize wr.drew = wd at *
      obtain ⟨-, -, c2, -, -⟩ := hC
      obtain ⟨-, -, d2, -, -⟩ := hD
      simp only [List.take_succ_cons, List.take_zero, List.drop_succ_cons, List.drop_zero]
      repeat still_step
      refine wpStill_nil ?_
      clear s0 s1 s2 s3 s4 s5 t0 t1 t2 t3 t4 t5 c2 d2
      obtain ⟨q, hq⟩ : ∃ q, decide (x = y) = q := ⟨_, rfl⟩
      have HQ := Lib.hid hq
      clear hq
      go_wp2_with fail
      refine (gsamenode_of _ _ x y q wd HX HY HQ).mono ?_
      rintro e w3 ⟨rfl, hb3⟩
      have HB3 := Lib.hid (below_keep hb3 HBD.out)
      clear hb3
      cases q
      · have hfe := HR.out
        rw [decide_eq_false (fun e => HXY.out.2 (of_decide_eq_false HQ.out) e.1)] at hfe
        subst hfe
        go_wp2
        go_ret
        exact ⟨rfl, below_keep HB3.out HB.out⟩
      · have HT := Lib.hid (HXY.out.1 (of_decide_eq_true HQ.out))
        go_wp2
        go_roundw
        case rel => exact ⟨i + 1, by go_num, by omega, HT.out, HB3.out⟩
        case measure => simp [intOf]; omega
    · have HR2 : Hid (decide (es = fs ∧ cs = hs) = R) := Lib.hid (by have := HR.out; rw [← this]; simp [take_all HL.out (by omega) htk])
      have HBr := Lib.hid hB
      clear htk hB HR
      go_wp2_with fail
      clear c2 c3 c4 d2 d3 d4
      go_loopw [6] (fun iv wr => ∃ i : Nat, iv = .int .i64 i ∧ i ≤ es.length ∧ es.take i = fs.take i ∧ Below W2.heap.size W2 wr) (fun iv _ => es.length - (intOf iv).toNat)
      case atStart => exact ⟨0, rfl, Nat.zero_le _, rfl, HBr.out⟩
      case round =>
        obtain ⟨i, rfl, hi, htk, hB⟩ := hrel
        rename World => wq
        have HB2 := Lib.hid (below_keep hB HB.out)
        obtain ⟨-, -, -, c3, c4⟩ := gat_keep HC.out hB
        obtain ⟨-, -, -, d3, d4⟩ := gat_keep HD.out hB
        by_cases hlt : i < es.length
        · have hlt2 : i < fs.length := by have := HL2.out; omega
          obtain ⟨A, rfl, s0, s1, s2, s3, s4, s5, s6, -⟩ := (HE.out.keep hB).get hlt
          obtain ⟨B, rfl, t0, t1, t2, t3, t4, t5, t6, -⟩ := (HE2.out.keep hB).get hlt2
          obtain ⟨x, hx⟩ : ∃ x, es[i] = x := ⟨_, rfl⟩
          obtain ⟨y, hy⟩ : ∃ y, fs[i] = y := ⟨_, rfl⟩
          rw [hx] at s0 s1 s2 s3 s4 s5 s6
          rw [hy] at t0 t1 t2 t3 t4 t5 t6
          have i0 : (0 : Int) ≤ (i : Int) := by omega
          have i1 : (i : Int) < (es.length : Int) := by omega
          have i2 : (i : Int) < (fs.length : Int) := by omega
          by_cases hxy : x = y
          · have hneq := neq_ed x y false (Lib.hid (by simp [hxy]))
            have HT := Lib.hid (take_eq hlt hlt2 htk (by rw [hx, hy, hxy]))
            clear htk hx hy hxy
            go_wp2_with fail
            go_quiet (fail)
            have HB3 := Lib.hid (below_keep (drew_n wq nq) hB)
            generalize wq.drewN nq = w3 at HB3 ⊢
            go_wp2
            go_roundw
            case rel => exact ⟨i + 1, by go_num, by omega, HT.out, HB3.out⟩
            case measure => simp [intOf]; omega
          · have hneq := neq_ed x y true (Lib.hid (by simp [hxy]))
            have hfe := HR2.out
            rw [decide_eq_false (fun e => take_ne hlt hlt2 (by rw [hx, hy]; exact hxy) e.1)] at hfe
            subst hfe
            clear htk hx hy hxy
            go_wp2_with fail
            go_quiet (fail)
            have HB3 := Lib.hid (below_keep (drew_n wq nq) HB2.out)
            generalize wq.drewN nq = w3 at HB3 ⊢
            go_wp2
            go_ret
            exact ⟨rfl, HB3.out⟩
        · have HR3 : Hid (decide (cs = hs) = R) := Lib.hid (by have := HR2.out; rw [← this]; simp [take_all HL2.out (by omega) htk])
          have HBr := Lib.hid hB
          clear htk hB HR2
          go_wp2_with fail
          clear c3 c4 d3 d4
          go_loopw [7] (fun iv wr => ∃ i : Nat, iv = .int .i64 i ∧ i ≤ cs.length ∧ cs.take i = hs.take i ∧ Below W2.heap.size W2 wr) (fun iv _ => cs.length - (intOf iv).toNat)
          case atStart => exact ⟨0, rfl, Nat.zero_le _, rfl, HBr.out⟩
          case round =>
            obtain ⟨i, rfl, hi, htk, hB⟩ := hrel
            rename World => wq
            have HB2 := Lib.hid (below_keep hB HB.out)
            obtain ⟨-, -, -, c3, c4⟩ := gat_keep HC.out hB
            obtain ⟨-, -, -, d3, d4⟩ := gat_keep HD.out hB
            by_cases hlt : i < cs.length
            · have hlt2 : i < hs.length := by have := HL3.out; omega
              obtain ⟨A, rfl, s0, s1, -⟩ := (HK.out.keep hB).get hlt
              obtain ⟨B, rfl, t0, t1, -⟩ := (HK2.out.keep hB).get hlt2
              obtain ⟨x, hx⟩ : ∃ x, cs[i] = x := ⟨_, rfl⟩
              obtain ⟨y, hy⟩ : ∃ y, hs[i] = y := ⟨_, rfl⟩
              rw [hx] at s0 s1
              rw [hy] at t0 t1
              have i0 : (0 : Int) ≤ (i : Int) := by omega
              have i1 : (i : Int) < (cs.length : Int) := by omega
              have i2 : (i : Int) < (hs.length : Int) := by omega
              by_cases hxy : x = y
              · have hneq := neq_cl x y false (Lib.hid (by simp [hxy]))
                have HT := Lib.hid (take_eq hlt hlt2 htk (by rw [hx, hy, hxy]))
                clear htk hx hy hxy
                go_wp2_with fail
                go_quiet (fail)
                have HB3 := Lib.hid (below_keep (drew_n wq nq) hB)
                generalize wq.drewN nq = w3 at HB3 ⊢
                go_wp2
                go_roundw
                case rel => exact ⟨i + 1, by go_num, by omega, HT.out, HB3.out⟩
                case measure => simp [intOf]; omega
              · have hneq := neq_cl x y true (Lib.hid (by simp [hxy]))
                have hfe := HR3.out
                rw [decide_eq_false (fun e => take_ne hlt hlt2 (by rw [hx, hy]; exact hxy) e)] at hfe
                subst hfe
                clear htk hx hy hxy
                go_wp2_with fail
                go_quiet (fail)
                have HB3 := Lib.hid (below_keep (drew_n wq nq) HB2.out)
                generalize wq.drewN nq = w3 at HB3 ⊢
                go_wp2
                go_ret
                exact ⟨rfl, HB3.out⟩
            · have hfe := HR3.out
              rw [decide_eq_true (take_all HL3.out (by omega) htk)] at hfe
              subst hfe
              clear htk
              go_wp2
              go_ret
              exact ⟨rfl, HB2.out⟩
end Go.Proofs.Ytjeacpohanadnaa.gra
