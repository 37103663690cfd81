/-
  What SameAll and Strong of the reference of layer 15 return. Conditions: a digraph, or lists of lists, in memory.
-/
import Derived.Test.YtncedgnpdojkkaaTpoRef3
namespace Go.Proofs.Ytncedgnpdojkkaa.tpo
open Go.RowKit dig

set_option maxRecDepth 100000 in
set_option maxHeartbeats 4000000 in
theorem tall_of (v v2 : Value) (a b : List (List Int)) (R : Bool) (w : World) (h1 : Hid (Lst w v a)) (h2 : Hid (Lst w v2 b)) (hr : Hid (decide (a = b) = R)) :
    Calls Try.prog 17 #[v, v2] w fun e w' => e = .returned (.bool R) ∧ Below w.heap.size w w' := by
  have hmx : Try.prog.follows .mixedOrders = true := by kernel_rfl
  obtain ⟨ao, ac, rfl, -, hm1, -⟩ := id h1.out
  obtain ⟨bo, bc, rfl, -, hm2, -⟩ := id h2.out
  have hla : a.length ≤ 9223372036854775807 := by have := h1.out; obtain ⟨_, _, e, hc, hm, _⟩ := this; cases e; unfold maxLen at hm; omega
  have hlb : b.length ≤ 9223372036854775807 := by have := h2.out; obtain ⟨_, _, e, hc, hm, _⟩ := this; cases e; unfold maxLen at hm; omega
  clear hm1 hm2
  have hfe := hr.out
  by_cases hl : a.length = b.length
  case neg =>
    have b0 : ((a.length : Int) != (b.length : Int)) = true := by rw [bne_iff_ne]; omega
    rw [decide_eq_false (fun e => hl (by rw [e]))] at hfe
    subst hfe
    clear hl
    go_enter Try.func17, Try.ntmps17
    go_wp2
    go_ret
    exact ⟨rfl, Below.refl _ _⟩
  have b0 : ((a.length : Int) != (b.length : Int)) = false := by rw [hl]; simp
  have HR := Lib.hid hfe
  clear hfe hr
  go_enter Try.func17, Try.ntmps17
  go_wp2_with fail
  go_loopw [5] (fun iv wr => ∃ i : Nat, iv = .int .i64 i ∧ i ≤ a.length ∧ a.take i = b.take i ∧ Below w.heap.size w wr) (fun iv _ => a.length - (intOf iv).toNat)
  case atStart => exact ⟨0, rfl, Nat.zero_le _, rfl, Below.refl _ _⟩
  case round =>
    obtain ⟨i, rfl, hi, htk, hB⟩ := hrel
    rename World => wr
    have HB := Lib.hid hB
    by_cases hlt : i < a.length
    · have hlt2 : i < b.length := by omega
      obtain ⟨A, u, rfl, q0, hu⟩ := (h1.out.keep hB).at hlt
      obtain ⟨B, u2, rfl, p0, hu2⟩ := (h2.out.keep hB).at hlt2
      obtain ⟨uo, uc, rfl, -, -, -⟩ := id hu
      obtain ⟨uo2, uc2, rfl, -, -, -⟩ := id hu2
      obtain ⟨x, hx⟩ : ∃ x, a[i] = x := ⟨_, rfl⟩
      obtain ⟨y, hy⟩ : ∃ y, b[i] = y := ⟨_, rfl⟩
      rw [hx] at q0 hu
      rw [hy] at p0 hu2
      have HU := Lib.hid hu
      have HU2 := Lib.hid hu2
      obtain ⟨q, hq⟩ : ∃ q, decide (x = y) = q := ⟨_, rfl⟩
      have HQ := Lib.hid hq
      have i0 : (0 : Int) ≤ (i : Int) := by omega
      have i1 : (i : Int) < (a.length : Int) := by omega
      have i2 : (i : Int) < (b.length : Int) := by omega
      have t0 := fun d os => cell_regrown q0 d os
      have t1 := fun d os => cell_regrown p0 d os
      have cC := fun dd os => Calls.regrown_of (w := wr) (d := dd) (os := os) (tsame_of _ _ x y q _ (Lib.hid (HU.out.keep (below_regrown wr dd os))) (Lib.hid (HU2.out.keep (below_regrown wr dd os))) HQ)
      cases q
      case true =>
        have HT := Lib.hid (dig.take_eq hlt hlt2 htk (by rw [hx, hy]; exact of_decide_eq_true hq))
        clear htk hx hy hq hB q0 p0 hu hu2
        go_wp2_with fail
        refine wp_region_quiet_below hmx (by kernel_rfl) ?_
        repeat (go_big_quiet_step (with_reducible exact cC _ _))
        refine wpQuiet_nil ?_
        intro _ hw'
        obtain ⟨⟨dq, osq⟩, hw''⟩ := hw'
        subst hw''
        go_wp2
        go_roundw
        case rel => exact ⟨i + 1, by go_num, by omega, HT.out, below_keep (below_regrown wr dq osq) HB.out⟩
        case measure => simp [intOf]; omega
      case false =>
        have hfe := HR.out
        rw [decide_eq_false (fun e => by subst e; rw [hx] at hy; exact absurd hy (of_decide_eq_false hq))] at hfe
        subst hfe
        clear htk hx hy hq hB q0 p0 hu hu2
        go_wp2_with fail
        refine wp_region_quiet_below hmx (by kernel_rfl) ?_
        repeat (go_big_quiet_step (with_reducible exact cC _ _))
        refine wpQuiet_nil ?_
        intro _ hw'
        obtain ⟨⟨dq, osq⟩, hw''⟩ := hw'
        subst hw''
        go_wp2
        go_ret
        exact ⟨rfl, below_keep (below_regrown wr dq osq) HB.out⟩
    · have hfe := HR.out
      rw [decide_eq_true (by rw [List.take_of_length_le (by omega), List.take_of_length_le (by omega)] at htk; exact htk)] at hfe
      subst hfe
      clear htk hB
      go_wp2
      go_ret
      exact ⟨rfl, HB.out⟩
/-- What each of the first vertices reaches. -/
def rchs (n : Int) (l : List Ar) (k : Nat) : List (List Int) := (List.range k).map fun v : Nat => rchV n l (v : Int)
theorem rchs_len (n : Int) (l : List Ar) (k : Nat) : (rchs n l k).length = k := by unfold rchs; simp
theorem rchs_succ (n : Int) (l : List Ar) (k : Nat) : rchs n l (k + 1) = rchs n l k ++ [rchV n l (k : Int)] := by unfold rchs; rw [List.range_succ, List.map_append]; rfl
theorem rchs_at (n : Int) (l : List Ar) {k i : Nat} (h : i < (rchs n l k).length) : (rchs n l k)[i] = rchV n l (i : Int) := by simp [rchs]
/-- A row of lists that a call leaves. -/
def MrOut (L : List (List Int)) (w : World) (e : Ending) (w' : World) : Prop := ∃ v, e = .returned v ∧ Lst w' v L ∧ Below w.heap.size w w'
/-- The same, where nothing of it lies in memory that was there before. -/
def MrfOut (L : List (List Int)) (w : World) (e : Ending) (w' : World) : Prop := ∃ v, e = .returned v ∧ Lst w' v L ∧ FreshL w' w.heap.size v ∧ Below w.heap.size w w'
set_option maxRecDepth 100000 in
set_option maxHeartbeats 8000000 in
theorem tstr_of (v : Value) (n : Int) (l : List Ar) (R : List (List Int)) (w : World) (h : Hid (DgV w v n l)) (hr : Hid (strV n l = R)) :
    Calls Try.prog 19 #[v] w (MrOut R w) := by
  obtain ⟨av, rfl, hl⟩ := id h.out
  obtain ⟨lo, lc, rfl, -, -, -⟩ := id hl
  have HL := Lib.hid hl
  have HB1 := Lib.hid (al1 w (.cells #[.int .i64 n, .slice lo l.length lc] 24))
  have HK1 := Lib.hid (dgb_new w n lo l.length lc 24)
  have HV := Lib.hid h.out
  obtain ⟨b, hb⟩ : ∃ b, validD n l = b := ⟨_, rfl⟩
  have hfe := hr.out
  unfold strV at hfe
  rw [hb] at hfe
  have HVD := Lib.hid hb
  have HFE := Lib.hid hfe
  obtain ⟨W1, hW1⟩ : ∃ W1, w.alloc (.cells #[.int .i64 n, .slice lo l.length lc] 24) = W1 := ⟨_, rfl⟩
  have HW1 := Lib.hid hW1
  rw [hW1] at HB1 HK1
  clear h hl hb hr hfe hW1
  go_enter Try.func19, Try.ntmps19
  go_wp2_with fail
  rw [HW1.out]
  obtain ⟨g0, hg0⟩ : ∃ g, w.heap.size = g := ⟨_, rfl⟩
  have HG0 := Lib.hid hg0
  rw [hg0] at HK1
  try simp only [hg0]
  clear hg0 HW1
  refine (rvalid_of _ n l b W1 (Lib.hid (HV.out.keep HB1.out)) HVD).mono ?_
  rintro e w2 ⟨rfl, hb2⟩
  have HB2 := Lib.hid (HB1.out.trans (hb2.mono HB1.out.size))
  have HK2 := Lib.hid (dgb_keep HK1.out hb2)
  clear hb2 HB1 HK1
  obtain ⟨c0, c1, -, -⟩ := HK2.out
  cases b
  case false =>
    have hf := HFE.out
    rw [if_neg (by decide)] at hf
    subst hf
    go_wp2
    go_ret
    exact ⟨_, rfl, Rw.nil .., HB2.out⟩
  have hf := HFE.out
  rw [if_pos rfl] at hf
  obtain ⟨h0, h64, h256, hok⟩ := validD_iff.1 HVD.out
  obtain ⟨m, rfl⟩ := Int.eq_ofNat_of_zero_le h0
  simp only [Int.toNat_natCast] at hf
  have HR := Lib.hid hf
  have hg1 : g0 < w2.heap.size := World.block_lt_of_cell? w2 _ c0
  have hgw : w.heap.size ≤ g0 := by rw [HG0.out]; exact Nat.le_refl _
  clear hf HFE hok
  go_wp2_with fail
  clear c0 c1
  go_loopw [3, 4] (fun tv iv wr => ∃ (k : Nat) (ro : Option Addr) (rc : Nat), iv = .int .i64 k ∧ tv = .slice ro k rc ∧ k ≤ m ∧ Mrow wr w2.heap.size (.slice ro k rc) (rchs m l k) ∧ Below w2.heap.size w2 wr) (fun _ iv _ => m - (intOf iv).toNat)
  case atStart => exact ⟨0, none, 0, rfl, rfl, Nat.zero_le _, Mrow.nil _ _, Below.refl _ _⟩
  case round =>
    obtain ⟨k, ro, rc, rfl, rfl, hk, hM, hB⟩ := hrel
    rename World => wr
    have HM := Lib.hid hM
    have HB := Lib.hid hB
    obtain ⟨c0, c1, -, -⟩ := dgb_keep HK2.out hB
    clear hM hB
    by_cases hlt : k < m
    case pos =>
      have e3 : (k : Int) < (m : Int) := by omega
      obtain ⟨X, hX⟩ : ∃ X, rchV m l (k : Int) = X := ⟨_, rfl⟩
      have HX := Lib.hid hX
      clear hX
      go_wp2_with fail
      refine (treachI_of _ m k l X wr (Lib.hid ⟨_, rfl, HL.out.keep (below_keep HB.out HB2.out)⟩) HX).mono ?_
      rintro e w4 ⟨u, rfl, hir, hb4⟩
      obtain ⟨uo, uc, rfl, -, -⟩ := own_form hir
      have HM4 := Lib.hid (HM.out.keep hb4)
      have HB4 := Lib.hid (below_keep hb4 HB.out)
      have HIR4 := Lib.hid (own_base hir HB.out.size)
      have hs4 := HB4.out.size
      have hlk := rchs_len m l k
      clear hir hb4 c0 c1 HM HB
      go_wp2_with (at_builtin; refine app_ls rfl (.tmp 18) (.tmp 22) rfl w2.heap.size _ (rchs m l k) uo X.length uc X w4.heap.size rfl rfl rfl HM4 HIR4 (by omega) hs4 ?_; intro ao6 cap6 w6 hM6 hgrow6; have hb6 := (Below.refl w2.heap.size w4).grown hgrow6 hs4 (fun q hq => Mrow.lt HM4.out q hq); have HM6 := Lib.hid hM6; have HB6 := Lib.hid (HB4.out.trans hb6); clear hgrow6 hb6 hM6)
      rw [hlk] at HM6
      go_roundw
      case rel => exact ⟨k + 1, ao6, cap6, by go_num, rfl, by omega, by rw [rchs_succ, HX.out]; exact HM6.out, HB6.out⟩
      case measure => simp [intOf]; omega
    obtain rfl : k = m := by omega
    have e3 : ¬ (k : Int) < (k : Int) := by omega
    have HBw := Lib.hid (below_keep HB.out HB2.out)
    have HKr := Lib.hid (dgb_keep HK2.out HB.out)
    go_wp2_with fail
    clear c0 c1 HB2 HK2 HB
    go_loopw [5, 6] (fun tv iv wq => ∃ (j : Nat) (oo : Option Addr) (oc : Nat), iv = .int .i64 j ∧ tv = .slice oo (strT k l j).length oc ∧ j ≤ k ∧ Mrow wq wr.heap.size (.slice oo (strT k l j).length oc) (strT k l j) ∧ Below wr.heap.size wr wq) (fun _ iv _ => k - (intOf iv).toNat)
    case atStart => exact ⟨0, none, 0, rfl, rfl, Nat.zero_le _, Mrow.nil _ _, Below.refl _ _⟩
    case round =>
      obtain ⟨j, oo, oc, rfl, rfl, hj, hO, hB⟩ := hrel
      rename World => wq
      have HO := Lib.hid hO
      have HB := Lib.hid hB
      obtain ⟨c0, c1, -, -⟩ := dgb_keep HKr.out hB
      clear hO hB
      by_cases hjk : j < k
      case neg =>
        obtain rfl : j = k := by omega
        have e4 : ¬ (j : Int) < (j : Int) := by omega
        have HLS := Lib.hid (Mrow.lst HO.out)
        rw [HR.out] at HLS ⊢
        go_wp2
        go_ret
        exact ⟨_, rfl, HLS.out, below_keep HB.out HBw.out⟩
      have e4 : (j : Int) < (k : Int) := by omega
      have j0 : (0 : Int) ≤ (j : Int) := by omega
      have hRl := rchs_len k l k
      have HMQ := Lib.hid (HM.out.keep HB.out).lst
      have hol : (strT k l j).length ≤ 64 := by have := str_len k l j; omega
      obtain ⟨X, hX⟩ : ∃ X, strT k l j = X := ⟨_, rfl⟩
      rw [hX] at HO hol
      simp only [hX]
      have HX := Lib.hid hX
      clear hX
      go_wp2_with fail
      clear c0 c1
      go_loopw [7, 8] (fun tv iv wx => ∃ (u : Nat) (co : Option Addr) (cc : Nat) (C : List Int), iv = .int .i64 u ∧ tv = .slice co C.length cc ∧ u ≤ k ∧ compT k l j u = C ∧ Irow wx wq.heap.size (.slice co C.length cc) C ∧ Below wq.heap.size wq wx) (fun _ iv _ => k - (intOf iv).toNat)
      case atStart => exact ⟨0, none, 0, [], rfl, rfl, Nat.zero_le _, rfl, own_nil _ _ _ _, Below.refl _ _⟩
      case round =>
        obtain ⟨u, co, cc, C, rfl, rfl, hu, hC, hir, hBx⟩ := hrel
        rename World => wx
        have hCl : C.length ≤ 64 := by rw [← hC]; have := comp_len k l j u; omega
        have HC := Lib.hid hC
        have HIR := Lib.hid hir
        have HBX := Lib.hid hBx
        have HOX := Lib.hid (HO.out.keep hBx)
        have hsx := hBx.size
        obtain ⟨c0, c1, -, -⟩ := dgb_keep HKr.out (below_keep hBx HB.out)
        clear hC hir hBx
        by_cases huk : u < k
        case pos =>
          have e5 : (u : Int) < (k : Int) := by omega
          have u0 : (0 : Int) ≤ (u : Int) := by omega
          have hls := HMQ.out.keep HBX.out
          rw [show (Value.slice ro k rc) = Value.slice ro (rchs k l k).length rc by rw [hRl]] at hls
          obtain ⟨A, v1, rfl, q0, hi1⟩ := Lst.at hls (k := j) (by omega)
          obtain ⟨A2, v2, eA, q1, hi2⟩ := Lst.at hls (k := u) (by omega)
          cases eA
          rw [rchs_at] at hi1 hi2
          obtain ⟨x1, x2, rfl, -, -, -⟩ := id hi1
          obtain ⟨y1, y2, rfl, -, -, -⟩ := id hi2
          have hst := comp_succ k l j u
          rw [HC.out] at hst
          unfold mutB at hst
          obtain ⟨p, hp⟩ : ∃ p, (rchV k l (j : Int)).contains (u : Int) = p := ⟨_, rfl⟩
          obtain ⟨q, hq⟩ : ∃ q, (rchV k l (u : Int)).contains (j : Int) = q := ⟨_, rfl⟩
          rw [hp, hq] at hst
          have HI1 := Lib.hid hi1
          have HI2 := Lib.hid hi2
          have HP := Lib.hid hp
          have HQ := Lib.hid hq
          have HST := Lib.hid hst
          clear hst hp hq hi1 hi2 hls
          cases p
          case false =>
            have HN : Hid (compT k l j (u + 1) = C) := Lib.hid (by rw [HST.out, Bool.false_and, if_neg (by decide), List.append_nil])
            go_wp2_with (with_reducible refine (thas_of _ _ u false _ HI1 HP).mono ?_; rintro e wz ⟨rfl, rfl⟩)
            go_roundw
            case rel => exact ⟨u + 1, co, cc, C, by go_num, rfl, by omega, HN.out, HIR.out, HBX.out⟩
            case measure => simp [intOf]; omega
          cases q
          case false =>
            have HN : Hid (compT k l j (u + 1) = C) := Lib.hid (by rw [HST.out, Bool.and_false, if_neg (by decide), List.append_nil])
            go_wp2_with (first | (with_reducible refine (thas_of _ _ u true _ HI1 HP).mono ?_; rintro e wz ⟨rfl, rfl⟩) | (with_reducible refine (thas_of _ _ j false _ HI2 HQ).mono ?_; rintro e wz ⟨rfl, rfl⟩))
            go_roundw
            case rel => exact ⟨u + 1, co, cc, C, by go_num, rfl, by omega, HN.out, HIR.out, HBX.out⟩
            case measure => simp [intOf]; omega
          have HN : Hid (compT k l j (u + 1) = C ++ [(u : Int)]) := Lib.hid (by rw [HST.out, Bool.true_and, if_pos rfl])
          go_wp2_with (first | (with_reducible refine (thas_of _ _ u true _ HI1 HP).mono ?_; rintro e wz ⟨rfl, rfl⟩) | (with_reducible refine (thas_of _ _ j true _ HI2 HQ).mono ?_; rintro e wz ⟨rfl, rfl⟩) | (at_builtin; refine app_in rfl (.tmp 50) (.tmp 52) rfl wq.heap.size _ C (u : Int) wx.heap.size rfl rfl rfl HIR (by omega) hsx ?_; intro io6 ic6 w6 hrow6 hgrow6; have hb6 := (Below.refl wq.heap.size wx).grown hgrow6 hsx (fun q hq => (World.ownsRow.lt HIR.out q hq).1); have HIR6 := Lib.hid hrow6; have HB6 := Lib.hid (HBX.out.trans hb6); clear hgrow6 hb6 hrow6))
          have hlC : (C ++ [(u : Int)]).length = C.length + 1 := by simp
          go_roundw
          case rel => exact ⟨u + 1, io6, ic6, C ++ [(u : Int)], by go_num, by rw [hlC], by omega, HN.out, by rw [hlC]; exact HIR6.out, HB6.out⟩
          case measure => simp [intOf]; omega
        obtain rfl : u = k := by omega
        have e5 : ¬ (u : Int) < (u : Int) := by omega
        have hCL : C = compL u l j := by rw [← HC.out]; unfold compL; simp
        have hself : (j : Int) ∈ C := by rw [hCL]; exact comp_self HVD.out (by omega) (by omega)
        have hpos : 0 < C.length := List.length_pos_of_mem hself
        obtain ⟨g, cap, arr, ev, hgB, hkk, -, -, harr⟩ := own_blk HIR.out hpos
        cases ev
        have hc0 : wx.cell? ⟨g, 0, none⟩ = some (.int .i64 C[0]) := by
          have hx := flat_get inC 1 (fun _ => rfl) C 0 0 hpos (by decide)
          rw [blk_cell hkk, harr 0 (by omega)]
          exact hx
        have hhead : C.head? = some C[0] := by rw [List.head?_eq_getElem?, List.getElem?_eq_getElem hpos]
        have hst := str_succ u l j
        rw [HX.out] at hst
        have hld : lead u l (j : Int) = (C[0] == (j : Int)) := by
          unfold lead
          rw [← hCL, hhead]
          rfl
        rw [hld, ← hCL] at hst
        obtain ⟨c, hcc⟩ : ∃ c, C[0] = c := ⟨_, rfl⟩
        rw [hcc] at hc0 hst
        have hpos' : (0 : Int) < (C.length : Int) := by omega
        obtain ⟨p, hp⟩ : ∃ p, (c == (j : Int)) = p := ⟨_, rfl⟩
        rw [hp] at hst
        have HST := Lib.hid hst
        have HCB := Lib.hid (own_base HIR.out HB.out.size)
        have HBn := Lib.hid (below_keep HBX.out HB.out)
        clear hst hld hcc hhead hself hCL harr hkk
        cases p
        case false =>
          have HN : Hid (strT u l (j + 1) = X) := Lib.hid (by rw [HST.out, if_neg (by decide), List.append_nil])
          go_wp2
          go_roundw
          case rel => exact ⟨j + 1, oo, oc, by go_num, by rw [HN.out], by omega, by rw [HN.out]; exact HOX.out, HBn.out⟩
          case measure => simp [intOf]; omega
        have HN : Hid (strT u l (j + 1) = X ++ [C]) := Lib.hid (by rw [HST.out, if_pos rfl])
        have hs4 := HBn.out.size
        go_wp2_with (at_builtin; refine app_ls rfl (.tmp 59) (.tmp 61) rfl wr.heap.size _ X (some ⟨g, 0, none⟩) C.length cc C wx.heap.size rfl rfl rfl HOX HCB (by omega) hs4 ?_; intro ao6 cap6 w6 hM6 hgrow6; have hb6 := (Below.refl wr.heap.size wx).grown hgrow6 hs4 (fun q hq => Mrow.lt HOX.out q hq); have HM6 := Lib.hid hM6; have HB6 := Lib.hid (HBn.out.trans hb6); clear hgrow6 hb6 hM6)
        have hlX : (X ++ [C]).length = X.length + 1 := by simp
        go_roundw
        case rel => exact ⟨j + 1, ao6, cap6, by go_num, by rw [HN.out, hlX], by omega, by rw [HN.out, hlX]; exact HM6.out, HB6.out⟩
        case measure => simp [intOf]; omega
end Go.Proofs.Ytncedgnpdojkkaa.tpo
