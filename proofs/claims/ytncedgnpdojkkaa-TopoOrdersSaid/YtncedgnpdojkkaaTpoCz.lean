/-
  What Longest of the landed code of layer 15 returns; all that the statements of the layer ask of the code. Condition: a digraph in memory.
-/
import Derived.Test.YtncedgnpdojkkaaTpoCw
import Derived.Test.YtncedgnpdojkkaaTpoCy
namespace Go.Proofs.Ytncedgnpdojkkaa.tpo
open Go.RowKit dig xpt

set_option maxRecDepth 100000 in
set_option maxHeartbeats 8000000 in
theorem clon_of : LonSays := by
  intro v n l L R w h hr
  have hmx : Try.prog.follows .mixedOrders = true := by kernel_rfl
  obtain ⟨av, rfl, hl⟩ := id h.out
  obtain ⟨lo, lc, rfl, -, -, -⟩ := id hl
  have HB1 := Lib.hid (al1 w (.cells #[.int .i64 n, .slice lo l.length lc] 24))
  have HK1 := Lib.hid (dgb_new w n lo l.length lc 24)
  have HV := Lib.hid h.out
  obtain ⟨o, b, hb⟩ : ∃ o b, ordV n l = (o, b) := ⟨_, _, rfl⟩
  have hfe := hr.out
  unfold lonV at hfe
  rw [hb] at hfe
  have HOV := Lib.hid hb
  have HFE := Lib.hid hfe
  obtain ⟨W1, hW1⟩ : ∃ W1, w.alloc (.cells #[.int .i64 n, .slice lo l.length lc] 24) = W1 := ⟨_, rfl⟩
  have HW1 := Lib.hid hW1
  rw [hW1] at HB1 HK1
  clear h hl hb hr hfe hW1
  go_enter Try.func11, Try.ntmps11
  go_wp2_with fail
  rw [HW1.out]
  obtain ⟨g0, hg0⟩ : ∃ g, w.heap.size = g := ⟨_, rfl⟩
  have HG0 := Lib.hid hg0
  rw [hg0] at HK1
  try simp only [hg0]
  clear hg0 HW1
  refine (cord_of _ n l o b W1 (Lib.hid (HV.out.keep HB1.out)) HOV).mono ?_
  rintro e w2 ⟨ov, rfl, hins, hb2⟩
  have HB2 := Lib.hid (below_keep hb2 HB1.out)
  have HK2 := Lib.hid (dgb_keep HK1.out hb2)
  have HIO := Lib.hid hins
  obtain ⟨oo, oc, rfl, -, -, -⟩ := id hins
  clear hb2 HB1 HK1 hins
  obtain ⟨c0, c1, -, -⟩ := HK2.out
  cases b
  case false =>
    have hf := HFE.out
    rw [if_neg (by decide)] at hf
    cases hf
    go_wp2
    refine bodyPost_ret (v := .tuple #[.slice none 0 0, .bool false]) (by simp [results, Try.results11, go_sem]) rfl ?_
    exact ⟨_, rfl, Rw.nil .., HB2.out⟩
  obtain ⟨hvd, hof, htop, hol⟩ := ordV_true HOV.out
  have HVD := Lib.hid hvd
  obtain ⟨h0, h64, h256, hok⟩ := validD_iff.1 HVD.out
  obtain ⟨m, rfl⟩ := Int.eq_ofNat_of_zero_le h0
  have hf := HFE.out
  rw [if_pos rfl] at hf
  simp only [Int.toNat_natCast] at hf htop hol
  have hpl := push_lon htop hol hok
  obtain ⟨rfl, rfl⟩ : L = pushF l m o ∧ R = true := ⟨by rw [hpl]; exact (Prod.mk.inj hf).1.symm, (Prod.mk.inj hf).2.symm⟩
  have HT := Lib.hid htop
  have HOK := Lib.hid hok
  have HOL := Lib.hid hol
  have hol64 : o.length ≤ 64 := by omega
  clear hf HFE hok htop hol hof hpl hvd
  go_wp2_with fail
  refine (cheads_of _ m l w2 (Lib.hid (HV.out.keep HB2.out)) HVD).mono ?_
  rintro e w3 ⟨nv, rfl, hlst, -, hb3⟩
  have HB3 := Lib.hid (below_keep hb3 HB2.out)
  have HK3 := Lib.hid (dgb_keep HK2.out hb3)
  have HI3 := Lib.hid (HIO.out.keep hb3)
  have HLS := Lib.hid hlst
  obtain ⟨no, nc, rfl, -, -, -⟩ := id hlst
  rw [outsL_len] at HLS ⊢
  clear hb3 hlst c0 c1 HB2 HK2 HIO
  obtain ⟨c0, c1, -, -⟩ := HK3.out
  obtain ⟨i0, hi, hz0, hz1, hz2⟩ := info_of_cin
  have hgw : w.heap.size ≤ w3.heap.size := HB3.out.size
  obtain ⟨g, hgg⟩ : ∃ B, w3.heap.size = B := ⟨_, rfl⟩
  have HSZ : Hid (w3.heap.size = g) := Lib.hid hgg
  have hbm : i0.bytes * m ≤ 281474976710656 := by rw [hz2]; omega
  have hmm : m ≤ maxLen := by unfold maxLen; omega
  rw [hgg] at hgw
  clear hgg
  go_wp2_with (at_make; refine wpList_make_full _ rfl _ _ 25 rfl w3.heap.size 3 i0 (.int .i64 0) 1 Try.underlying25 hi hz0 hz1 .i64 .i64 _ _ m rfl rfl rfl rfl hbm hmm (Nat.le_refl _) ?_; intro w4 hown hgrow; have hrow0 := Frow.made (c := Value.int .i64) rfl hown; have hb4 := (Below.refl w3.heap.size w3).grown hgrow (Nat.le_refl _) (fun q hq => by cases hq))
  simp only [HSZ.out] at hrow0 hb4 ⊢
  have HB4 := Lib.hid hb4
  have HROW0 : Hid (Zrow w4 g g m (pushF l m (o.take 0))) := Lib.hid hrow0
  clear hrow0 hb4 hown hgrow c0 c1 HK3
  go_loopw [26] (fun iv wr => ∃ (k : Nat), iv = .int .i64 k ∧ k ≤ o.length ∧ Zrow wr g g m (pushF l m (o.take k)) ∧ Below g w3 wr) (fun iv _ => o.length - (intOf iv).toNat)
  case atStart => exact ⟨0, rfl, Nat.zero_le _, HROW0.out, HB4.out⟩
  case round =>
    obtain ⟨k, rfl, hk, hrow, hB⟩ := hrel
    rename World => wr
    have HROW := Lib.hid hrow
    have HB := Lib.hid hB
    clear hrow hB HROW0 HB4
    by_cases hlt : k < o.length
    case neg =>
      obtain rfl : k = o.length := by omega
      have e3 : ¬ (o.length : Int) < (o.length : Int) := by omega
      have hz := HROW.out
      rw [List.take_length] at hz
      have HZ := Lib.hid hz
      clear hz
      go_wp2
      refine bodyPost_ret (v := .tuple #[.slice (some ⟨g, 0, none⟩) m m, .bool true]) (by simp [results, Try.results11, go_sem]) rfl ?_
      exact ⟨_, rfl, Zrow.ins HZ.out, HB3.out.trans (HB.out.mono hgw)⟩
    obtain ⟨A, rfl, p0⟩ := (HI3.out.keep (by rw [HSZ.out]; exact HB.out)).at hlt
    obtain ⟨c, hc⟩ : ∃ c, o[k] = c := ⟨_, rfl⟩
    have hkc : o[k]? = some c := by rw [List.getElem?_eq_getElem hlt, hc]
    have hcr := HT.out.range c (by rw [← hc]; exact List.getElem_mem hlt)
    rw [hc] at p0
    obtain ⟨c, rfl⟩ := Int.eq_ofNat_of_zero_le hcr.1
    have hcm : c < m := by omega
    have HKC := Lib.hid hkc
    obtain ⟨A2, lv, hA, q5, hins⟩ := HLS.out.at (k := c) (by rw [outsL_len]; exact hcm)
    subst hA
    have hva := outsL_at (l := l) hcm
    rw [List.getElem?_eq_getElem (by rw [outsL_len]; exact hcm)] at hva
    rw [Option.some.inj hva] at hins
    obtain ⟨lo2, lc2, hlv, -, -, -⟩ := id hins
    subst hlv
    replace q5 := cell_later' (show Below w3.heap.size w3 wr by rw [HSZ.out]; exact HB.out) q5
    have HINS := Lib.hid hins
    obtain ⟨ol, hol2⟩ : ∃ ol, (outs l (c : Int)).length = ol := ⟨_, rfl⟩
    have HOLN := Lib.hid hol2
    have hol : ol ≤ 256 := by rw [← hol2]; exact Nat.le_trans (outs_len _ _) h256
    rw [hol2] at q5
    have e3 : (k : Int) < (o.length : Int) := by omega
    have i0 : (0 : Int) ≤ (k : Int) := by omega
    have i2 : (0 : Int) ≤ (c : Int) := by omega
    have i3 : (c : Int) < (m : Int) := by omega
    obtain ⟨D, hD⟩ : ∃ D, pushF l m (o.take k) = D := ⟨_, rfl⟩
    have hDl : D.length = m := by rw [← hD, pushF_len]
    have HRG := Lib.hid (push_rng HT.out HOK.out k hk)
    have HSTP := Lib.hid (pushF_take (l := l) (n := m) hkc)
    have HNS := Lib.hid (top_noself HT.out hkc k (Nat.le_refl _) _ hkc)
    rw [hD] at HRG HSTP HROW
    clear hins hva hol2 hc hkc hcr hD
    go_wp2_with fail
    clear p0 q5
    go_loopw [35] (fun iv wx => ∃ j : Nat, iv = .int .i64 j ∧ j ≤ ol ∧ Zrow wx g g m (pushL (c : Int) ((outs l (c : Int)).take j) D) ∧ Below g w3 wx) (fun iv _ => ol - (intOf iv).toNat)
    case atStart => exact ⟨0, rfl, Nat.zero_le _, HROW.out, HB.out⟩
    case round =>
      obtain ⟨j, rfl, hj, hzr, hB⟩ := hrel
      rename World => wx
      have HZX := Lib.hid hzr
      have HBX := Lib.hid hB
      clear hzr hB HROW HB
      by_cases hjl : j < ol
      case neg =>
        obtain rfl : j = ol := by omega
        have e4 : ¬ (j : Int) < (j : Int) := by omega
        have hz := HZX.out
        rw [← HOLN.out, List.take_length, ← HSTP.out] at hz
        have HZN := Lib.hid hz
        clear hz
        go_wp2
        go_roundw
        case rel => exact ⟨k + 1, by go_num, by omega, HZN.out, HBX.out⟩
        case measure => simp [intOf]; omega
      have hjl2 : j < (outs l (c : Int)).length := by rw [HOLN.out]; exact hjl
      obtain ⟨y, hy⟩ : ∃ y, (outs l (c : Int))[j] = y := ⟨_, rfl⟩
      have hyj : (outs l (c : Int))[j]? = some y := by rw [List.getElem?_eq_getElem hjl2, hy]
      obtain ⟨y0, y1⟩ := outs_rng HOK.out (by rw [← hy]; exact List.getElem_mem hjl2 : y ∈ outs l (c : Int))
      have hin := HINS.out.keep (show Below w3.heap.size w3 wx by rw [HSZ.out]; exact HBX.out)
      obtain ⟨A3, hA3, p0⟩ := Ins.at hin hjl2
      subst hA3
      rw [hy] at p0
      obtain ⟨y, rfl⟩ := Int.eq_ofNat_of_zero_le y0
      have hym : y < m := by omega
      have hst := pushL_take (c := (c : Int)) (D := D) hyj
      have hca := push_at (c : Int) i2 ((outs l (c : Int)).take j) D (c : Int) (fun u hu => by rw [hDl]; exact outs_rng HOK.out (List.mem_of_mem_take hu)) (fun q => HNS.out (List.mem_of_mem_take q)) i2
      rw [if_neg (fun q => HNS.out (List.mem_of_mem_take q))] at hca
      have hrg := HRG.out (c : Int) i2
      obtain ⟨E, hE⟩ : ∃ E, pushL (c : Int) ((outs l (c : Int)).take j) D = E := ⟨_, rfl⟩
      rw [hE] at hst hca HZX
      rw [← hca] at hrg
      unfold pushA at hst
      obtain ⟨d1, hd1⟩ : ∃ d, dAt E (y : Int) = d := ⟨_, rfl⟩
      obtain ⟨d2, hd2⟩ : ∃ d, dAt E (c : Int) = d := ⟨_, rfl⟩
      have r1 := Zrow.at HZX.out hym
      have r2 := Zrow.at HZX.out hcm
      have r3 := Frow.free HZX.out y
      rw [hd1] at r1 hst
      rw [hd2] at r2 hst hrg
      rw [Int.toNat_natCast] at hst
      obtain ⟨mm, hmm2⟩ : ∃ mm, max d1 (d2 + 1) = mm := ⟨_, rfl⟩
      rw [hmm2] at hst
      have HMM := Lib.hid hmm2
      have HST := Lib.hid hst
      have hx0 : -9223372036854775808 ≤ d2 + 1 := by omega
      have hx1 : d2 + 1 ≤ 9223372036854775807 := by omega
      have e4 : (j : Int) < (ol : Int) := by omega
      have j0 : (0 : Int) ≤ (j : Int) := by omega
      have j2 : (0 : Int) ≤ (y : Int) := by omega
      have j3 : (y : Int) < (m : Int) := by omega
      clear hin hst hE hd1 hd2 hca hy hyj hjl2 hmm2
      go_wp2_with fail
      clear p0
      refine tstart (fun W : World => W.cell? ⟨g, y, none⟩ = some (.int .i64 d1) ∧ W.cell? ⟨g, c, none⟩ = some (.int .i64 d2) ∧ W.frozen? ⟨g, y, none⟩ = false) 13 (by kernel_rfl) ⟨cell_later' (b_drew wx) r1, cell_later' (b_drew wx) r2, r3⟩ (fun hHeld => ?_)
      have hbd := b_drew wx
      have HBD : Hid (Below g w3 wx.drew) := Lib.hid (HBX.out.drew)
      have HZD : Hid (Zrow wx.drew g g m E) := Lib.hid (Frow.keep HZX.out hbd)
      replace hHeld : (fun W : World => W.cell? ⟨g, y, none⟩ = some (.int .i64 d1) ∧ W.cell? ⟨g, c, none⟩ = some (.int .i64 d2) ∧ W.frozen? ⟨g, y, none⟩ = false) wx.drew := hHeld
      clear hbd HZX HBX r1 r2 r3
      generalize wx.drew = wd at HBD HZD hHeld ⊢
      refine ton 0 39 (.slice (some ⟨g, 0, none⟩) m m) ?_
      refine ton 1 40 (.int .i64 (y : Int)) ?_
      refine ton 2 41 (.slice (some ⟨g, 0, none⟩) m m) ?_
      refine ton 3 42 (.int .i64 (y : Int)) ?_
      try simp only [List.setIfInBounds_toArray, List.set_cons_zero, List.set_cons_succ]
      refine ton 4 43 (.pointer (some ⟨g, y, none⟩)) ?_
      try simp only [List.setIfInBounds_toArray, List.set_cons_zero, List.set_cons_succ]
      refine ton 5 44 (.int .i64 d1) ?_
      refine ton 6 45 (.slice (some ⟨g, 0, none⟩) m m) ?_
      refine ton 7 46 (.int .i64 (c : Int)) ?_
      try simp only [List.setIfInBounds_toArray, List.set_cons_zero, List.set_cons_succ]
      refine ton 8 47 (.pointer (some ⟨g, c, none⟩)) ?_
      try simp only [List.setIfInBounds_toArray, List.set_cons_zero, List.set_cons_succ]
      refine ton 9 48 (.int .i64 d2) ?_
      try simp only [List.setIfInBounds_toArray, List.set_cons_zero, List.set_cons_succ]
      refine ton 10 49 (.int .i64 (IntKind.i64.wrap (d2 + 1))) ?_
      rw [IntWalk.i64_in (d2 + 1) ⟨hx0, hx1⟩]
      try simp only [List.setIfInBounds_toArray, List.set_cons_zero, List.set_cons_succ]
      refine tgo (i := 11) (by kernel_rfl) rfl (fun K hK => ?_)
      go_simp
      rw [HMM.out]
      refine hK.out _ _ (fun _ => hHeld) (fun hHeld => ?_)
      replace hHeld := hHeld (by decide)
      clear hK K
      try simp only [List.setIfInBounds_toArray, List.set_cons_zero, List.set_cons_succ]
      refine ton 12 51 (.pointer (some ⟨g, y, none⟩)) ?_
      try simp only [List.setIfInBounds_toArray, List.set_cons_zero, List.set_cons_succ]
      refine tgo (i := 13) (by kernel_rfl) rfl (fun K hK => ?_)
      obtain ⟨k1, k2, k3⟩ := id hHeld
      go_simp
      refine hK.out _ _ (fun h => absurd rfl h) (fun hHeld => ?_)
      clear hK K hHeld k1 k2 k3
      try simp only [List.setIfInBounds_toArray, List.set_cons_zero, List.set_cons_succ]
      refine tdone (by kernel_rfl) ?_ _
      go_wp2
      go_roundw
      case rel => exact ⟨j + 1, by go_num, by omega, by rw [HST.out]; exact Frow.put HZD.out y mm, HBD.out.setCell (Nat.le_refl _) _⟩
      case measure => simp [intOf]; omega
theorem sOrd : OrdSays := cord_of
theorem sLon : LonSays := clon_of
theorem sRch : RchSays := crch_of
theorem sStr : StrSays := cstr_of
theorem sAwake : AwakeSays := awake_of sOrd sRch sStr
end Go.Proofs.Ytncedgnpdojkkaa.tpo
