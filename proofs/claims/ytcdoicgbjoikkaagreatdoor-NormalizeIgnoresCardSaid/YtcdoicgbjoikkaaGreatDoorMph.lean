/-
  What read and readBlock of the landed builder do (layer 12): they read a block of statements. Conditions: valid statements of few refs in memory, a builder in memory that knows at most 100000 names; the library's variable MaxLen holds a number.
  What readBlock of the landed builder does (layer 12): it reads a block of statements, and the blocks in it. Conditions: valid statements of few refs in memory, a builder in memory that knows at most 100000 names; the library's variable MaxLen holds a number.
-/
import Derived.Test.YtcdoicgbjoikkaaGreatDoorNorRc
namespace Go.Proofs.YtcdoicgbjoikkaaGreatDoor.nor
open Go.RowKit lex tre att

theorem beq_yes {x y : Int} (h : x = y) : (x == y) = true := by rw [beq_iff_eq]; exact h
theorem beq_no {x y : Int} (h : x ≠ y) : (x == y) = false := by rw [beq_eq_false_iff_ne]; exact h
set_option maxRecDepth 100000 in
set_option maxHeartbeats 2000000 in
theorem read_of (w0 : World) (b : Nat) (nm : Nm) (d : Bool) (s : Bs) (x : BdV) (k : Int) (n : Nm) (r a : List Pr) (bd : List St) (rv av bv : Value) (p : Pl) (dv ev : Value) (S' : Bs) (E : Int) (w : World) (hM : Hid (Mx w0)) (hIH : Hid (BlkOk bd)) (hS : Hid (BdG w0 w b nm d s.g x)) (hp : Hid (PrsT w dv p.dn)) (hq : Hid (PrsT w ev p.de)) (hR : Hid (Prs w0 rv r)) (hA : Hid (Prs w0 av a)) (hB : Hid (Sts w0 bv bd)) (ho : Hid (okB bd)) (hz : sz s + 42 * (1 + cnt bd) ≤ 100000) (hr40 : r.length ≤ 40) (hal : Hid (s.ns.length = s.ats.length)) (hn : n.length ≤ maxLen) (ha60 : a.length ≤ 60) (hga : Hid (GaS s)) (hgp : Hid (GaP p)) (hE : Hid (stmC (.mk k n r a bd) p s = (S', E))) :
    Calls Tryz.prog 56 #[.pointer (some ⟨b, 0, none⟩), .agg #[.int .i64 k, .string (bb n), rv, av, bv], .int .i64 p.cl, .agg #[dv, ev]] w (MenOut w0 b nm d S' E w) := by
  obtain ⟨po, pc, rfl, _, _, _⟩ := id hp.out.prs
  obtain ⟨eo, ec, rfl, _, _, _⟩ := id hq.out.prs
  obtain ⟨ro, rc, rfl, _, _, _⟩ := id hR.out
  obtain ⟨ao, ac, rfl, _, _, _⟩ := id hA.out
  obtain ⟨bo, bc, rfl, _, _, _⟩ := id hB.out
  have hb1 := al2 w (.cells #[.int .i64 k, .string (bb n), .slice ro r.length rc, .slice ao a.length ac, .slice bo bd.length bc] 56) (.cells #[.slice po p.dn.length pc, .slice eo p.de.length ec] 70)
  have HS1 := Lib.hid (hS.out.below hb1)
  have HPP := Lib.hid (hp.out.keep hb1)
  have HQP := Lib.hid (hq.out.keep hb1)
  have HST1 : Hid (Stp w0 w ((w.alloc (.cells #[.int .i64 k, .string (bb n), .slice ro r.length rc, .slice ao a.length ac, .slice bo bd.length bc] 56)).alloc (.cells #[.slice po p.dn.length pc, .slice eo p.de.length ec] 70))) := Lib.hid (Stp.below hb1 hS.out.base)
  have hzl : sz s ≤ 100000 := by omega
  have hzr : sz s + r.length ≤ 100000 := by omega
  have hde : p.de.length ≤ 60 := Nat.le_trans hgp.out.2.len (by decide)
  clear hb1 hS hp hq
  by_cases h1 : k = 1
  · subst h1
    have e1 := hE.out
    have HE1 : Hid ((stmC (.mk 1 n r a bd) p s).2 = E) := Lib.hid (by rw [e1])
    have HG1 : Hid ((stmC (.mk 1 n r a bd) p s).1 = S') := Lib.hid (by rw [e1])
    rw [← HG1.out]
    clear e1 hE HG1
    go_enter Tryz.func56, Tryz.ntmps56
    go_wp2_with fail
    generalize (w.alloc (.cells #[.int .i64 1, .string (bb n), .slice ro r.length rc, .slice ao a.length ac, .slice bo bd.length bc] 56)).alloc (.cells #[.slice po p.dn.length pc, .slice eo p.de.length ec] 70) = w1 at *
    refine (readnode_of w0 b nm d s x n r a bd _ _ _ p _ _ E w1 HS1 HPP HQP hR hA hB hzl hal hn ha60 hga hgp HE1).mono ?_
    rintro e w2 ⟨rfl, hst2, hold2, hx2⟩
    have HST2 := Lib.hid (HST1.out.trans hst2)
    have HO2 := Lib.hid hold2
    have HX2 := Lib.hid hx2
    clear hst2 hold2 hx2
    go_wp2
    go_ret
    exact ⟨rfl, HST2.out, HO2.out, HX2.out⟩
  have b1 := beq_no h1
  by_cases h2 : k = 2
  · subst h2
    have e1 := hE.out
    have HE1 : Hid ((stmC (.mk 2 n r a bd) p s).2 = E) := Lib.hid (by rw [e1])
    have HG1 : Hid ((stmC (.mk 2 n r a bd) p s).1 = S') := Lib.hid (by rw [e1])
    rw [← HG1.out]
    clear e1 hE HG1 h1
    go_enter Tryz.func56, Tryz.ntmps56
    go_wp2_with fail
    generalize (w.alloc (.cells #[.int .i64 2, .string (bb n), .slice ro r.length rc, .slice ao a.length ac, .slice bo bd.length bc] 56)).alloc (.cells #[.slice po p.dn.length pc, .slice eo p.de.length ec] 70) = w1 at *
    refine (readedge_of w0 b nm d s x n r a bd _ _ _ p _ _ E w1 HS1 HPP HQP hR hA hB hzr hal ha60 hde HE1).mono ?_
    rintro e w2 ⟨rfl, hst2, hold2, hx2⟩
    have HST2 := Lib.hid (HST1.out.trans hst2)
    have HO2 := Lib.hid hold2
    have HX2 := Lib.hid hx2
    clear hst2 hold2 hx2
    go_wp2
    go_ret
    exact ⟨rfl, HST2.out, HO2.out, HX2.out⟩
  have b2 := beq_no h2
  by_cases h5 : k = 5
  · subst h5
    clear h1 h2
    go_enter Tryz.func56, Tryz.ntmps56
    go_wp2_with fail
    generalize (w.alloc (.cells #[.int .i64 5, .string (bb n), .slice ro r.length rc, .slice ao a.length ac, .slice bo bd.length bc] 56)).alloc (.cells #[.slice po p.dn.length pc, .slice eo p.de.length ec] 70) = w1 at *
    refine (readcluster_of w0 b nm d s x n r a bd _ _ _ p _ _ S' E w1 hM hIH HS1 HPP HQP hR hA hB ho hz hal hn hga hgp hE).mono ?_
    rintro e w2 ⟨rfl, hst2, hold2, hx2⟩
    have HST2 := Lib.hid (HST1.out.trans hst2)
    have HO2 := Lib.hid hold2
    have HX2 := Lib.hid hx2
    clear hst2 hold2 hx2
    go_wp2
    go_ret
    exact ⟨rfl, HST2.out, HO2.out, HX2.out⟩
  have b5 := beq_no h5
  have e1 := hE.out
  rw [stmC_n h1 h2 h5] at e1
  obtain ⟨rfl, rfl⟩ := Prod.mk.inj e1
  clear e1 h1 h2 h5
  go_enter Tryz.func56, Tryz.ntmps56
  go_wp2
  go_ret
  exact ⟨rfl, HST1.out, HS1.out.old, fun _ => ⟨x, HS1.out⟩⟩
end Go.Proofs.YtcdoicgbjoikkaaGreatDoor.nor
namespace Go.Proofs.YtcdoicgbjoikkaaGreatDoor.nor
open Go.RowKit lex tre att

theorem st_eta (y : St) : St.mk y.kind y.name y.refs y.attrs y.body = y := by cases y; rfl
theorem TFc.setNew {w w1 : World} {b o : Nat} (h : TFc w w1) (hb : w.heap.size ≤ b) (u : Value) : TFc w (w1.setCell ⟨b, o, none⟩ u) :=
  ⟨h.os, h.tape, h.output, by simp [World.setCell]; exact h.size, fun k x hk hc => by
    rw [Below.heap_setCell _ _ _ _ (fun e => by have := heap_lt hk; simp only at e; omega)]; exact h.block k x hk hc⟩
/-- A box that is none of the builder's is written. -/
theorem BdG.far {w0 W : World} {b : Nat} {nm : Nm} {d : Bool} {s : Bg} {x : BdV} {g o : Nat} {t : TypeId} {arr : Array Value} (h : BdG w0 W b nm d s x) (hg : blk W g t arr) (hl : w0.heap.size ≤ g) (h1 : t ≠ 45) (h2 : t ≠ 47) (h3 : t ≠ 54) (h4 : t ≠ 115) (h5 : t ≠ 67) (h6 : t ≠ 82) (u : Value) : BdG w0 (W.setCell ⟨g, o, none⟩ u) b nm d s x :=
  ⟨h.low, h.old.setCell hl _, by
    have hne : b ≠ g := fun e => by
      have q := h.box
      unfold bdb att.blk at q
      unfold att.blk at hg
      rw [e, hg] at q
      cases q
      exact h5 rfl
    unfold bdb att.blk
    rw [Below.heap_setCell _ _ _ _ hne]; exact h.box, row_set h.nr hg (Ne.symm h1) _, row_set h.cr hg (Ne.symm h2) _, row_set h.ar hg (Ne.symm h3) _, row_set h.hr hg (Ne.symm h4) _, h.al, fun i q1 q2 => prsT_set (h.ap i q1 q2) hg h6 _, h.hl, fun i q1 q2 => ⟨(h.hp i q1 q2).1, prsT_set (h.hp i q1 q2).2 hg h6 _⟩, h.mm.set hg _, h.km.set hg _, h.ml, h.kl, h.ne⟩
set_option maxRecDepth 100000 in
set_option maxHeartbeats 2000000 in
theorem blk_step (l : List St) (ih : ∀ y ∈ l, BlkOk y.body) : BlkOk l := by
  intro w0 b nm d s x bv p dv ev w hM hS hp hq hs ho hz hal hga hgp
  obtain ⟨RS, hRS⟩ : ∃ RS, blkC l p s = RS := ⟨_, rfl⟩
  rw [hRS]
  obtain ⟨po, pc, rfl, _, _, _⟩ := id hp.prs
  obtain ⟨eo, ec, rfl, _, _, _⟩ := id hq.prs
  obtain ⟨vo, vc, rfl, hc1, hm1, -⟩ := id hs
  unfold maxLen at hm1
  have hlm : l.length ≤ 9223372036854775807 := by omega
  have hb1 := al1 w (.cells #[.slice po p.dn.length pc, .slice eo p.de.length ec] 70)
  have HM := Lib.hid hM
  have IH := Lib.hid ih
  have HS := Lib.hid hs
  have HS1 := Lib.hid (hS.below hb1)
  have HST1 : Hid (Stp w0 w (w.alloc (.cells #[.slice po p.dn.length pc, .slice eo p.de.length ec] 70))) := Lib.hid (Stp.below hb1 hS.base)
  have HP1 := Lib.hid (hp.keep hb1)
  have HQ1 := Lib.hid (hq.keep hb1)
  have HB1 := Lib.hid (blk_new w #[.slice po p.dn.length pc, .slice eo p.de.length ec] 70)
  have HRS : Hid (blkC (l.drop 0) p s = RS) := Lib.hid hRS
  have HZ : Hid (sz s + 42 * cnt (l.drop 0) ≤ 100000) := Lib.hid hz
  have HO : Hid (okB (l.drop 0)) := Lib.hid ho
  have HAL := Lib.hid hal
  have HGA := Lib.hid hga
  have HGP := Lib.hid hgp
  have hlow : w0.heap.size ≤ w.heap.size := hS.base
  clear hc1 hm1 ih hs hS hp hq hb1 hRS hz ho hal hga hgp hM
  go_enter Tryz.func24, Tryz.ntmps24
  go_wp2_with fail
  generalize w.alloc (.cells #[.slice po p.dn.length pc, .slice eo p.de.length ec] 70) = w1 at *
  go_loopw [15] (fun iv wr => ∃ (i : Nat) (si : Bs) (xi : BdV) (pi : Pl) (di ei : Value), iv = .int .i64 i ∧ i ≤ l.length ∧ BdG w0 wr b nm d si.g xi ∧ Stp w0 w wr ∧ PrsT wr di pi.dn ∧ PrsT wr ei pi.de ∧ blk wr w.heap.size 70 #[di, ei] ∧ blkC (l.drop i) pi si = RS ∧ sz si + 42 * cnt (l.drop i) ≤ 100000 ∧ okB (l.drop i) ∧ si.ns.length = si.ats.length ∧ GaS si ∧ GaP pi ∧ pi.cl = p.cl) (fun iv _ => l.length - (intOf iv).toNat)
  case atStart => exact ⟨0, s, x, p, _, _, rfl, Nat.zero_le _, HS1.out, HST1.out, HP1.out, HQ1.out, HB1.out, HRS.out, HZ.out, HO.out, HAL.out, HGA.out, HGP.out, rfl⟩
  case round =>
    obtain ⟨i, si, xi, pi, di, ei, rfl, hi, hsi, hsti, hpi, hqi, hbi, hrs, hzi, hoi, hali, hgai, hgpi, hcli⟩ := hrel
    rename World => wr
    obtain ⟨do', dc, rfl, _, _, _⟩ := id hpi.prs
    obtain ⟨fo, fc, rfl, _, _, _⟩ := id hqi.prs
    have HSI := Lib.hid hsi
    have HSTI := Lib.hid hsti
    have HPI := Lib.hid hpi
    have HQI := Lib.hid hqi
    have HBI := Lib.hid hbi
    have HRSI := Lib.hid hrs
    have HALI := Lib.hid hali
    have HGAI := Lib.hid hgai
    have HGPI := Lib.hid hgpi
    have HCLI := Lib.hid hcli
    clear hsi hsti hpi hqi hbi hrs hali hgai hgpi hcli HS1 HST1 HP1 HQ1 HB1 HRS HZ HO HAL HGA HGP
    by_cases hlt : i < l.length
    case neg =>
      obtain rfl : i = l.length := by omega
      have HRE : Hid (RS = (si, 0)) := Lib.hid (by have h := HRSI.out; rw [List.drop_length, blkC_nil] at h; exact h.symm)
      clear hoi hzi
      go_wp2
      go_ret
      exact ⟨by rw [HRE.out]; rfl, HSTI.out, HSI.out.old, fun _ => ⟨xi, by rw [HRE.out]; exact HSI.out⟩⟩
    obtain ⟨A, rfl, hstA⟩ := (HS.out.keep HSI.out.old).get hlt
    obtain ⟨A', eA, hst0⟩ := HS.out.get hlt
    cases eA
    have hdr := blkC_drop hlt pi si
    rw [HRSI.out] at hdr
    obtain ⟨ho1, ho2, ho3⟩ := okB_at hoi hlt
    have hct := cnt_at hlt
    have hih := IH.out l[i] (List.getElem_mem hlt)
    obtain ⟨y, hy⟩ : ∃ y, l[i] = y := ⟨_, rfl⟩
    rw [hy] at hstA hst0 hdr ho1 ho2 hct hih
    rw [stAt_eq] at hstA hst0
    obtain ⟨c0, c1, hnm, ⟨rv, c2, hrv⟩, ⟨av, c3, hav⟩, ⟨bv, c4, hbv⟩⟩ := hstA
    obtain ⟨-, -, -, ⟨rv0, p2, hrv0⟩, ⟨av0, p3, hav0⟩, ⟨bv0, p4, hbv0⟩⟩ := hst0
    have e2 : rv0 = rv := by have := cell_later' HSI.out.old p2; rw [c2] at this; exact (Option.some.inj this).symm
    have e3 : av0 = av := by have := cell_later' HSI.out.old p3; rw [c3] at this; exact (Option.some.inj this).symm
    have e4 : bv0 = bv := by have := cell_later' HSI.out.old p4; rw [c4] at this; exact (Option.some.inj this).symm
    subst e2 e3 e4
    obtain ⟨ro, rc, rfl, -, -, -⟩ := id hrv
    obtain ⟨aa, ac, rfl, -, -, -⟩ := id hav
    obtain ⟨bo, bc, rfl, -, -, -⟩ := id hbv
    obtain ⟨E1, hE1⟩ : ∃ E1, stE y.kind y.name y.attrs = E1 := ⟨_, rfl⟩
    rw [hE1] at hdr
    have HDR := Lib.hid hdr
    have HE1 := Lib.hid hE1
    have HO1 := Lib.hid ho1
    have HO2 := Lib.hid ho2
    have HO3 := Lib.hid ho3
    have HIH := Lib.hid hih
    have HR0 := Lib.hid hrv0
    have HA0 := Lib.hid hav0
    have HB0 := Lib.hid hbv0
    have hal2 := al1 wr (.cells #[.int .i64 y.kind, .string (bb y.name), .slice ro y.refs.length rc, .slice aa y.attrs.length ac, .slice bo y.body.length bc] 56)
    have HS2 := Lib.hid (HSI.out.below hal2)
    have HST2 : Hid (Stp w0 w (wr.alloc (.cells #[.int .i64 y.kind, .string (bb y.name), .slice ro y.refs.length rc, .slice aa y.attrs.length ac, .slice bo y.body.length bc] 56))) := Lib.hid (HSTI.out.trans (Stp.below hal2 HSI.out.base))
    have HP2 := Lib.hid (HPI.out.keep hal2)
    have HQ2 := Lib.hid (HQI.out.keep hal2)
    have HB2 := Lib.hid (blk_below HBI.out hal2)
    have HT2 := Lib.hid (blk_new wr #[.int .i64 y.kind, .string (bb y.name), .slice ro y.refs.length rc, .slice aa y.attrs.length ac, .slice bo y.body.length bc] 56)
    have HA2 := Lib.hid (hav.keep hal2)
    have hM2 : Hid (Mx (wr.alloc (.cells #[.int .i64 y.kind, .string (bb y.name), .slice ro y.refs.length rc, .slice aa y.attrs.length ac, .slice bo y.body.length bc] 56))) := mxh HM (HS2.out.old)
    have i0 : (0 : Int) ≤ (i : Int) := by omega
    have i1 : (i : Int) < (l.length : Int) := by omega
    obtain ⟨lv, hsta⟩ := ho1.1
    obtain ⟨-, h16, -, -⟩ := sta_attrs hsta
    have ha60 : y.attrs.length ≤ 60 := by omega
    have hr40 : y.refs.length ≤ 40 := ho1.2
    have hk3 := sta_kind3 ho1
    have HK3 := Lib.hid hk3
    have hz2 : sz si + 42 * (1 + cnt y.body) ≤ 100000 := by omega
    have hz3 : sz si + 42 * (1 + cnt y.body) + 42 * cnt (l.drop (i + 1)) ≤ 100000 := by omega
    have HSZ : Hid (sz (stmC y (dflt y.kind y.name y.attrs pi) si).1 + 42 * cnt (l.drop (i + 1)) ≤ 100000) := Lib.hid (by have := blk_sz.1 y (dflt y.kind y.name y.attrs pi) si ho1 ho2; omega)
    clear hoi hzi hct hih hdr hE1 ho1 ho2 ho3 hrv hav hbv hrv0 hav0 hbv0 p2 p3 p4 hal2 hsta h16 HSI HSTI HPI HQI HBI HRSI hk3 hz3 hy
    go_wp2_with fail
    obtain ⟨G, hG⟩ : ∃ G, wr.heap.size = G := ⟨_, rfl⟩
    rw [hG] at HT2
    simp only [hG]
    generalize wr.alloc (.cells #[.int .i64 y.kind, .string (bb y.name), .slice ro y.refs.length rc, .slice aa y.attrs.length ac, .slice bo y.body.length bc] 56) = w2 at *
    clear c0 c1 c2 c3 c4 hG
    refine (atterr_of y _ _ _ E1 w2 hM2 (Lib.hid ⟨_, HR0.out.keep HS2.out.old⟩) HA2 (Lib.hid ⟨_, HB0.out.keep HS2.out.old⟩) HO1 HE1).mono ?_
    rintro e w3 ⟨rfl, hb3⟩
    have HS3 := Lib.hid (HS2.out.below hb3)
    have HST3 := Lib.hid (HST2.out.trans (Stp.below hb3 HS2.out.base))
    have HP3 := Lib.hid (HP2.out.keep hb3)
    have HQ3 := Lib.hid (HQ2.out.keep hb3)
    have HB3 := Lib.hid (blk_below HB2.out hb3)
    have HT3 := Lib.hid (blk_below HT2.out hb3)
    have HA3 := Lib.hid (HA2.out.keep hb3)
    clear hb3 HS2 HST2 HP2 HQ2 HB2 HT2 HA2 hM2
    by_cases hE : E1 = 0
    case neg =>
      have bE : (E1 != 0) = true := by rw [bne_iff_ne]; exact hE
      have HRE : Hid (RS = (si, E1)) := Lib.hid (by have h := HDR.out; rw [if_pos hE] at h; exact h)
      have HNE := Lib.hid hE
      clear hE
      go_wp2
      go_ret
      exact ⟨by rw [HRE.out]; rfl, HST3.out, HS3.out.old, fun q => absurd (by rw [HRE.out] at q; exact q) HNE.out⟩
    subst hE
    have hdr := HDR.out
    rw [if_neg (by simp)] at hdr
    obtain ⟨T, hT⟩ : ∃ T, stmC y (dflt y.kind y.name y.attrs pi) si = T := ⟨_, rfl⟩
    rw [hT] at hdr HSZ
    have HDR := Lib.hid hdr
    have HTT := Lib.hid hT
    have HGP4 := Lib.hid (HGPI.out.dflt HE1.out HK3.out)
    have HGA4 : Hid (GaS T.1) := Lib.hid (by rw [← hT]; exact blk_Ga.1 y _ si HO1.out HO2.out HE1.out HGP4.out HGAI.out)
    have HAL4 : Hid (T.1.ns.length = T.1.ats.length) := Lib.hid (by rw [← hT]; exact blkC_len.1 y _ si HALI.out)
    have t0 : w3.cell? ⟨G, 0, none⟩ = some (.int .i64 y.kind) := by rw [blk_cell HT3.out]; rfl
    have t1 : w3.cell? ⟨G, 1, none⟩ = some (.string (bb y.name)) := by rw [blk_cell HT3.out]; rfl
    have t2 : w3.cell? ⟨G, 2, none⟩ = some (.slice ro y.refs.length rc) := by rw [blk_cell HT3.out]; rfl
    have t3 : w3.cell? ⟨G, 3, none⟩ = some (.slice aa y.attrs.length ac) := by rw [blk_cell HT3.out]; rfl
    have t4 : w3.cell? ⟨G, 4, none⟩ = some (.slice bo y.body.length bc) := by rw [blk_cell HT3.out]; rfl
    have d0 : w3.cell? ⟨w.heap.size, 0, none⟩ = some (.slice do' pi.dn.length dc) := by rw [blk_cell HB3.out]; rfl
    have d1 : w3.cell? ⟨w.heap.size, 1, none⟩ = some (.slice fo pi.de.length fc) := by rw [blk_cell HB3.out]; rfl
    clear hdr hT
    by_cases h3 : y.kind = 3
    · have b3 := beq_yes h3
      obtain ⟨P, hP⟩ : ∃ P, dflt 3 y.name y.attrs pi = P := ⟨_, rfl⟩
      have HD3 : Hid (dflt y.kind y.name y.attrs pi = P) := Lib.hid (by rw [h3]; exact hP)
      have hcl5 : P.cl = p.cl := by rw [← hP, ← HCLI.out]; unfold dflt; rw [if_pos rfl]; split <;> rfl
      have HCL4 := Lib.hid hcl5
      have hdn : pi.dn.length ≤ 60 := Nat.le_trans HGPI.out.1.len (by decide)
      have hde : pi.de.length ≤ 60 := Nat.le_trans HGPI.out.2.len (by decide)
      have HPP := Lib.hid hP.symm
      have HTS : Hid (stmC (.mk y.kind y.name y.refs y.attrs y.body) P si = (T.1, T.2)) := Lib.hid (by rw [st_eta, ← HD3.out, HTT.out])
      rw [HD3.out] at HGP4 HDR
      clear h3 hP HTT HD3
      go_wp2_with fail
      refine (changed_of y.kind y.name ro bo _ rc _ bc y.attrs _ pi P _ _ w3 HP3 HQ3 HA3 hdn hde ha60 HPP).mono ?_
      rintro e w4 ⟨dv4, ev4, rfl, hp4, hq4, hb4⟩
      obtain ⟨do4, dc4, rfl, _, _, _⟩ := id hp4.prs
      obtain ⟨fo4, fc4, rfl, _, _, _⟩ := id hq4.prs
      have hbk := blk_below HB3.out hb4
      have hbk1 := blk_set (o := 0) hbk (.slice do4 P.dn.length dc4)
      have hbk2 := blk_set (o := 1) hbk1 (.slice fo4 P.de.length fc4)
      have HS5 : Hid (BdG w0 ((w4.setCell ⟨w.heap.size, 0, none⟩ (.slice do4 P.dn.length dc4)).setCell ⟨w.heap.size, 1, none⟩ (.slice fo4 P.de.length fc4)) b nm d si.g xi) := Lib.hid (((HS3.out.below hb4).far hbk hlow (by decide) (by decide) (by decide) (by decide) (by decide) (by decide) _).far hbk1 hlow (by decide) (by decide) (by decide) (by decide) (by decide) (by decide) _)
      have hst4 := HST3.out.trans (Stp.below hb4 HS3.out.base)
      have HST5 : Hid (Stp w0 w ((w4.setCell ⟨w.heap.size, 0, none⟩ (.slice do4 P.dn.length dc4)).setCell ⟨w.heap.size, 1, none⟩ (.slice fo4 P.de.length fc4))) := Lib.hid ⟨(hst4.frm.setNew (Nat.le_refl _) _).setNew (Nat.le_refl _) _, (hst4.bel.setCell hlow _).setCell hlow _⟩
      have HP5 := Lib.hid (prsT_set (o := 1) (prsT_set (o := 0) hp4 hbk (by decide) (.slice do4 P.dn.length dc4)) hbk1 (by decide) (.slice fo4 P.de.length fc4))
      have HQ5 := Lib.hid (prsT_set (o := 1) (prsT_set (o := 0) hq4 hbk (by decide) (.slice do4 P.dn.length dc4)) hbk1 (by decide) (.slice fo4 P.de.length fc4))
      have HB5 : Hid (blk ((w4.setCell ⟨w.heap.size, 0, none⟩ (.slice do4 P.dn.length dc4)).setCell ⟨w.heap.size, 1, none⟩ (.slice fo4 P.de.length fc4)) w.heap.size 70 #[.slice do4 P.dn.length dc4, .slice fo4 P.de.length fc4]) := Lib.hid hbk2
      have hGne : G ≠ w.heap.size := fun e => by
        have q := HT3.out
        unfold att.blk at q
        have q2 := HB3.out
        unfold att.blk at q2
        rw [e, q2] at q
        cases q
      have u0 := cell_later' hb4 t0
      have u1 := cell_later' hb4 t1
      have u2 := cell_later' hb4 t2
      have u3 := cell_later' hb4 t3
      have u4 := cell_later' hb4 t4
      have y0 : w4.cell? ⟨w.heap.size, 0, none⟩ = some (.slice do' pi.dn.length dc) := by rw [blk_cell hbk]; rfl
      have y1 : w4.cell? ⟨w.heap.size, 1, none⟩ = some (.slice fo pi.de.length fc) := by rw [blk_cell hbk]; rfl
      have z0 := blk_open hbk 0
      have z1 := blk_open hbk 1
      clear hbk hbk1 hbk2 hst4 hb4 hp4 hq4 t0 t1 t2 t3 t4 d0 d1 HS3 HST3 HP3 HQ3 HB3 HT3 HA3 HPP
      go_wp2_with fail
      generalize (w4.setCell ⟨w.heap.size, 0, none⟩ (.slice do4 P.dn.length dc4)).setCell ⟨w.heap.size, 1, none⟩ (.slice fo4 P.de.length fc4) = w5 at *
      have hcall := read_of w0 b nm d si xi y.kind y.name y.refs y.attrs y.body _ _ _ P _ _ T.1 T.2 w5 HM HIH HS5 HP5 HQ5 HR0 HA0 HB0 HO2 hz2 hr40 HALI hnm ha60 HGAI HGP4 HTS
      rw [hcl5] at hcall
      refine hcall.mono ?_
      clear hcall
      rintro e w6 ⟨rfl, hst6, hold6, hx6⟩
      have HST6 := Lib.hid (HST5.out.trans hst6)
      have HO6 := Lib.hid hold6
      have HX6 := Lib.hid hx6
      have HP6 := Lib.hid (hst6.frm.prs HP5.out)
      have HQ6 := Lib.hid (hst6.frm.prs HQ5.out)
      have HB6 := Lib.hid (hst6.frm.blk HB5.out rfl)
      clear hst6 hold6 hx6
      obtain ⟨E2, hE2⟩ : ∃ E2, T.2 = E2 := ⟨_, rfl⟩
      have HE2 := Lib.hid hE2
      rw [hE2] at HX6
      simp only [hE2]
      clear hE2
      by_cases hE : E2 = 0
      · subst hE
        have HN : Hid (blkC (l.drop (i + 1)) (P) T.1 = RS) := Lib.hid (by have h := HDR.out; rw [if_neg (by rw [HE2.out]; simp)] at h; exact h.symm)
        go_wp2
        go_roundw
        case rel =>
          obtain ⟨x6, h6⟩ := HX6.out (by simp)
          exact ⟨i + 1, T.1, x6, P, _, _, by go_num, by omega, h6, HST6.out, HP6.out, HQ6.out, HB6.out, HN.out, HSZ.out, HO3.out, HAL4.out, HGA4.out, HGP4.out, HCL4.out⟩
        case measure => simp [intOf]; omega
      · have bE : (E2 != 0) = true := by rw [bne_iff_ne]; exact hE
        have HRE : Hid (RS = (T.1, E2)) := Lib.hid (by have h := HDR.out; rw [if_pos (by rw [HE2.out]; exact hE), HE2.out] at h; exact h)
        have HNE := Lib.hid hE
        clear hE
        go_wp2
        go_ret
        exact ⟨by rw [HRE.out]; rfl, HST6.out, HO6.out, fun q => absurd (by rw [HRE.out] at q; exact q) HNE.out⟩
    · have b3 := beq_no h3
      have HD3 : Hid (dflt y.kind y.name y.attrs pi = pi) := Lib.hid (dflt_id h3 _ _ _)
      have HTS : Hid (stmC (.mk y.kind y.name y.refs y.attrs y.body) pi si = (T.1, T.2)) := Lib.hid (by rw [st_eta, ← HTT.out, HD3.out])
      rw [HD3.out] at HDR HGP4
      have HCL4 := HCLI
      have hcl5 := HCLI.out
      clear h3 HTT HD3
      go_wp2_with fail
      clear t0 t1 t2 t3 t4 d0 d1
      have hcall := read_of w0 b nm d si xi y.kind y.name y.refs y.attrs y.body _ _ _ pi _ _ T.1 T.2 w3 HM HIH HS3 HP3 HQ3 HR0 HA0 HB0 HO2 hz2 hr40 HALI hnm ha60 HGAI HGP4 HTS
      rw [hcl5] at hcall
      refine hcall.mono ?_
      clear hcall
      rintro e w6 ⟨rfl, hst6, hold6, hx6⟩
      have HST6 := Lib.hid (HST3.out.trans hst6)
      have HO6 := Lib.hid hold6
      have HX6 := Lib.hid hx6
      have HP6 := Lib.hid (hst6.frm.prs HP3.out)
      have HQ6 := Lib.hid (hst6.frm.prs HQ3.out)
      have HB6 := Lib.hid (hst6.frm.blk HB3.out rfl)
      clear hst6 hold6 hx6
      obtain ⟨E2, hE2⟩ : ∃ E2, T.2 = E2 := ⟨_, rfl⟩
      have HE2 := Lib.hid hE2
      rw [hE2] at HX6
      simp only [hE2]
      clear hE2
      by_cases hE : E2 = 0
      · subst hE
        have HN : Hid (blkC (l.drop (i + 1)) (pi) T.1 = RS) := Lib.hid (by have h := HDR.out; rw [if_neg (by rw [HE2.out]; simp)] at h; exact h.symm)
        go_wp2
        go_roundw
        case rel =>
          obtain ⟨x6, h6⟩ := HX6.out (by simp)
          exact ⟨i + 1, T.1, x6, pi, _, _, by go_num, by omega, h6, HST6.out, HP6.out, HQ6.out, HB6.out, HN.out, HSZ.out, HO3.out, HAL4.out, HGA4.out, HGP4.out, HCL4.out⟩
        case measure => simp [intOf]; omega
      · have bE : (E2 != 0) = true := by rw [bne_iff_ne]; exact hE
        have HRE : Hid (RS = (T.1, E2)) := Lib.hid (by have h := HDR.out; rw [if_pos (by rw [HE2.out]; exact hE), HE2.out] at h; exact h)
        have HNE := Lib.hid hE
        clear hE
        go_wp2
        go_ret
        exact ⟨by rw [HRE.out]; rfl, HST6.out, HO6.out, fun q => absurd (by rw [HRE.out] at q; exact q) HNE.out⟩
theorem blk_ok (l : List St) : BlkOk l := lst_ind blk_step l
end Go.Proofs.YtcdoicgbjoikkaaGreatDoor.nor
