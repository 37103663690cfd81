/-
  What Order of the landed code of layer 15 returns. Condition: a digraph in memory.
-/
import Derived.Test.YtncedgnpdojkkaaTpoCu
import Derived.Test.YtncedgnpdojkkaaTpoCv
import Derived.Test.YtncedgnpdojkkaaShelf
namespace Go.Proofs.Ytncedgnpdojkkaa.tpo
open Go.RowKit dig Go.Shelf

theorem spot_tpo {w : World} {A : Addr} {v : Value} (h : w.cell? A = some v) : A = ⟨A.block, A.off, none⟩ := by
  obtain ⟨b, o, s⟩ := A
  cases s with
  | none => rfl
  | some x => unfold World.cell? at h; simp only at h; split at h <;> simp at h
theorem place_tpo : ∀ (l : List Int) (x : Int) (i : Nat), Lib.idxFrom l x i = placeI l x i
  | [], _, _ => rfl
  | y :: t, x, i => by rw [Lib.idxFrom, placeI, place_tpo t x (i + 1)]
theorem index_tpo (g n : Nat) (l : List Int) (x R : Int) (w : World) (B : Nat) (h : Hid (Zrow w B g n l)) (hn : n ≤ 1000) (hR : Hid (placeI l x 0 = R)) :
    Calls Try.prog 24 #[.slice (some ⟨g, 0, none⟩) n n, .int .i64 x] w fun e w' => e = .returned (.int .i64 R) ∧ w = w' := by
  have hl := h.out.1
  subst hl
  refine (Try.slices_Index_int g 0 l.length l.length l x w (Nat.le_refl _) (by omega) (fun j hj => ?_)).mono ?_
  · rw [Nat.zero_add, Frow.at h.out hj, List.getD_eq_getElem?_getD, List.getElem?_eq_getElem hj]; rfl
  · rintro e w' ⟨rfl, rfl⟩
    rw [List.take_length, show Lib.idxOf l x = R from (place_tpo l x 0).trans hR.out]
    exact ⟨rfl, rfl⟩
theorem Off.cell {g : Nat} {w w' : World} (h : Off g w w') {A : Addr} {v : Value} (hc : w.cell? A = some v) (hA : A.block ≠ g) : w'.cell? A = some v := by
  rw [World.cell?_of_block (h.2 A.block (World.block_lt_of_cell? w A hc) hA)]; exact hc
theorem Ins.rel {w w' : World} {g B : Nat} {ao : Option Addr} {n c : Nat} {l : List Int} (h : Ins w (.slice ao n c) l) (hr : Off g w w') (hg : g < B) (hf : ∀ A, ao = some A → 0 < n → B ≤ A.block) : Ins w' (.slice ao n c) l := by
  obtain ⟨a2, c2, e, h1, h2, h3⟩ := h
  cases e
  refine ⟨_, _, rfl, h1, h2, fun hn => ?_⟩
  obtain ⟨A, rfl, h4⟩ := h3 hn
  have := hf A rfl hn
  exact ⟨A, rfl, fun i hi => hr.cell (h4 i hi) (by rw [add_block]; omega)⟩
set_option maxRecDepth 100000 in
set_option maxHeartbeats 8000000 in
theorem cord_of : OrdSays := by
  intro v n l L R w h hr
  obtain ⟨av, rfl, hl⟩ := id h.out
  obtain ⟨lo, lc, rfl, -, -, -⟩ := id hl
  have HA := Lib.hid hl
  have HB1 := Lib.hid (al1 w (.cells #[.int .i64 n, .slice lo l.length lc] 24))
  have HK1 := Lib.hid (dgb_new w n lo l.length lc 24)
  have HV := Lib.hid h.out
  obtain ⟨b, hb⟩ : ∃ b, validD n l = b := ⟨_, rfl⟩
  have hfe := hr.out
  unfold ordV at hfe
  rw [hb] at hfe
  have HVD := Lib.hid hb
  have HFE := Lib.hid hfe
  obtain ⟨W1, hW1⟩ : ∃ W1, w.alloc (.cells #[.int .i64 n, .slice lo l.length lc] 24) = W1 := ⟨_, rfl⟩
  have HW1 := Lib.hid hW1
  rw [hW1] at HB1 HK1
  clear h hl hb hr hfe hW1
  go_enter Try.func9, Try.ntmps9
  go_wp2_with fail
  rw [HW1.out]
  obtain ⟨g0, hg0⟩ : ∃ g, w.heap.size = g := ⟨_, rfl⟩
  have HG0 := Lib.hid hg0
  rw [hg0] at HK1
  try simp only [hg0]
  clear hg0 HW1
  refine (cvalid_of _ n l b W1 (Lib.hid (HV.out.keep HB1.out)) HVD).mono ?_
  rintro e w2 ⟨rfl, hb2⟩
  have HB2 := Lib.hid (HB1.out.trans (hb2.mono HB1.out.size))
  have HK2 := Lib.hid (dgb_keep HK1.out hb2)
  clear hb2 HB1 HK1
  obtain ⟨c0, c1, -, -⟩ := HK2.out
  cases b
  case false =>
    have hf := HFE.out
    rw [if_neg (by decide)] at hf
    cases hf
    go_wp2
    refine bodyPost_ret (v := .tuple #[.slice none 0 0, .bool false]) (by simp [results, Try.results9, go_sem]) rfl ?_
    exact ⟨_, rfl, Rw.nil .., HB2.out⟩
  have hf := HFE.out
  rw [if_pos rfl] at hf
  obtain ⟨h0, h64, h256, hok⟩ := validD_iff.1 HVD.out
  obtain ⟨m, rfl⟩ := Int.eq_ofNat_of_zero_le h0
  simp only [Int.toNat_natCast] at hf
  have HF := Lib.hid hf
  have HOK := Lib.hid hok
  clear hf HFE hok
  obtain ⟨i0, hi, hz0, hz1, hz2⟩ := info_of_cin
  have hg1 : g0 < w2.heap.size := World.block_lt_of_cell? w2 _ c0
  have hgw : w.heap.size ≤ g0 := by rw [HG0.out]; exact Nat.le_refl _
  obtain ⟨g, hgg⟩ : ∃ B, w2.heap.size = B := ⟨_, rfl⟩
  have HSZ : Hid (w2.heap.size = g) := Lib.hid hgg
  have hbm : i0.bytes * m ≤ 281474976710656 := by rw [hz2]; omega
  have hmm : m ≤ maxLen := by unfold maxLen; omega
  rw [hgg] at hg1
  clear hgg
  go_wp2_with (at_make; refine wpList_make_full _ rfl _ _ 25 rfl w2.heap.size 3 i0 (.int .i64 0) 1 Try.underlying25 hi hz0 hz1 .i64 .i64 _ _ m rfl rfl rfl rfl hbm hmm (Nat.le_refl _) ?_; intro w3 hown hgrow; have hrow0 := Frow.made (c := Value.int .i64) rfl hown; have hb3 := (Below.refl w2.heap.size w2).grown hgrow (Nat.le_refl _) (fun q hq => by cases hq); replace c0 := cell_later' hb3 c0; replace c1 := cell_later' hb3 c1)
  have HK3 := Lib.hid (dgb_keep HK2.out hb3)
  have HB3 := Lib.hid (below_keep hb3 HB2.out)
  simp only [HSZ.out] at hrow0 ⊢
  rw [← wtL_nil] at hrow0
  have HROW0 : Hid (Zrow w3 g g m (wtL [] m [])) := Lib.hid hrow0
  clear hrow0 hb3 hown hgrow c0 c1 HK2 HB2 HSZ
  go_loopw [21] (fun iv wr => ∃ (k : Nat), iv = .int .i64 k ∧ k ≤ l.length ∧ Zrow wr g g m (wtL (l.take k) m []) ∧ dgb wr g0 (m : Int) (.slice lo l.length lc) ∧ Below w.heap.size w wr) (fun iv _ => l.length - (intOf iv).toNat)
  case atStart => exact ⟨0, rfl, Nat.zero_le _, HROW0.out, HK3.out, HB3.out⟩
  case round =>
    obtain ⟨k, rfl, hk, hrow, hdg, hB⟩ := hrel
    rename World => wr
    have HROW := Lib.hid hrow
    have HDG := Lib.hid hdg
    have HB := Lib.hid hB
    clear hrow hdg hB HROW0 HK3 HB3
    by_cases hlt : k < l.length
    case pos =>
      obtain ⟨hy0, hy1, hy2, hy3⟩ := okA_iff.1 (HOK.out _ (List.getElem_mem hlt))
      have hst := fun (t : Nat) => wt_step0 (n := m) (t := t) hlt
      obtain ⟨A, rfl, p0, p1⟩ := (HA.out.keep HB.out).at hlt
      obtain ⟨y, hy⟩ : ∃ y, l[k] = y := ⟨_, rfl⟩
      rw [hy] at p0 p1 hst hy0 hy1 hy2 hy3
      obtain ⟨y0, y1⟩ := y
      simp only at p0 p1 hy0 hy1 hy2 hy3 hst
      clear hy
      obtain ⟨t, rfl⟩ := Int.eq_ofNat_of_zero_le hy2
      have htm : t < m := by omega
      have HST := Lib.hid (hst t rfl htm)
      have hrg := wtA_rng (l.take k) [] (t : Int)
      rw [← wtL_at htm, List.length_take] at hrg
      obtain ⟨D, hD⟩ : ∃ D, wtL (l.take k) m [] = D := ⟨_, rfl⟩
      rw [hD] at HST hrg HROW
      obtain ⟨d, hd⟩ : ∃ d, dAt D (t : Int) = d := ⟨_, rfl⟩
      have r0 := HROW.out.at htm
      have r1 := Frow.free HROW.out t
      rw [hd] at HST hrg r0
      have i0 : (0 : Int) ≤ (k : Int) := by omega
      have i1 : (k : Int) < (l.length : Int) := by omega
      have z0 : (0 : Int) ≤ (t : Int) := by omega
      have z1 : (t : Int) < (m : Int) := by omega
      have hd0 : -9223372036854775808 ≤ d + 1 := by omega
      have hd1 : d + 1 ≤ 9223372036854775807 := by omega
      have hb := al1 wr (.cells #[.int .i64 y0, .int .i64 (t : Int)] 37)
      replace r1 := fr_keep hb r0 r1
      replace r0 := cell_later' hb r0
      have HBb := Lib.hid (below_keep hb HB.out)
      have HRb : Hid (Zrow (wr.alloc (.cells #[.int .i64 y0, .int .i64 (t : Int)] 37)) g g m D) := Lib.hid (Frow.keep HROW.out hb)
      have HDb := Lib.hid (dgb_keep HDG.out hb)
      clear hb HB HROW HDG hst hD hd
      go_wp2
      go_roundw
      case rel => exact ⟨k + 1, by go_num, by omega, by rw [HST.out]; exact Frow.put HRb.out t (d + 1), dgb_far (by omega) HDb.out, HBb.out.setCell (by simp only; omega) _⟩
      case measure => simp [intOf]; omega
    obtain rfl : k = l.length := by omega
    have e3 : ¬ (l.length : Int) < (l.length : Int) := by omega
    have HRW : Hid (Zrow wr g g m (wtL l m [])) := Lib.hid (by have := HROW.out; rwa [List.take_length] at this)
    obtain ⟨c0, c1, -, -⟩ := HDG.out
    clear HROW
    go_wp2_with fail
    refine (cheads_of _ m l wr (Lib.hid (HV.out.keep HB.out)) HVD).mono ?_
    rintro e w5 ⟨nv, rfl, hlst, hfr, hb5⟩
    have HB5 := Lib.hid (below_keep hb5 HB.out)
    have HZ5 : Hid (Zrow w5 g g m (wtL l m [])) := Lib.hid (Frow.keep HRW.out hb5)
    have HLS := Lib.hid hlst
    have HFR := Lib.hid hfr
    replace c0 := cell_later' hb5 c0
    replace c1 := cell_later' hb5 c1
    obtain ⟨no, nc, rfl, -, -, -⟩ := id hlst
    rw [outsL_len] at hlst hfr HLS HFR ⊢
    have hgB : g < wr.heap.size := by
      obtain ⟨arr, hh⟩ := HRW.out.blk
      exact blk_lt hh
    have hsB : wr.heap.size ≤ w5.heap.size := hb5.size
    obtain ⟨B5, hB5⟩ : ∃ B5, w5.heap.size = B5 := ⟨_, rfl⟩
    have HS5 := Lib.hid hB5
    rw [hB5] at hsB
    clear hlst hfr hb5 HRW HDG HB hB5
    go_wp2_with fail
    clear c0 c1
    go_loopw [8, 37] (fun ov iv wq => ∃ (r : Nat) (io : Option Addr) (ic : Nat) (D : List Int), iv = .int .i64 r ∧ ov = .slice io r ic ∧ r ≤ m ∧ D.length = r ∧ ordF l m (m - r) D = ordF l m m [] ∧ TopI l m D ∧ Irow wq B5 (.slice io r ic) D ∧ Zrow wq g g m (wtL l m D) ∧ Off g w5 wq ∧ Below w.heap.size w wq ∧ B5 ≤ wq.heap.size) (fun _ iv _ => m - (intOf iv).toNat)
    case atStart => exact ⟨0, none, 0, [], rfl, rfl, Nat.zero_le _, rfl, rfl, TopI.nil l m, own_nil _ _ _ _, HZ5.out, Off.refl _ _, HB5.out, by rw [HS5.out]; exact Nat.le_refl _⟩
    case round =>
      obtain ⟨r, io, ic, D, rfl, rfl, hr, hD, hof, htop, hir, hzr, hoff, hB, hsz⟩ := hrel
      rename World => wq
      have HIQ := Lib.hid hir
      have HZQ := Lib.hid hzr
      have HOQ := Lib.hid hoff
      have HBQ := Lib.hid hB
      have HT := Lib.hid htop
      have HOF := Lib.hid hof
      have HDL := Lib.hid hD
      clear hir hzr hoff hB htop hof hD HZ5 HB5
      by_cases hrm : r < m
      case neg =>
        obtain rfl : r = m := by omega
        have hz := HOF.out
        rw [Nat.sub_self, ordF] at hz
        have hf := HF.out
        rw [← hz] at hf
        obtain ⟨rfl, rfl⟩ : L = D ∧ R = true := ⟨(Prod.mk.inj hf).1.symm, (Prod.mk.inj hf).2.symm⟩
        have e1 : ¬ (r : Int) < (r : Int) := by omega
        clear hz hf
        go_wp2
        refine bodyPost_ret (v := .tuple #[.slice io r ic, .bool true]) (by simp [results, Try.results9, go_sem]) rfl ?_
        exact ⟨_, rfl, Irow.ins HIQ.out, HBQ.out⟩
      have e1 : (r : Int) < (m : Int) := by omega
      have hpw := place_wt l m D
      obtain ⟨V, hV⟩ : ∃ V, nextV l D m 0 = V := ⟨_, rfl⟩
      have hns := next_spec l D m 0
      have hz := HOF.out
      rw [show m - r = (m - (r + 1)) + 1 by omega, ordF] at hz
      rw [hV] at hpw hz hns
      obtain ⟨X, hX⟩ : ∃ X, placeI (wtL l m D) 0 0 = X := ⟨_, rfl⟩
      rw [hX] at hpw
      have HX := Lib.hid hX
      clear hX hV
      go_wp2_with fail
      refine (index_tpo g m _ 0 X wq g HZQ (by omega) HX).mono ?_
      rintro e w6 ⟨rfl, rfl⟩
      by_cases hVm : V < m
      case neg =>
        rw [if_neg hVm] at hpw hz
        subst hpw
        have hf := HF.out
        rw [← hz] at hf
        obtain ⟨rfl, rfl⟩ : L = [] ∧ R = false := ⟨(Prod.mk.inj hf).1.symm, (Prod.mk.inj hf).2.symm⟩
        clear hz hf hns
        go_wp2
        refine bodyPost_ret (v := .tuple #[.slice none 0 0, .bool false]) (by simp [results, Try.results9, go_sem]) rfl ?_
        exact ⟨_, rfl, Rw.nil .., HBQ.out⟩
      rw [if_pos hVm] at hpw hz
      subst hpw
      have hfree := hns.2.2.2 (by omega)
      have HFREE := Lib.hid hfree
      have HOFN := Lib.hid hz
      clear hns hz hfree
      have e2 : (V : Int) ≠ -1 := by omega
      have i0 : (0 : Int) ≤ (V : Int) := by omega
      have i1 : (V : Int) < (m : Int) := by omega
      have r0 := Zrow.at HZQ.out hVm
      have r1 := Frow.free HZQ.out V
      have hsz1 : B5 ≤ (wq.setCell ⟨g, V, none⟩ (.int .i64 (-1))).heap.size := by simpa using hsz
      have HI1 : Hid (Irow (wq.setCell ⟨g, V, none⟩ (.int .i64 (-1))) B5 (.slice io r ic) D) := Lib.hid (ownsRow_setCell_below HIQ.out (by simp only; omega) _)
      have HZ1 : Hid (Zrow (wq.setCell ⟨g, V, none⟩ (.int .i64 (-1))) g g m ((wtL l m D).set V (-1))) := Lib.hid (Frow.put HZQ.out V (-1))
      have HO1 : Hid (Off g w5 (wq.setCell ⟨g, V, none⟩ (.int .i64 (-1)))) := Lib.hid HOQ.out.set
      have HB1 : Hid (Below w.heap.size w (wq.setCell ⟨g, V, none⟩ (.int .i64 (-1)))) := Lib.hid (HBQ.out.setCell (by simp only; omega) _)
      have hgo : ∀ q, (Value.slice io r ic).ownBlock = some q → B5 ≤ q := fun q hq => (World.ownsRow.lt HIQ.out q hq).1
      obtain ⟨A, lv, hA, q5, hins⟩ := HLS.out.at (k := V) (by rw [outsL_len]; exact hVm)
      subst hA
      have hva := outsL_at (l := l) hVm
      rw [List.getElem?_eq_getElem (by rw [outsL_len]; exact hVm)] at hva
      rw [Option.some.inj hva] at hins
      obtain ⟨lo2, lc2, hlv, -, -, -⟩ := id hins
      subst hlv
      obtain ⟨hf1, hf2⟩ := HFR.out A _ _ rfl (by omega)
      have hf3 : ∀ A2, lo2 = some A2 → 0 < (outs l (V : Int)).length → wr.heap.size ≤ A2.block := fun A2 e hn => by
        subst e
        exact hf2 V hVm A2 _ _ q5 hn
      have HINS := Lib.hid hins
      have HF3 := Lib.hid hf3
      clear HIQ HZQ HOQ HBQ hf2 hf3 hva hins
      go_wp2_with (at_builtin; refine app_in rfl (.tmp 46) (.tmp 48) rfl B5 _ D (V : Int) wq.heap.size (by simp) rfl rfl HI1 (by have := HDL.out; omega) hsz1 ?_; intro io7 ic7 w7 hrow7 hgrow7; have hb7 := (Below.refl B5 _).grown hgrow7 hsz1 hgo; have HZ7 : Hid (Zrow w7 g g m ((wtL l m D).set V (-1))) := Lib.hid (Frow.keep' HZ1.out hb7 (by omega)); have HO7 := Lib.hid (HO1.out.below (by rw [HS5.out]; exact hb7)); have HB7 := Lib.hid (HB1.out.trans (hb7.mono (by omega))); have HI7 := Lib.hid hrow7; have HS7 := Lib.hid (Nat.le_trans hsz1 hb7.size); have q0 := HO7.out.cell q5 (by rw [add_block]; omega))
      obtain ⟨ol, hol2⟩ : ∃ ol, (outs l (V : Int)).length = ol := ⟨_, rfl⟩
      have HOL := Lib.hid hol2
      have hol : ol ≤ 256 := by rw [← hol2]; exact Nat.le_trans (outs_len _ _) h256
      rw [hol2]
      obtain ⟨D0, hD0⟩ : ∃ D0, (wtL l m D).set V (-1) = D0 := ⟨_, rfl⟩
      have HST := Lib.hid (wt_step HT.out HOK.out HFREE.out hVm)
      rw [hD0] at HZ7 HST
      have hrg : ∀ x : Nat, x < m → -1 ≤ dAt D0 (x : Int) ∧ dAt D0 (x : Int) ≤ 256 := fun x hx => by
        have h1 := wtA_rng l D (x : Int)
        rw [← hD0, dAt_set _ _ _ _ (by rw [wtL_len]; exact hVm) (by omega), wtL_at hx]
        split <;> omega
      have hl0 : D0.length = m := by rw [← hD0, List.length_set, wtL_len]
      have HRG := Lib.hid hrg
      clear q0 q5 hol2 hrow7 hgrow7 hb7 HI1 HZ1 HO1 HB1 r0 r1 hD0 hrg HX hgo hsz1
      go_loopw [55] (fun iv wx => ∃ j : Nat, iv = .int .i64 j ∧ j ≤ ol ∧ Irow wx B5 (.slice io7 (D.length + 1) ic7) (D ++ [(V : Int)]) ∧ Zrow wx g g m (decL D0 ((outs l (V : Int)).take j)) ∧ Off g w5 wx ∧ Below w.heap.size w wx ∧ B5 ≤ wx.heap.size ∧ Off g w7 wx) (fun iv _ => ol - (intOf iv).toNat)
      case atStart => exact ⟨0, rfl, Nat.zero_le _, HI7.out, HZ7.out, HO7.out, HB7.out, HS7.out, Off.refl _ _⟩
      case round =>
        obtain ⟨j, rfl, hj, hir, hzr, hoff, hB, hszx, hoff7⟩ := hrel
        rename World => wx
        have HIX := Lib.hid hir
        have HZX := Lib.hid hzr
        have HOX := Lib.hid hoff
        have HBX := Lib.hid hB
        have HO77 := Lib.hid hoff7
        clear hir hzr hoff hB hoff7 HI7 HZ7 HO7 HB7 HS7
        by_cases hjl : j < ol
        case neg =>
          obtain rfl : j = ol := by omega
          have e3 : ¬ (j : Int) < (j : Int) := by omega
          have hz := HZX.out
          rw [← HOL.out, List.take_length, HST.out] at hz
          have HZN := Lib.hid hz
          have HTN := Lib.hid (HT.out.step HFREE.out i0 i1)
          have hdl := HDL.out
          have HIN : Hid (Irow wx B5 (.slice io7 (r + 1) ic7) (D ++ [(V : Int)])) := Lib.hid (by rw [← hdl]; exact HIX.out)
          clear hz
          rw [hdl]
          go_wp2
          go_roundw
          case rel => exact ⟨r + 1, io7, ic7, D ++ [(V : Int)], by go_num, rfl, by omega, by simp [hdl], HOFN.out, HTN.out, HIN.out, HZN.out, HOX.out, HBX.out, hszx⟩
          case measure => simp [intOf]; omega
        have hjl2 : j < (outs l (V : Int)).length := by rw [HOL.out]; exact hjl
        obtain ⟨y, hy⟩ : ∃ y, (outs l (V : Int))[j] = y := ⟨_, rfl⟩
        have hyj : (outs l (V : Int))[j]? = some y := by rw [List.getElem?_eq_getElem hjl2, hy]
        obtain ⟨y0, y1⟩ := outs_rng HOK.out (by rw [← hy]; exact List.getElem_mem hjl2 : y ∈ outs l (V : Int))
        obtain ⟨y, rfl⟩ := Int.eq_ofNat_of_zero_le y0
        have hym : y < m := by omega
        have hin := Ins.rel HINS.out HOX.out hgB HF3.out
        rw [HOL.out] at hin
        obtain ⟨A2, hA2, p0⟩ := Ins.at hin hjl2
        subst hA2
        rw [hy] at p0
        have hdt := decL_take (D := D0) hyj
        obtain ⟨E, hE⟩ : ∃ E, decL D0 ((outs l (V : Int)).take j) = E := ⟨_, rfl⟩
        rw [hE] at hdt HZX
        have hrg := HRG.out y hym
        have hdA := decL_at ((outs l (V : Int)).take j) D0 (y : Int) (fun u hu => by rw [hl0]; exact outs_rng HOK.out (List.mem_of_mem_take hu)) (by omega)
        have hcl : ((outs l (V : Int)).take j).count (y : Int) ≤ ((outs l (V : Int)).take j).length := List.count_le_length
        rw [List.length_take] at hcl
        rw [hE] at hdA
        have r0 := Zrow.at HZX.out hym
        have r1 := Frow.free HZX.out y
        obtain ⟨d, hd⟩ : ∃ d, dAt E (y : Int) = d := ⟨_, rfl⟩
        rw [hd] at r0 hdA
        unfold decA at hdt
        rw [hd, Int.toNat_natCast] at hdt
        have HDT := Lib.hid hdt
        have hd0 : -9223372036854775808 ≤ d - 1 := by omega
        have hd1 : d - 1 ≤ 9223372036854775807 := by omega
        have e3 : (j : Int) < (ol : Int) := by omega
        have j0 : (0 : Int) ≤ (j : Int) := by omega
        have j2 : (0 : Int) ≤ (y : Int) := by omega
        have j3 : (y : Int) < (m : Int) := by omega
        clear hin hdt hE hd hrg hdA hcl hy hyj hjl2
        go_wp2
        go_roundw
        case rel => exact ⟨j + 1, by go_num, by omega, ownsRow_setCell_below HIX.out (by simp only; omega) _, by rw [HDT.out]; exact Frow.put HZX.out y (d - 1), HOX.out.set, HBX.out.setCell (by simp only; omega) _, by simpa using hszx, HO77.out.set⟩
        case measure => simp [intOf]; omega
end Go.Proofs.Ytncedgnpdojkkaa.tpo
