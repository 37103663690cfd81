/-
  What Reach of the reference of layer 15 returns. Condition: a digraph in memory.
-/
import Derived.Test.YtncedgnpdojkkaaTpoRow
namespace Go.Proofs.Ytncedgnpdojkkaa.tpo
open Go.RowKit dig

set_option maxRecDepth 100000 in
set_option maxHeartbeats 8000000 in
theorem treachI_of (v : Value) (n x : Int) (l : List Ar) (R : List Int) (w : World) (h : Hid (DgV w v n l)) (hr : Hid (rchV n l x = R)) :
    Calls Try.prog 16 #[v, .int .i64 x] w (IrOut R w) := by
  obtain ⟨av, rfl, hl⟩ := id h.out
  obtain ⟨lo, lc, rfl, -, -, -⟩ := id hl
  have HL := Lib.hid hl
  have HB1 := Lib.hid (al1 w (.cells #[.int .i64 n, .slice lo l.length lc] 24))
  have HK1 := Lib.hid (dgb_new w n lo l.length lc 24)
  have HV := Lib.hid h.out
  obtain ⟨b, hb⟩ : ∃ b, validD n l = b := ⟨_, rfl⟩
  have hfe := hr.out
  unfold rchV at hfe
  rw [hb] at hfe
  have HVD := Lib.hid hb
  have HFE := Lib.hid hfe
  obtain ⟨W1, hW1⟩ : ∃ W1, w.alloc (.cells #[.int .i64 n, .slice lo l.length lc] 24) = W1 := ⟨_, rfl⟩
  have HW1 := Lib.hid hW1
  rw [hW1] at HB1 HK1
  clear h hl hb hr hfe hW1
  go_enter Try.func16, Try.ntmps16
  go_wp2_with fail
  rw [HW1.out]
  obtain ⟨g0, hg0⟩ : ∃ g, w.heap.size = g := ⟨_, rfl⟩
  have HG0 := Lib.hid hg0
  rw [hg0] at HK1
  try simp only [hg0]
  clear hg0 HW1
  refine (rvalid_of _ n l b W1 (Lib.hid (HV.out.keep HB1.out)) HVD).mono ?_
  rintro e w2 ⟨rfl, hb2⟩
  have HB2 := Lib.hid (HB1.out.trans (hb2.mono HB1.out.size))
  have HK2 := Lib.hid (dgb_keep HK1.out hb2)
  clear hb2 HB1 HK1
  obtain ⟨c0, c1, -, -⟩ := HK2.out
  cases b
  case false =>
    have hf := HFE.out
    rw [Bool.false_and, Bool.false_and, if_neg (by decide)] at hf
    subst hf
    go_wp2
    go_ret
    exact ⟨_, rfl, own_nil .., HB2.out⟩
  by_cases q1 : x < 0
  case pos =>
    have hf := HFE.out
    rw [decide_eq_false (show ¬ 0 ≤ x by omega), Bool.and_false, Bool.false_and, if_neg (by decide)] at hf
    subst hf
    have e1 : decide (x < 0) = true := decide_eq_true q1
    go_wp2
    go_ret
    exact ⟨_, rfl, own_nil .., HB2.out⟩
  have e1 : decide (x < 0) = false := decide_eq_false q1
  by_cases q2 : n ≤ x
  case pos =>
    have hf := HFE.out
    rw [decide_eq_false (show ¬ x < n by omega), Bool.and_false, if_neg (by decide)] at hf
    subst hf
    have e2 : decide (n ≤ x) = true := decide_eq_true q2
    go_wp2
    go_ret
    exact ⟨_, rfl, own_nil .., HB2.out⟩
  have e2 : decide (n ≤ x) = false := decide_eq_false q2
  have hf := HFE.out
  rw [decide_eq_true (show 0 ≤ x by omega), decide_eq_true (show x < n by omega), if_pos (by decide)] at hf
  obtain ⟨h0, h64, h256, hok⟩ := validD_iff.1 HVD.out
  obtain ⟨m, rfl⟩ := Int.eq_ofNat_of_zero_le h0
  obtain ⟨x, rfl⟩ := Int.eq_ofNat_of_zero_le (show 0 ≤ x by omega)
  simp only [Int.toNat_natCast] at hf
  have hxm : x < m := by omega
  have HR := Lib.hid hf
  have HOK := Lib.hid hok
  obtain ⟨i0, hi, hz0, hz1, hz2⟩ := info_of_cb
  have hg1 : g0 < w2.heap.size := World.block_lt_of_cell? w2 _ c0
  have hgw : w.heap.size ≤ g0 := by rw [HG0.out]; exact Nat.le_refl _
  obtain ⟨B2, hB2⟩ : ∃ B2, w2.heap.size = B2 := ⟨_, rfl⟩
  have HSZ : Hid (w2.heap.size = B2) := Lib.hid hB2
  have hbm : i0.bytes * m ≤ 281474976710656 := by rw [hz2]; omega
  have hmm : m ≤ maxLen := by unfold maxLen; omega
  have z0 : (0 : Int) ≤ (x : Int) := by omega
  have z1 : (x : Int) < (m : Int) := by omega
  rw [hB2] at hg1
  clear hf HFE hB2 hok q1 q2
  go_wp2_with (at_make; refine wpList_make_full _ rfl _ _ 38 rfl w2.heap.size 4 i0 (.bool false) 1 Try.underlying38 hi hz0 hz1 .i64 .i64 _ _ m rfl rfl rfl rfl hbm hmm (Nat.le_refl _) ?_; intro w3 hown hgrow; have hrow0 := Frow.made (c := Value.bool) rfl hown; have hx0 := Brow.at hrow0 hxm; have hx1 := Frow.free hrow0 x; have hb3 := (Below.refl w2.heap.size w2).grown hgrow (Nat.le_refl _) (fun q hq => by cases hq))
  simp only [HSZ.out] at hrow0 hx0 hx1 hb3 ⊢
  have hb3' : Below w2.heap.size w2 w3 := by rw [HSZ.out]; exact hb3
  have HB3 := Lib.hid ((below_keep hb3' HB2.out).setCell (p := ⟨B2, x, none⟩) (by simp only; omega) (.bool true))
  have HK3 := Lib.hid (dgb_far (d := B2) (o := x) (u := .bool true) (by omega) (dgb_keep HK2.out hb3'))
  have HROW0 : Hid (Brow (w3.setCell ⟨B2, x, none⟩ (.bool true)) B2 B2 m (roundsR l 0 ((List.replicate m false).set x true))) := Lib.hid (Frow.put hrow0 x true)
  have hsz3 : B2 < (w3.setCell ⟨B2, x, none⟩ (.bool true)).heap.size := World.block_lt_of_cell? _ _ (HROW0.out.at hxm)
  clear hrow0 hx0 hx1 hown hgrow hb3 hb3' c0 c1 HB2 HK2 HSZ
  generalize w3.setCell ⟨B2, x, none⟩ (.bool true) = w4 at HB3 HK3 HROW0 hsz3 ⊢
  go_loopw [6] (fun iv wr => ∃ (r : Nat), iv = .int .i64 r ∧ r ≤ m ∧ Brow wr B2 B2 m (roundsR l r ((List.replicate m false).set x true)) ∧ dgb wr g0 m (.slice lo l.length lc) ∧ Below w.heap.size w wr ∧ B2 < wr.heap.size) (fun iv _ => m - (intOf iv).toNat)
  case atStart => exact ⟨0, rfl, Nat.zero_le _, HROW0.out, HK3.out, HB3.out, hsz3⟩
  case round =>
    obtain ⟨r, rfl, hrm, hrow, hdg, hB, hsz⟩ := hrel
    rename World => wr
    obtain ⟨I, hI⟩ : ∃ I, roundsR l r ((List.replicate m false).set x true) = I := ⟨_, rfl⟩
    rw [hI] at hrow
    have HI := Lib.hid hI
    have HROW := Lib.hid hrow
    have HDG := Lib.hid hdg
    have HB := Lib.hid hB
    obtain ⟨c0, c1, -, -⟩ := hdg
    clear hrow hB HB3 HK3 HROW0 hI
    by_cases hlt : r < m
    case neg =>
      obtain rfl : r = m := by omega
      have e3 : ¬ (r : Int) < (r : Int) := by omega
      have HU : Hid (upTo I r = R) := Lib.hid (by rw [← HR.out, ← HI.out]; rfl)
      go_wp2_with fail
      clear c0 c1
      go_loopw [8, 9] (fun tv iv wq => ∃ (k : Nat) (io : Option Addr) (ic : Nat) (D : List Int), iv = .int .i64 k ∧ tv = .slice io D.length ic ∧ k ≤ r ∧ upTo I k = D ∧ Irow wq B2 (.slice io D.length ic) D ∧ Brow wq B2 B2 r I ∧ dgb wq g0 r (.slice lo l.length lc) ∧ Below w.heap.size w wq ∧ B2 < wq.heap.size) (fun _ iv _ => r - (intOf iv).toNat)
      case atStart => exact ⟨0, none, 0, [], rfl, rfl, Nat.zero_le _, rfl, own_nil _ _ _ _, HROW.out, HDG.out, HB.out, hsz⟩
      case round =>
        obtain ⟨k, io, ic, D, rfl, rfl, hk, hD, hirow, hrow, hdg, hBq, hszq⟩ := hrel
        rename World => wq
        have hDl : D.length ≤ 64 := by rw [← hD]; have := up_len I k; omega
        have HIROW := Lib.hid hirow
        have HROWQ := Lib.hid hrow
        have HDGQ := Lib.hid hdg
        have HBQ := Lib.hid hBq
        have HD := Lib.hid hD
        obtain ⟨c0, c1, -, -⟩ := hdg
        clear hirow hrow hBq hD HROW HDG HB
        by_cases hkr : k < r
        case neg =>
          obtain rfl : k = r := by omega
          have hR : D = R := by rw [← HU.out, HD.out]
          subst hR
          have e4 : ¬ (k : Int) < (k : Int) := by omega
          go_wp2
          go_ret
          exact ⟨_, rfl, own_base HIROW.out (by omega), HBQ.out⟩
        have e4 : (k : Int) < (r : Int) := by omega
        have k0 : (0 : Int) ≤ (k : Int) := by omega
        have hst := up_succ I k
        rw [HD.out] at hst
        have hc := HROWQ.out.at hkr
        obtain ⟨p, hp⟩ : ∃ p, mk I k = p := ⟨_, rfl⟩
        rw [hp] at hst hc
        have HST := Lib.hid hst
        clear hst hp
        cases p
        case false =>
          have HN : Hid (upTo I (k + 1) = D) := Lib.hid (by rw [HST.out, if_neg (by decide), List.append_nil])
          go_wp2
          go_roundw
          case rel => exact ⟨k + 1, io, ic, D, by go_num, rfl, by omega, HN.out, HIROW.out, HROWQ.out, HDGQ.out, HBQ.out, hszq⟩
          case measure => simp [intOf]; omega
        have HN : Hid (upTo I (k + 1) = D ++ [(k : Int)]) := Lib.hid (by rw [HST.out, if_pos rfl])
        have hszq' : B2 ≤ wq.heap.size := by omega
        go_wp2_with (at_builtin; refine app_in rfl (.tmp 69) (.tmp 71) rfl B2 _ D (k : Int) wq.heap.size rfl rfl rfl HIROW (by omega) hszq' ?_; intro io6 ic6 w6 hrow6 hgrow6; have hb6 := (Below.refl B2 wq).grown hgrow6 hszq' (fun q hq => (World.ownsRow.lt HIROW.out q hq).1); have HIROW6 := Lib.hid hrow6; have HROW6 := Lib.hid (Frow.grown HROWQ.out HIROW.out hgrow6 (by decide)); have HDG6 := Lib.hid (dgb_below hb6 (by omega) HDGQ.out); have HB6 := Lib.hid (HBQ.out.trans (hb6.mono (by omega))); have HS6 := Lib.hid (Nat.lt_of_lt_of_le hszq hb6.size); clear hgrow6 hb6 hrow6)
        have hlD : (D ++ [(k : Int)]).length = D.length + 1 := by simp
        go_roundw
        case rel => exact ⟨k + 1, io6, ic6, D ++ [(k : Int)], by go_num, by rw [hlD], by omega, HN.out, by rw [hlD]; exact HIROW6.out, HROW6.out, HDG6.out, HB6.out, HS6.out⟩
        case measure => simp [intOf]; omega
    have e3 : (r : Int) < (m : Int) := by omega
    go_wp2_with fail
    clear c0 c1
    go_loopw [7] (fun iv wq => ∃ (i : Nat), iv = .int .i64 i ∧ i ≤ l.length ∧ Brow wq B2 B2 m (roundR (l.take i) I) ∧ dgb wq g0 m (.slice lo l.length lc) ∧ Below w.heap.size w wq ∧ B2 < wq.heap.size) (fun iv _ => l.length - (intOf iv).toNat)
    case atStart => exact ⟨0, rfl, Nat.zero_le _, HROW.out, HDG.out, HB.out, hsz⟩
    case round =>
      obtain ⟨i, rfl, hil, hrow, hdg, hBq, hszq⟩ := hrel
      rename World => wq
      obtain ⟨I2, hI2⟩ : ∃ I2, roundR (l.take i) I = I2 := ⟨_, rfl⟩
      rw [hI2] at hrow
      have HI2 := Lib.hid hI2
      have HROWQ := Lib.hid hrow
      have HDGQ := Lib.hid hdg
      have HBQ := Lib.hid hBq
      obtain ⟨c0, c1, -, -⟩ := hdg
      clear hrow hBq hI2 HROW HDG HB
      by_cases hlt2 : i < l.length
      case neg =>
        obtain rfl : i = l.length := by omega
        have HN : Hid (roundsR l (r + 1) ((List.replicate m false).set x true) = I2) := Lib.hid (by rw [roundsR, HI.out, ← HI2.out, List.take_length])
        have e4 : ¬ (l.length : Int) < (l.length : Int) := by omega
        go_wp2
        go_roundw
        case rel => exact ⟨r + 1, by go_num, by omega, by rw [HN.out]; exact HROWQ.out, HDGQ.out, HBQ.out, hszq⟩
        case measure => simp [intOf]; omega
      have e4 : (i : Int) < (l.length : Int) := by omega
      have k0 : (0 : Int) ≤ (i : Int) := by omega
      obtain ⟨A, rfl, p0, p1⟩ := (HL.out.keep HBQ.out).at hlt2
      have hk := okA_iff.1 (HOK.out _ (List.getElem_mem hlt2))
      have hst := round_take hlt2 I
      rw [HI2.out] at hst
      obtain ⟨y, hy⟩ : ∃ y, l[i] = y := ⟨_, rfl⟩
      rw [hy] at p0 p1 hk hst
      obtain ⟨y0, y1⟩ := y
      simp only at p0 p1 hk
      obtain ⟨a0, a1, a2, a3⟩ := hk
      obtain ⟨y0, rfl⟩ := Int.eq_ofNat_of_zero_le a0
      obtain ⟨y1, rfl⟩ := Int.eq_ofNat_of_zero_le a2
      unfold relax at hst
      simp only [Int.toNat_natCast] at hst
      have hc := HROWQ.out.at (show y0 < m by omega)
      obtain ⟨p, hp⟩ : ∃ p, mk I2 y0 = p := ⟨_, rfl⟩
      rw [hp] at hst hc
      have HST := Lib.hid hst
      clear hst hp hy
      cases p
      case false =>
        have HN : Hid (roundR (l.take (i + 1)) I = I2) := Lib.hid (by rw [HST.out, if_neg (by decide)])
        go_wp2
        go_roundw
        case rel => exact ⟨i + 1, by go_num, by omega, by rw [HN.out]; exact HROWQ.out, HDGQ.out, HBQ.out, hszq⟩
        case measure => simp [intOf]; omega
      have HN : Hid (roundR (l.take (i + 1)) I = I2.set y1 true) := Lib.hid (by rw [HST.out, if_pos rfl])
      have hc1 := HROWQ.out.at (show y1 < m by omega)
      have hc2 := Frow.free HROWQ.out y1
      go_wp2
      go_roundw
      case rel => exact ⟨i + 1, by go_num, by omega, by rw [HN.out]; exact Frow.put HROWQ.out y1 true, dgb_far (by omega) HDGQ.out, HBQ.out.setCell (by simp only; omega) _, by simpa using hszq⟩
      case measure => simp [intOf]; omega
theorem treach_of (v : Value) (n x : Int) (l : List Ar) (R : List Int) (w : World) (h : Hid (DgV w v n l)) (hr : Hid (rchV n l x = R)) :
    Calls Try.prog 16 #[v, .int .i64 x] w (InsOut R w) :=
  (treachI_of v n x l R w h hr).mono fun _ _ ⟨u, he, hi, hb⟩ => ⟨u, he, Irow.ins hi, hb⟩
end Go.Proofs.Ytncedgnpdojkkaa.tpo
