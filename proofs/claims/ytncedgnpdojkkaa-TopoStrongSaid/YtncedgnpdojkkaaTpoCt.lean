/-
  What Reach of the landed code of layer 15 returns. Condition: a digraph in memory.
-/
import Derived.Test.YtncedgnpdojkkaaTpoCh
import Derived.Test.YtncedgnpdojkkaaTpoCr
import Derived.Test.YtncedgnpdojkkaaTpoAwk
import Derived.Test.YtncedgnpdojkkaaDigCa
namespace Go.Proofs.Ytncedgnpdojkkaa.tpo
open Go.RowKit dig

set_option maxRecDepth 100000 in
set_option maxHeartbeats 8000000 in
theorem crch_of : RchSays := by
  intro v n x l R w h hr
  obtain ⟨av, rfl, hl⟩ := id h.out
  obtain ⟨lo, lc, rfl, -, -, -⟩ := id hl
  have HB1 := Lib.hid (al1 w (.cells #[.int .i64 n, .slice lo l.length lc] 24))
  have HK1 := Lib.hid (dgb_new w n lo l.length lc 24)
  have HV := Lib.hid h.out
  obtain ⟨b, hb⟩ : ∃ b, validD n l = b := ⟨_, rfl⟩
  have hfe := hr.out
  unfold rchV at hfe
  rw [hb] at hfe
  have HVD := Lib.hid hb
  have HFE := Lib.hid hfe
  obtain ⟨W1, hW1⟩ : ∃ W1, w.alloc (.cells #[.int .i64 n, .slice lo l.length lc] 24) = W1 := ⟨_, rfl⟩
  have HW1 := Lib.hid hW1
  rw [hW1] at HB1 HK1
  clear h hl hb hr hfe hW1
  go_enter Try.func15, Try.ntmps15
  go_wp2_with fail
  rw [HW1.out]
  obtain ⟨g0, hg0⟩ : ∃ g, w.heap.size = g := ⟨_, rfl⟩
  have HG0 := Lib.hid hg0
  rw [hg0] at HK1
  try simp only [hg0]
  clear hg0 HW1
  refine (cvalid_of _ n l b W1 (Lib.hid (HV.out.keep HB1.out)) HVD).mono ?_
  rintro e w2 ⟨rfl, hb2⟩
  have HB2 := Lib.hid (HB1.out.trans (hb2.mono HB1.out.size))
  have HK2 := Lib.hid (dgb_keep HK1.out hb2)
  clear hb2 HB1 HK1
  obtain ⟨c0, c1, -, -⟩ := HK2.out
  cases b
  case false =>
    have hf := HFE.out
    rw [Bool.false_and, Bool.false_and, if_neg (by decide)] at hf
    subst hf
    go_wp2
    go_ret
    exact ⟨_, rfl, Rw.nil .., HB2.out⟩
  by_cases q1 : x < 0
  case pos =>
    have hf := HFE.out
    rw [decide_eq_false (show ¬ 0 ≤ x by omega), Bool.and_false, Bool.false_and, if_neg (by decide)] at hf
    subst hf
    have e1 : decide (x < 0) = true := decide_eq_true q1
    go_wp2
    go_ret
    exact ⟨_, rfl, Rw.nil .., HB2.out⟩
  have e1 : decide (x < 0) = false := decide_eq_false q1
  by_cases q2 : n ≤ x
  case pos =>
    have hf := HFE.out
    rw [decide_eq_false (show ¬ x < n by omega), Bool.and_false, if_neg (by decide)] at hf
    subst hf
    have e2 : decide (n ≤ x) = true := decide_eq_true q2
    go_wp2
    go_ret
    exact ⟨_, rfl, Rw.nil .., HB2.out⟩
  have e2 : decide (n ≤ x) = false := decide_eq_false q2
  have hf := HFE.out
  rw [decide_eq_true (show 0 ≤ x by omega), decide_eq_true (show x < n by omega), if_pos (by decide)] at hf
  obtain ⟨h0, h64, h256, hok⟩ := validD_iff.1 HVD.out
  obtain ⟨m, rfl⟩ := Int.eq_ofNat_of_zero_le h0
  obtain ⟨x, rfl⟩ := Int.eq_ofNat_of_zero_le (show 0 ≤ x by omega)
  simp only [Int.toNat_natCast] at hf
  have hxm : x < m := by omega
  have HR := Lib.hid hf
  have HOK := Lib.hid hok
  clear hf HFE hok q1 q2
  go_wp2_with fail
  refine (cheads_of _ m l w2 (Lib.hid (HV.out.keep HB2.out)) HVD).mono ?_
  rintro e w3 ⟨nv, rfl, hlst, -, hb3⟩
  have HB3 := Lib.hid (below_keep hb3 HB2.out)
  have HLS := Lib.hid hlst
  clear hb3 hlst c0 c1 HB2 HK2
  go_wp2_with fail
  refine (creached_of nv m x l w3 HLS HOK (by omega) h256 hxm).mono ?_
  rintro e w4 ⟨g, rfl, hrow, hb4⟩
  have HB4 := Lib.hid (below_keep hb4 HB3.out)
  have hgw : w.heap.size ≤ w3.heap.size := HB3.out.size
  obtain ⟨I, hI⟩ : ∃ I, rchI m l x = I := ⟨_, rfl⟩
  rw [hI] at hrow HR
  have HROW := Lib.hid hrow
  obtain ⟨B, hBB⟩ : ∃ B, w3.heap.size = B := ⟨_, rfl⟩
  rw [hBB] at HROW hgw
  have HBB : Hid (B ≤ w4.heap.size) := Lib.hid (by rw [← hBB]; exact hb4.size)
  clear hb4 hrow hI HLS HB3 hBB
  go_wp2_with fail
  go_loopw [5, 26] (fun tv iv wq => ∃ (k : Nat) (io : Option Addr) (ic : Nat) (D : List Int), iv = .int .i64 k ∧ tv = .slice io D.length ic ∧ k ≤ m ∧ upTo I k = D ∧ Irow wq B (.slice io D.length ic) D ∧ Brow wq B g m I ∧ Below w.heap.size w wq ∧ B ≤ wq.heap.size) (fun _ iv _ => m - (intOf iv).toNat)
  case atStart => exact ⟨0, none, 0, [], rfl, rfl, Nat.zero_le _, rfl, own_nil _ _ _ _, HROW.out, HB4.out, HBB.out⟩
  case round =>
    obtain ⟨k, io, ic, D, rfl, rfl, hk, hD, hirow, hrow, hBq, hszq⟩ := hrel
    rename World => wq
    have hDl : D.length ≤ 64 := by rw [← hD]; have := up_len I k; omega
    have HIROW := Lib.hid hirow
    have HROWQ := Lib.hid hrow
    have HBQ := Lib.hid hBq
    have HD := Lib.hid hD
    clear hirow hrow hBq hD HROW HB4 HBB
    by_cases hkr : k < m
    case neg =>
      obtain rfl : k = m := by omega
      have hR : D = R := by rw [← HR.out, HD.out]
      subst hR
      have e4 : ¬ (k : Int) < (k : Int) := by omega
      go_wp2
      go_ret
      exact ⟨_, rfl, Irow.ins HIROW.out, HBQ.out⟩
    have e4 : (k : Int) < (m : Int) := by omega
    have i0 : (0 : Int) ≤ (k : Int) := by omega
    have r0 := HROWQ.out.at hkr
    have hst := up_succ I k
    rw [HD.out] at hst
    cases hm : tpo.mk I k
    case false =>
      rw [hm] at r0 hst
      rw [if_neg (by decide), List.append_nil] at hst
      have HST := Lib.hid hst
      clear hm hst
      go_wp2
      go_roundw
      case rel => exact ⟨k + 1, io, ic, D, by go_num, rfl, by omega, HST.out, HIROW.out, HROWQ.out, HBQ.out, hszq⟩
      case measure => simp [intOf]; omega
    rw [hm] at r0 hst
    rw [if_pos rfl] at hst
    have HST := Lib.hid hst
    clear hm hst
    go_wp2_with (at_builtin; refine app_in rfl (.tmp 32) (.tmp 34) rfl B _ D (k : Int) wq.heap.size rfl rfl rfl HIROW (by omega) hszq ?_; intro io6 ic6 w6 hrow6 hgrow6; have hb6 := (Below.refl B wq).grown hgrow6 hszq (fun q hq => (World.ownsRow.lt HIROW.out q hq).1); have HI6 := Lib.hid hrow6; have HR6 : Hid (Brow w6 B g m I) := Lib.hid (HROWQ.out.grown HIROW.out hgrow6 (by decide)); have HB6 := Lib.hid (HBQ.out.trans (hb6.mono hgw)); have HS6 := Lib.hid (Nat.le_trans hszq hb6.size); clear hgrow6 hb6 hrow6)
    have hl6 : (D ++ [(k : Int)]).length = D.length + 1 := by simp
    rw [← hl6] at HI6
    go_roundw
    case rel => exact ⟨k + 1, _, _, D ++ [(k : Int)], by go_num, by rw [hl6], by omega, HST.out, HI6.out, HR6.out, HB6.out, HS6.out⟩
    case measure => simp [intOf]; omega
end Go.Proofs.Ytncedgnpdojkkaa.tpo
