/-
  The walk of the statement ParserLists of layer 9. Premise: the code answers as its plain functions say.
-/
import Derived.Test.YtgccheiemnpaoaaGreatDoorMPo
import Derived.Test.YtgccheiemnpaoaaGreatDoorMPs
import Derived.Test.YtgccheiemnpaoaaGreatDoorMRp
import Derived.Test.YtgccheiemnpaoaaGreatDoorMTv
namespace Go.Proofs.YtgccheiemnpaoaaGreatDoor.par
open Go.RowKit lex tre prt

theorem prL_back (v : List UInt8) (h : (prL v).2 = 0) : fmtL (prL v).1 = v := by
  rcases parseV_ways v with e | e | ⟨n, e, _, _, hf⟩
  · rw [prL_of (n := 0) (e := 4) e] at h; cases h
  · rw [prL_of (n := 0) (e := 16) e] at h; cases h
  · rw [prL_of e]; exact hf
set_option maxRecDepth 100000 in
set_option maxHeartbeats 4000000 in
theorem one_of (v : Value) (l : List Pr) (w : World) (h : Hid (Prs w v l)) :
    Calls Tryz.prog 12 #[v] w fun e w' => ∃ u, e = .returned u ∧ TrV w' u (attTr l) ∧ Below w.heap.size w w' := by
  obtain ⟨ao, n, c, rfl⟩ : ∃ a n c, v = .slice a n c := by obtain ⟨a, c, rfl, _⟩ := h.out; exact ⟨_, _, _, rfl⟩
  have hB1 := al1 w (.cells #[.string ⟨#[103]⟩, .bool false, .slice (some ⟨w.heap.size + 1, 0, none⟩) 1 1] 24)
  have h3 := at3_new w ⟨#[103]⟩ false (.slice (some ⟨w.heap.size + 1, 0, none⟩) 1 1) 24
  obtain ⟨w1, hw1⟩ : ∃ w1, w.alloc (.cells #[.string ⟨#[103]⟩, .bool false, .slice (some ⟨w.heap.size + 1, 0, none⟩) 1 1] 24) = w1 := ⟨_, rfl⟩
  have hsz : w1.heap.size = w.heap.size + 1 := by rw [← hw1]; simp
  have h5 := at5_new w1 1 ⟨#[97]⟩ (.slice none 0 0) (.slice ao n c) (.slice none 0 0) 44
  have hB2 := al1 w1 (.cells #[.int .i64 1, .string ⟨#[97]⟩, .slice none 0 0, .slice ao n c, .slice none 0 0] 44)
  rw [hw1] at h3 hB1
  obtain ⟨c0, c1, c2⟩ := at3_keep h3 hB2
  have hB := below_keep hB2 hB1
  rw [hsz] at h5
  have HT := Lib.hid (row_att (h.out.keep hB) h5)
  have HW := Lib.hid hw1
  clear hB1 hB2 h3 h5 hsz hw1
  go_enter Tryz.func12, Tryz.ntmps12
  go_wp2
  rw [HW.out]
  exact bodyPost_ret (v := .agg #[.string ⟨#[103]⟩, .bool false, .slice (some ⟨w.heap.size + 1, 0, none⟩) 1 1]) (by simp [results, Tryz.results12, go_sem, c0, c1, c2]) rfl ⟨_, rfl, HT.out, hB⟩
theorem wls_far (C : ParOk) (v : Value) (l : List Pr) (w : World) (Htb : Hid (Tab w)) (h : Hid (Prs w v l)) (hl : l.length < 1 ∨ 20 < l.length) :
    Calls Tryz.prog 5 #[v] w fun e w' => e = .returned (.bool true) ∧ Below w.heap.size w w' := by
  obtain ⟨ao, cap, rfl, -, -, -⟩ := id h.out
  by_cases h1 : l.length < 1
  · have d1 : decide ((l.length : Int) < 1) = true := decide_eq_true (by omega)
    have d1' : decide (l.length < 1) = true := decide_eq_true h1
    have z0 : l.length = 0 := by omega
    rw [z0]
    clear d1 d1' hl h1 z0 h
    go_enter Tryz.func5, Tryz.ntmps5
    go_wp2_with (go_at_call 8; refine (awk9 C _ (Lib.hid (by first | exact Htb.out | exact tab_below Htb.out (by assumption) | exact tab_below (tab_below Htb.out (by assumption)) (al1 _ _) | exact tab_below Htb.out (al1 _ _)))).mono ?_; rintro e w1 ⟨rfl, hb1⟩)
    go_ret
    exact ⟨rfl, hb1⟩
  · have h2 : 20 < l.length := by omega
    have d1 : decide ((l.length : Int) < 1) = false := decide_eq_false (by omega)
    have d1' : decide (l.length < 1) = false := decide_eq_false h1
    have d2 : decide ((20 : Int) < (l.length : Int)) = true := decide_eq_true (by omega)
    have d2' : decide (20 < l.length) = true := decide_eq_true h2
    clear hl
    go_enter Tryz.func5, Tryz.ntmps5
    go_wp2_with (go_at_call 8; refine (awk9 C _ (Lib.hid (by first | exact Htb.out | exact tab_below Htb.out (by assumption) | exact tab_below (tab_below Htb.out (by assumption)) (al1 _ _) | exact tab_below Htb.out (al1 _ _)))).mono ?_; rintro e w1 ⟨rfl, hb1⟩)
    go_ret
    exact ⟨rfl, hb1⟩
set_option maxRecDepth 100000 in
set_option maxHeartbeats 8000000 in
theorem wls (C : ParOk) (v : Value) (l : List Pr) (w : World) (Htb : Hid (Tab w)) (h : Hid (Prs w v l)) :
    Calls Tryz.prog 5 #[v] w fun e w' => e = .returned (.bool true) ∧ Below w.heap.size w w' := by
  by_cases hl : l.length < 1 ∨ 20 < l.length
  · exact wls_far C v l w Htb h hl
  obtain ⟨ao, cap, rfl, -, -, -⟩ := id h.out
  have d1 : decide ((l.length : Int) < 1) = false := decide_eq_false (by omega)
  have d1' : decide (l.length < 1) = false := decide_eq_false (by omega)
  have d2 : decide ((20 : Int) < (l.length : Int)) = false := decide_eq_false (by omega)
  have d2' : decide (20 < l.length) = false := decide_eq_false (by omega)
  have hl20 : l.length ≤ 20 := by omega
  have hne : l ≠ [] := fun e => by subst e; exact hl (Or.inl (by decide))
  have HNE := Lib.hid hne
  obtain ⟨R, hR⟩ : ∃ R, validT (attTr l) = R := ⟨_, rfl⟩
  have HR := Lib.hid hR
  have hct : cnt (attTr l).body ≤ 1000000000000 := Nat.le_trans (attTr_cnt l) (by decide)
  clear hl hne hR
  go_enter Tryz.func5, Tryz.ntmps5
  go_wp2_with fail
  refine (one_of _ l _ h).mono ?_
  rintro e w1 ⟨u, rfl, hT, hb1⟩
  have HT := Lib.hid hT
  obtain ⟨bv, rfl, -, hsq⟩ := hT
  obtain ⟨bo, bn, bc, rfl⟩ : ∃ ao n cap, bv = .slice ao n cap := by obtain ⟨ao, cap, e, _⟩ := hsq; exact ⟨ao, _, cap, e⟩
  clear hsq
  go_wp2_with fail
  refine (rvalid_huge _ (attTr l) R _ HT hct HR).mono ?_
  rintro e w2 ⟨rfl, hb2⟩
  have hB2 := below_keep hb2 hb1
  have H2 := Lib.hid (h.out.keep hB2)
  clear hb2 hb1 HT
  by_cases hz : R ≠ 0
  · have b1 : (R != 0) = true := by simp [hz]
    go_wp2_with (go_at_call 8; refine (awk9 C _ (Lib.hid (by first | exact Htb.out | exact tab_below Htb.out (by assumption) | exact tab_below (tab_below Htb.out (by assumption)) (al1 _ _) | exact tab_below Htb.out (al1 _ _)))).mono ?_; rintro e w3 ⟨rfl, hb3⟩)
    go_ret
    exact ⟨rfl, below_keep hb3 hB2⟩
  obtain rfl := Decidable.not_not.1 hz
  clear hz
  obtain ⟨Q, hQ⟩ : ∃ Q, bb (atsT l) = Q := ⟨_, rfl⟩
  have HQ : Hid (atsT l = Q.data.toList) := Lib.hid (by rw [← hQ])
  have hq2 : Q.data.toList = attS prL l := by rw [← HQ.out]; unfold atsT; rw [if_pos HR.out]
  have hqz : Q.size ≤ 2000 := by
    rw [← b_size, hq2]
    have := attS_len (attTr_ok HR.out)
    omega
  have HP : Hid (atsE Q.data.toList = (l, 0, 0)) := Lib.hid (by
    unfold atsE
    rw [tokE_small (by rw [b_size]; omega), hq2]
    exact ats_back prL_back prL_form HNE.out HR.out)
  have hqm : Q.size ≤ maxLen := Nat.le_trans hqz (by decide)
  clear hQ hq2
  go_wp2_with fail
  refine (rattrs_of l _ Q _ H2 (by omega) HQ).mono ?_
  rintro e w3 ⟨rfl, hb3⟩
  have hB3 := below_keep hb3 hB2
  clear hb3 H2 hB2
  go_wp2_with fail
  refine (C.attrs Q l 0 0 _ hqm (Lib.hid (by first | exact Htb.out | exact tab_below Htb.out (by assumption) | exact tab_below (tab_below Htb.out (by assumption)) (al1 _ _) | exact tab_below Htb.out (al1 _ _))) HP).mono ?_
  rintro e w4 ⟨u, rfl, hU, hb4⟩
  have hB4 := below_keep hb4 hB3
  have H4 := Lib.hid (h.out.keep hB4)
  have HU := Lib.hid hU
  obtain ⟨uo, un, uc, rfl⟩ : ∃ ao n cap, u = .slice ao n cap := by obtain ⟨ao, cap, e, _⟩ := hU; exact ⟨ao, _, cap, e⟩
  clear hb4 hB3 hU
  go_wp2_with fail
  refine (sats_of _ _ l _ HU H4).mono ?_
  rintro e w5 ⟨rfl, hb5⟩
  have hB5 := below_keep hb5 hB4
  clear hb5 hB4 HU H4
  go_wp2_with (go_at_call 8; refine (awk9 C _ (Lib.hid (by first | exact Htb.out | exact tab_below Htb.out (by assumption) | exact tab_below (tab_below Htb.out (by assumption)) (al1 _ _) | exact tab_below Htb.out (al1 _ _)))).mono ?_; rintro e w6 ⟨rfl, hb6⟩)
  go_ret
  exact ⟨ret_bool (by simp), below_keep hb6 hB5⟩
end Go.Proofs.YtgccheiemnpaoaaGreatDoor.par
