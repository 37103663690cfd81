/-
  The walk of the statement ParserRoundTrips of layer 9. Premise: the code answers as its plain functions say.
-/
import Derived.Test.YtgccheiemnpaoaaGreatDoorParWLs
import Derived.Test.YtgccheiemnpaoaaGreatDoorMPw
namespace Go.Proofs.YtgccheiemnpaoaaGreatDoor.par
open Go.RowKit lex tre prt

theorem prt_big {T : Tr} (h : validT T = 0) (ho : okL T.body) : (txtT prL T).length ≤ 5000000 := by
  have hv := (valid_iff T).1 h
  have h1 := nm_le hv.1
  have h2 := (st_len T.dir).2 T.body 4 ⟨0, hv.2.2⟩ ho
  have h3 : cnt T.body * (2 * (4 + 4 * cnt T.body) + 5000) ≤ 512 * (2 * (4 + 4 * 512) + 5000) := Nat.mul_le_mul hv.2.1 (by have := hv.2.1; omega)
  have h4 : (wDir T.dir).length ≤ 7 := by unfold wDir; split <;> simp
  unfold txtT
  simp only [List.length_append, List.length_cons, List.length_nil]; omega
set_option maxRecDepth 100000 in
set_option maxHeartbeats 8000000 in
theorem wrt9 (C : ParOk) (v : Value) (T : Tr) (w : World) (Htb : Hid (Tab w)) (hT : Hid (TrV w v T)) :
    Calls Tryz.prog 3 #[v] w fun e w' => e = .returned (.bool true) ∧ Below w.heap.size w w' := by
  obtain ⟨bv, rfl, -, hbs⟩ := id hT.out
  obtain ⟨bo, bn, bc, rfl⟩ : ∃ a n c, bv = .slice a n c := by obtain ⟨a, c, rfl, _⟩ := hbs; exact ⟨_, _, _, rfl⟩
  obtain ⟨X, hX⟩ : ∃ X, bb T.name = X := ⟨_, rfl⟩
  obtain ⟨d, hd⟩ : ∃ d, T.dir = d := ⟨_, rfl⟩
  rw [hX, hd] at hT ⊢
  have HX := Lib.hid hX
  have HD := Lib.hid hd
  have hB := al1 w (.cells #[.string X, .bool d, .slice bo bn bc] 24)
  have HT0 := Lib.hid (hT.out.keep hB)
  have HS0 := Lib.hid (hbs.keep hB)
  obtain ⟨c0, c1, c2⟩ := at3_new w X d (.slice bo bn bc) 24
  clear hT hX hd hbs
  go_enter Tryz.func3, Tryz.ntmps3
  go_wp2_with fail
  refine (few_of T.body _ _ 9 0 (by decide) (by decide) HS0.out).mono ?_
  rintro e w2 ⟨b, rfl, hb, rfl⟩
  have HB := Lib.hid hb
  clear hb
  cases b
  · go_wp2_with (go_at_call 8; refine (awk9 C _ (Lib.hid (by first | exact Htb.out | exact tab_below Htb.out (by assumption) | exact tab_below (tab_below Htb.out (by assumption)) (al1 _ _) | exact tab_below Htb.out (al1 _ _)))).mono ?_; rintro e w3 ⟨rfl, hb3⟩)
    go_ret
    exact ⟨rfl, below_keep hb3 hB⟩
  obtain ⟨hcn, hok⟩ := HB.out rfl
  have hct : cnt T.body ≤ 1000000000000 := Nat.le_trans hcn few_bound
  have HO := Lib.hid hok
  obtain ⟨R, hR⟩ : ∃ R, validT T = R := ⟨_, rfl⟩
  have HR := Lib.hid hR
  clear hcn hok hR
  go_wp2_with fail
  refine (rvalid_huge _ T R _ HT0 hct HR).mono ?_
  rintro e w3 ⟨rfl, hb3⟩
  have hB3 := below_keep hb3 hB
  have HT3 := Lib.hid (HT0.out.keep hb3)
  have k0 := cell_later' hb3 c0
  have k1 := cell_later' hb3 c1
  have k2 := cell_later' hb3 c2
  clear hb3 HT0 HS0 c0 c1 c2
  by_cases hz : R ≠ 0
  · have b1 : (R != 0) = true := by simp [hz]
    go_wp2_with (go_at_call 8; refine (awk9 C _ (Lib.hid (by first | exact Htb.out | exact tab_below Htb.out (by assumption) | exact tab_below (tab_below Htb.out (by assumption)) (al1 _ _) | exact tab_below Htb.out (al1 _ _)))).mono ?_; rintro e w4 ⟨rfl, hb4⟩)
    go_ret
    exact ⟨rfl, below_keep hb4 hB3⟩
  obtain rfl := Decidable.not_not.1 hz
  clear hz
  have h600 : cnt T.body ≤ 600 := by have := ((valid_iff T).1 HR.out).2.1; omega
  obtain ⟨Q, hQ⟩ : ∃ Q, bb (prtT prL T) = Q := ⟨_, rfl⟩
  have HQ : Hid (prtT prL T = Q.data.toList) := Lib.hid (by rw [← hQ])
  have hq2 : Q.data.toList = txtT prL T := by rw [← HQ.out]; unfold prtT; rw [if_pos HR.out]
  have hqz : Q.size ≤ 5000000 := by rw [← b_size, hq2]; exact prt_big HR.out HO.out
  have HQ2 := Lib.hid hq2
  have hqm : Q.size ≤ maxLen := Nat.le_trans hqz (by decide)
  clear hQ hq2 hct
  go_wp2_with fail
  refine (rprint_of T _ Q _ HT3 h600 HO HQ (by omega)).mono ?_
  rintro e w4 ⟨rfl, hb4⟩
  have hB4 := below_keep hb4 hB3
  have HT4 := Lib.hid (HT3.out.keep hb4)
  have c0 := cell_later' hb4 k0
  have c1 := cell_later' hb4 k1
  have c2 := cell_later' hb4 k2
  clear hb4 hB3 HT3 k0 k1 k2
  by_cases hbig : (16384 : Int) < (Q.size : Int)
  · have g1 : decide ((16384 : Int) < (Q.size : Int)) = true := decide_eq_true hbig
    go_wp2_with (go_at_call 8; refine (awk9 C _ (Lib.hid (by first | exact Htb.out | exact tab_below Htb.out (by assumption) | exact tab_below (tab_below Htb.out (by assumption)) (al1 _ _) | exact tab_below Htb.out (al1 _ _)))).mono ?_; rintro e w5 ⟨rfl, hb5⟩)
    go_ret
    exact ⟨rfl, below_keep hb5 hB4⟩
  have g1 : decide ((16384 : Int) < (Q.size : Int)) = false := decide_eq_false hbig
  have HP : Hid (parE Q.data.toList = (T, 0, 0)) := Lib.hid (by
    unfold parE
    rw [tokE_small (by rw [b_size]; omega), HQ2.out]
    exact par_back prL_back prL_form HR.out)
  go_wp2_with fail
  refine (C.parse Q T 0 0 _ hqm (Lib.hid (by first | exact Htb.out | exact tab_below Htb.out (by assumption) | exact tab_below (tab_below Htb.out (by assumption)) (al1 _ _) | exact tab_below Htb.out (al1 _ _))) HP).mono ?_
  rintro e w5 ⟨u, rfl, hU, hb5⟩
  obtain ⟨bv, rfl, -, hsq⟩ := id hU
  obtain ⟨uo, un, uc, rfl⟩ : ∃ ao n cap, bv = .slice ao n cap := by obtain ⟨ao, cap, e, _⟩ := hsq; exact ⟨ao, _, cap, e⟩
  rw [HX.out, HD.out] at hU ⊢
  have hB5 := below_keep (al1 w5 (.cells #[.string X, .bool d, .slice uo un uc] 24)) (below_keep hb5 hB4)
  have hb6 := below_keep (al1 w5 (.cells #[.string X, .bool d, .slice uo un uc] 24)) hb5
  obtain ⟨e0, e1, e2⟩ := at3_new w5 X d (.slice uo un uc) 24
  have HT5 := Lib.hid (HT4.out.keep hb6)
  have HU5 := Lib.hid (hU.keep (al1 w5 (.cells #[.string X, .bool d, .slice uo un uc] 24)))
  have k0 := cell_later' hb6 c0
  have k1 := cell_later' hb6 c1
  have k2 := cell_later' hb6 c2
  clear hb5 hb6 hB4 hU hsq HT4 c0 c1 c2
  go_wp2_with fail
  refine (same_of _ _ T _ HU5 HT5).mono ?_
  rintro e w6 ⟨rfl, hb6⟩
  have hB6 := below_keep hb6 hB5
  clear hb6 hB5 HU5 HT5
  go_wp2_with (go_at_call 8; refine (awk9 C _ (Lib.hid (by first | exact Htb.out | exact tab_below Htb.out (by assumption) | exact tab_below (tab_below Htb.out (by assumption)) (al1 _ _) | exact tab_below Htb.out (al1 _ _)))).mono ?_; rintro e w7 ⟨rfl, hb7⟩)
  go_ret
  exact ⟨ret_bool (by simp), below_keep hb7 hB6⟩
end Go.Proofs.YtgccheiemnpaoaaGreatDoor.par
