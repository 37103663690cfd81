/-
  The walk of the statement ParserValid of layer 9. Premise: the code answers as its plain functions say.
-/
import Derived.Test.YtgccheiemnpaoaaGreatDoorMPo
import Derived.Test.YtgccheiemnpaoaaGreatDoorMPs
import Derived.Test.YtgccheiemnpaoaaGreatDoorMTv
namespace Go.Proofs.YtgccheiemnpaoaaGreatDoor.par
open Go.RowKit lex tre prt

theorem pre_list (s : ByteArray) (l : List UInt8) : (ba l ++ s).data.toList = l ++ s.data.toList := by
  simp [ba, ByteArray.data_append]
theorem suf_list (s : ByteArray) (l : List UInt8) : (s ++ ba l).data.toList = s.data.toList ++ l := by
  simp [ba, ByteArray.data_append]
theorem far_vl (C : ParOk) (s : ByteArray) (w : World) (Htb : Hid (Tab w)) (h : ¬ (s.size : Int) ≤ 3000) :
    Calls Tryz.prog 4 #[.string s] w fun e w' => e = .returned (.bool true) ∧ Below w.heap.size w w' := by
  have d1 : decide ((3000 : Int) < (s.size : Int)) = true := decide_eq_true (by omega)
  go_enter Tryz.func4, Tryz.ntmps4
  go_wp2_with fail
  refine (awk9 C _ (Lib.hid (by first | exact Htb.out | exact tab_below Htb.out (by assumption) | exact tab_below (tab_below Htb.out (by assumption)) (al1 _ _) | exact tab_below Htb.out (al1 _ _)))).mono ?_
  rintro e w1 ⟨rfl, hb1⟩
  go_wp2
  go_ret
  exact ⟨rfl, hb1⟩
set_option maxRecDepth 100000 in
set_option maxHeartbeats 8000000 in
theorem bad_vl (C : ParOk) (s : ByteArray) (n n' e : Int) (w : World) (Htb : Hid (Tab w)) (h : (s.size : Int) ≤ 3000) (hs : s.size ≤ maxLen) (hs2 : ((ba [35, 32, 123, 10] ++ s) ++ ba [10, 9, 35, 32, 125]).size ≤ maxLen) (he : (e != 0) = true) (hn : 0 ≤ n ∧ n ≤ 20000)
    (HW : Hid (n' = 0 ∨ n' = n + 1 ∨ (n' = 1 ∧ n = 1))) (HP : Hid (parE s.data.toList = (T00, n, e))) (HP2 : Hid (parE ((ba [35, 32, 123, 10] ++ s) ++ ba [10, 9, 35, 32, 125]).data.toList = (T00, n', e))) :
    Calls Tryz.prog 4 #[.string s] w fun e w' => e = .returned (.bool true) ∧ Below w.heap.size w w' := by
  have d1 : decide ((3000 : Int) < (s.size : Int)) = false := decide_eq_false (by omega)
  have ee : (e == e) = true := by simp
  have wn : IntKind.i64.wrap (n + 1) = n + 1 := IntWalk.i64_in _ (by omega)
  obtain ⟨hn1, hn2⟩ := hn
  go_enter Tryz.func4, Tryz.ntmps4
  go_wp2_with fail
  refine (C.parse _ T00 n e _ hs (Lib.hid (by first | exact Htb.out | exact tab_below Htb.out (by assumption) | exact tab_below (tab_below Htb.out (by assumption)) (al1 _ _) | exact tab_below Htb.out (al1 _ _))) HP).mono ?_
  rintro e1 w1 ⟨v, rfl, hT, hb1⟩
  obtain ⟨bv, rfl, -, hsq⟩ : ∃ bv, v = .agg #[.string ⟨#[]⟩, .bool false, bv] ∧ T00.name.length ≤ maxLen ∧ Sts w1 bv T00.body := hT
  obtain ⟨ao, cap, rfl⟩ : ∃ ao cap, bv = .slice ao 0 cap := by obtain ⟨ao, cap, e, _⟩ := hsq; exact ⟨ao, cap, e⟩
  clear hsq
  have hB1 := below_keep (al1 w1 (.cells #[.string ⟨#[]⟩, .bool false, .slice ao 0 cap] 24)) hb1
  obtain ⟨c0, c1, c2⟩ := at3_new w1 ⟨#[]⟩ false (.slice ao 0 cap) 24
  clear hb1
  go_wp2_with fail
  refine (C.parse _ T00 n' e _ hs2 (Lib.hid (by first | exact Htb.out | exact tab_below Htb.out (by assumption) | exact tab_below (tab_below Htb.out (by assumption)) (al1 _ _) | exact tab_below Htb.out (al1 _ _))) HP2).mono ?_
  rintro e1 w2 ⟨v, rfl, hT, hb2⟩
  obtain ⟨bv, rfl, -, hsq⟩ : ∃ bv, v = .agg #[.string ⟨#[]⟩, .bool false, bv] ∧ T00.name.length ≤ maxLen ∧ Sts w2 bv T00.body := hT
  obtain ⟨bo, dap, rfl⟩ : ∃ ao cap, bv = .slice ao 0 cap := by obtain ⟨ao, cap, e, _⟩ := hsq; exact ⟨ao, cap, e⟩
  clear hsq
  have hB2 := below_keep (al1 w2 (.cells #[.string ⟨#[]⟩, .bool false, .slice bo 0 dap] 24)) (below_keep hb2 hB1)
  have hb3 := below_keep (al1 w2 (.cells #[.string ⟨#[]⟩, .bool false, .slice bo 0 dap] 24)) hb2
  have c0 := cell_later' hb3 c0
  have c1 := cell_later' hb3 c1
  have c2 := cell_later' hb3 c2
  clear hb2 hb3 hB1
  have hk := HW.out
  rcases hk with rfl | hk
  · go_wp2_with (go_at_call 8; refine (awk9 C _ (Lib.hid (by first | exact Htb.out | exact tab_below Htb.out (by assumption) | exact tab_below (tab_below Htb.out (by assumption)) (al1 _ _) | exact tab_below Htb.out (al1 _ _)))).mono ?_; rintro e w3 ⟨rfl, hb3⟩)
    go_ret
    exact ⟨ret_bool (by simp), below_keep hb3 hB2⟩
  · by_cases h0 : n' = 0
    · subst h0
      clear hk
      go_wp2_with (go_at_call 8; refine (awk9 C _ (Lib.hid (by first | exact Htb.out | exact tab_below Htb.out (by assumption) | exact tab_below (tab_below Htb.out (by assumption)) (al1 _ _) | exact tab_below Htb.out (al1 _ _)))).mono ?_; rintro e w3 ⟨rfl, hb3⟩)
      go_ret
      exact ⟨ret_bool (by simp), below_keep hb3 hB2⟩
    · have b0 : (n' == 0) = false := by rw [beq_eq_false_iff_ne]; exact h0
      clear h0
      by_cases h1 : n' = n + 1
      · subst h1
        have b1 : (n + 1 == n + 1) = true := by simp
        clear hk
        go_wp2_with (go_at_call 8; refine (awk9 C _ (Lib.hid (by first | exact Htb.out | exact tab_below Htb.out (by assumption) | exact tab_below (tab_below Htb.out (by assumption)) (al1 _ _) | exact tab_below Htb.out (al1 _ _)))).mono ?_; rintro e w3 ⟨rfl, hb3⟩)
        go_ret
        exact ⟨ret_bool (by simp), below_keep hb3 hB2⟩
      · obtain ⟨rfl, rfl⟩ : n' = 1 ∧ n = 1 := by rcases hk with hk | hk; exact absurd hk h1; exact hk
        clear hk h1 b0
        go_wp2_with (go_at_call 8; refine (awk9 C _ (Lib.hid (by first | exact Htb.out | exact tab_below Htb.out (by assumption) | exact tab_below (tab_below Htb.out (by assumption)) (al1 _ _) | exact tab_below Htb.out (al1 _ _)))).mono ?_; rintro e w3 ⟨rfl, hb3⟩)
        go_ret
        exact ⟨ret_bool (by simp), below_keep hb3 hB2⟩
set_option maxRecDepth 100000 in
set_option maxHeartbeats 8000000 in
theorem good_vl (C : ParOk) (s : ByteArray) (T : Tr) (w : World) (Htb : Hid (Tab w)) (h : (s.size : Int) ≤ 3000) (hs : s.size ≤ maxLen) (hs2 : ((ba [35, 32, 123, 10] ++ s) ++ ba [10, 9, 35, 32, 125]).size ≤ maxLen) (hc : cnt T.body ≤ 1000000000000)
    (HV : Hid (validT T = 0)) (HP : Hid (parE s.data.toList = (T, 0, 0))) (HP2 : Hid (parE ((ba [35, 32, 123, 10] ++ s) ++ ba [10, 9, 35, 32, 125]).data.toList = (T, 0, 0))) :
    Calls Tryz.prog 4 #[.string s] w fun e w' => e = .returned (.bool true) ∧ Below w.heap.size w w' := by
  have d1 : decide ((3000 : Int) < (s.size : Int)) = false := decide_eq_false (by omega)
  obtain ⟨X, hX⟩ : ∃ X, bb T.name = X := ⟨_, rfl⟩
  obtain ⟨d, hd⟩ : ∃ d, T.dir = d := ⟨_, rfl⟩
  have HX := Lib.hid hX
  have HD := Lib.hid hd
  clear hX hd
  go_enter Tryz.func4, Tryz.ntmps4
  go_wp2_with fail
  refine (C.parse _ T 0 0 _ hs (Lib.hid (by first | exact Htb.out | exact tab_below Htb.out (by assumption) | exact tab_below (tab_below Htb.out (by assumption)) (al1 _ _) | exact tab_below Htb.out (al1 _ _))) HP).mono ?_
  rintro e1 w1 ⟨v, rfl, hT, hb1⟩
  obtain ⟨bv, rfl, -, hsq⟩ := id hT
  obtain ⟨ao, cn, cap, rfl⟩ : ∃ ao n cap, bv = .slice ao n cap := by obtain ⟨ao, cap, e, _⟩ := hsq; exact ⟨ao, _, cap, e⟩
  rw [HX.out, HD.out] at hT ⊢
  have hB1 := below_keep (al1 w1 (.cells #[.string X, .bool d, .slice ao cn cap] 24)) hb1
  obtain ⟨c0, c1, c2⟩ := at3_new w1 X d (.slice ao cn cap) 24
  have HT1 := Lib.hid (hT.keep (al1 w1 (.cells #[.string X, .bool d, .slice ao cn cap] 24)))
  clear hb1 hsq hT
  go_wp2_with fail
  refine (C.parse _ T 0 0 _ hs2 (Lib.hid (by first | exact Htb.out | exact tab_below Htb.out (by assumption) | exact tab_below (tab_below Htb.out (by assumption)) (al1 _ _) | exact tab_below Htb.out (al1 _ _))) HP2).mono ?_
  rintro e1 w2 ⟨v, rfl, hT, hb2⟩
  obtain ⟨bv, rfl, -, hsq⟩ := id hT
  obtain ⟨bo, dn, dap, rfl⟩ : ∃ ao n cap, bv = .slice ao n cap := by obtain ⟨ao, cap, e, _⟩ := hsq; exact ⟨ao, _, cap, e⟩
  rw [HX.out, HD.out] at hT ⊢
  have hB2 := below_keep (al1 w2 (.cells #[.string X, .bool d, .slice bo dn dap] 24)) (below_keep hb2 hB1)
  have hb3 := below_keep (al1 w2 (.cells #[.string X, .bool d, .slice bo dn dap] 24)) hb2
  obtain ⟨e0, e1, e2⟩ := at3_new w2 X d (.slice bo dn dap) 24
  have c0 := cell_later' hb3 c0
  have c1 := cell_later' hb3 c1
  have c2 := cell_later' hb3 c2
  have HT2 := Lib.hid (HT1.out.keep hb3)
  have HU2 := Lib.hid (hT.keep (al1 w2 (.cells #[.string X, .bool d, .slice bo dn dap] 24)))
  clear hb2 hb3 hB1 hsq hT HT1
  go_wp2_with fail
  refine (rvalid_huge _ T 0 _ HT2 hc HV).mono ?_
  rintro e3 w3 ⟨rfl, hb3⟩
  have hB3 := below_keep hb3 hB2
  have HT3 := Lib.hid (HT2.out.keep hb3)
  have HU3 := Lib.hid (HU2.out.keep hb3)
  have c0 := cell_later' hb3 c0
  have c1 := cell_later' hb3 c1
  have c2 := cell_later' hb3 c2
  have e0 := cell_later' hb3 e0
  have e1 := cell_later' hb3 e1
  have e2 := cell_later' hb3 e2
  clear hb3 hB2 HT2 HU2
  go_wp2_with fail
  refine (same_of _ _ T _ HT3 HU3).mono ?_
  rintro e4 w4 ⟨rfl, hb4⟩
  have hB4 := below_keep hb4 hB3
  clear hb4 hB3
  go_wp2_with (go_at_call 8; refine (awk9 C _ (Lib.hid (by first | exact Htb.out | exact tab_below Htb.out (by assumption) | exact tab_below (tab_below Htb.out (by assumption)) (al1 _ _) | exact tab_below Htb.out (al1 _ _)))).mono ?_; rintro e w5 ⟨rfl, hb5⟩)
  go_ret
  exact ⟨ret_bool (by simp), below_keep hb5 hB4⟩
theorem wvl (C : ParOk) (s : ByteArray) (hs : s.size ≤ maxLen) (w : World) (Htb : Hid (Tab w)) :
    Calls Tryz.prog 4 #[.string s] w fun e w' => e = .returned (.bool true) ∧ Below w.heap.size w w' := by
  rcases Nat.lt_or_ge 3000 s.size with h | h
  · exact far_vl C s w Htb (by omega)
  · have hz : s.data.toList.length = s.size := by simp
    have hw : ((ba [35, 32, 123, 10] ++ s) ++ ba [10, 9, 35, 32, 125]).data.toList = wrapL s.data.toList := by
      rw [suf_list, pre_list]; unfold wrapL; rw [List.append_assoc]
    have hq : ((ba [35, 32, 123, 10] ++ s) ++ ba [10, 9, 35, 32, 125]).size = s.size + 9 := by
      have : ((ba [35, 32, 123, 10] ++ s) ++ ba [10, 9, 35, 32, 125]).data.toList.length = s.size + 9 := by
        rw [hw]; unfold wrapL; simp only [List.length_append, List.length_cons, List.length_nil]; omega
      rw [← b_size]; exact this
    obtain ⟨T, n, e, hp⟩ : ∃ T n e, parE s.data.toList = (T, n, e) := ⟨_, _, _, rfl⟩
    obtain ⟨T', n', e', hp'⟩ : ∃ T n e, parE (wrapL s.data.toList) = (T, n, e) := ⟨_, _, _, rfl⟩
    have hl := par_line (l := s.data.toList) (by omega)
    rw [hp] at hl
    have hpp := hp
    have hpp' := hp'
    unfold parE at hp hp'
    rw [tokE_small (by omega)] at hp
    rw [tokE_small (by unfold wrapL; simp only [List.length_append, List.length_cons, List.length_nil]; omega)] at hp'
    obtain ⟨rfl, h1, h2⟩ := par_wrap s.data.toList hp hp'
    by_cases he : e' = 0
    · obtain ⟨rfl, rfl, hv⟩ := h2 he
      subst he
      have hc : cnt T'.body ≤ 512 := ((valid_iff T').1 hv).2.1
      have hn0 : n = 0 := by
        unfold parA at hp
        split at hp
        · rename_i hx; simp only [Prod.mk.injEq] at hp; exact absurd hp.2.2 hx
        · revert hp
          cases hx : endR (treeR fmtL (tkz prL s.data.toList 1 false).1) with
          | ok a r =>
            show (if validT a ≠ 0 then (T00, (0 : Int), validT a) else (a, 0, 0)) = _ → _
            split <;> (intro hp; simp only [Prod.mk.injEq] at hp; exact hp.2.1.symm)
          | er q r =>
            intro hp
            have hgd := (tree_gd fmtL (tkz prL s.data.toList 1 false).1).endR
            rw [hx] at hgd
            change (T00, lineOf _ r, q) = _ at hp
            simp only [Prod.mk.injEq] at hp
            rcases hgd with rfl | rfl
            · exact absurd hp.2.2 (by decide)
            · exact absurd hp.2.2 (by decide)
      subst hn0
      exact good_vl C s T' w Htb (by omega) hs (by rw [hq]; unfold maxLen; omega) (by omega) (Lib.hid hv) (Lib.hid hpp) (Lib.hid (by rw [hw]; exact hpp'))
    · obtain ⟨rfl, hk⟩ := h1 he
      have hT' : T' = T00 := by
        unfold parA at hp'
        split at hp'
        · simp only [Prod.mk.injEq] at hp'; exact hp'.1.symm
        · revert hp'
          cases hx : endR (treeR fmtL (tkz prL (wrapL s.data.toList) 1 false).1) with
          | ok a r =>
            show (if validT a ≠ 0 then (T00, (0 : Int), validT a) else (a, 0, 0)) = _ → _
            split
            · intro hp'; simp only [Prod.mk.injEq] at hp'; exact hp'.1.symm
            · intro hp'; simp only [Prod.mk.injEq] at hp'; exact absurd hp'.2.2.symm he
          | er q r =>
            intro hp'
            change (T00, lineOf _ r, q) = _ at hp'
            simp only [Prod.mk.injEq] at hp'
            exact hp'.1.symm
      subst hT'
      exact bad_vl C s n n' e' w Htb (by omega) hs (by rw [hq]; unfold maxLen; omega) (by simpa using he) hl (Lib.hid hk) (Lib.hid hpp) (Lib.hid (by rw [hw]; exact hpp'))
end Go.Proofs.YtgccheiemnpaoaaGreatDoor.par
