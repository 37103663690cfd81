/-
  What Tokenize of the lexer returns. Condition: a text's length.
-/
import Derived.Test.YtcohjleolidngaaDoorLexG
namespace Go.Proofs.YtcohjleolidngaaDoor
open Go.RowKit lex

theorem tokC_ok {l : List UInt8} {t : Tok} {n : Nat} {e : Int} (h : tokC l = (t, n, e)) (he : e = 0) : oneL prL l = (t, n, 0) := by
  unfold tokC at h
  by_cases h0 : (oneL prL l).2.2 = 0
  · rw [if_pos h0, he] at h; exact h
  · rw [if_neg h0] at h
    simp only [Prod.mk.injEq] at h
    exact absurd (h.2.2.trans he) h0
theorem tokC_err {l : List UInt8} {t : Tok} {n : Nat} {e : Int} (h : tokC l = (t, n, e)) : (oneL prL l).2.2 = e := by
  unfold tokC at h
  by_cases h0 : (oneL prL l).2.2 = 0
  · rw [if_pos h0] at h; rw [h]
  · rw [if_neg h0] at h
    simp only [Prod.mk.injEq] at h
    exact h.2.2
set_option maxRecDepth 100000 in
set_option maxHeartbeats 8000000 in
theorem tokenize_near (s : ByteArray) (L : List Tok) (l0 e0 : Int) (w : World) (hs : s.size ≤ 16384) (h : Hid (tkz prL s.data.toList 1 false = (L, l0, e0))) :
    Calls Tryd.prog 9 #[.string s] w (TokOut L l0 e0 w) := by
  obtain ⟨i0, hi, hz0, hz1, hz2⟩ := info_tok4
  have H0 : Hid (combs [] (tkz prL (s.data.toList.drop 0) 1 false) = (L, l0, e0)) := Lib.hid (by rw [combs_nil]; exact h.out)
  have hsi : ¬ (16384 : Int) < (s.size : Int) := by omega
  clear h
  go_enter Tryd.func9, Tryd.ntmps9
  go_wp2_with fail
  go_loopw [0, 5, 6] (fun src out ln wr => ∃ (T : ByteArray) (k : Nat) (ts : List Tok) (l : Int), src = .string T ∧ T.data.toList = s.data.toList.drop k ∧ T.size + k = s.size ∧ ln = .int .i64 l ∧ ts.length ≤ k ∧ 1 ≤ l ∧ l ≤ k + 1 ∧
    wr.ownsRow w.heap.size 31 4 out ts.length (flatT ts) ∧ Below w.heap.size w wr ∧ combs ts (tkz prL (s.data.toList.drop k) l false) = (L, l0, e0)) (fun src _ _ _ => lenOf src)
  case atStart => exact ⟨s, 0, [], 1, rfl, rfl, rfl, rfl, Nat.le_refl _, by omega, by omega, World.ownsRow_nil _ _ _ _, Below.refl _ _, H0.out⟩
  case round =>
    obtain ⟨T, k, ts, l, rfl, hT, hTs, rfl, hts, hl1, hl2, hown, hB, hr⟩ := hrel
    rename World => wr
    have HO := Lib.hid hown
    have HR := Lib.hid hr
    have HT := Lib.hid hT
    have HTM := Lib.hid (show T.size ≤ maxLen by unfold maxLen; omega)
    clear hown hr hT H0
    go_wp2_with fail
    refine (skipBlanks_any T _ HTM.out).mono ?_
    rintro e w1 ⟨U, j, m, rfl, hU, hj, hmj, hS, hH, hb1⟩
    rw [HT.out, List.drop_drop] at hU
    rw [size_list] at hj
    have hUs : U.size + (k + j) = s.size := by rw [← size_list, hU, List.length_drop, size_list]; omega
    have hS2 := hS l
    rw [HT.out, List.drop_drop] at hS2
    have HO1 := own_keep HO.out hb1
    have hB1 := below_keep hb1 hB
    have HR1 : Hid (combs ts (tkz prL (s.data.toList.drop (k + j)) (l + (m : Int)) false) = (L, l0, e0)) := Lib.hid (by rw [← hS2]; exact HR.out)
    have HU := Lib.hid hU
    have HH := Lib.hid hH
    have HOW1 := Lib.hid HO1
    clear hU hS hS2 hH HO HR HT HTM hb1 hB HO1
    by_cases hU0 : U.size = 0
    · have hemp : (U.toList == []) = true := nil_yes hU0
      have HN : Hid (L = ts ∧ l0 = 0 ∧ e0 = 0) := Lib.hid (by
        have := HR1.out
        rw [← HU.out, list_nil hU0, tkz_nil] at this
        unfold combs at this
        simp only [ne_eq, not_true_eq_false, if_false, List.append_nil, Prod.mk.injEq] at this
        exact ⟨this.1.symm, this.2.1.symm, this.2.2.symm⟩)
      obtain ⟨rfl, rfl, rfl⟩ := HN.out
      clear HN HR1 HH
      go_wp2
      go_ret3
      exact ⟨_, rfl, own_tl HOW1.out, hB1⟩
    · have hemp : (U.toList == []) = false := nil_no hU0
      have hU1 : 0 < U.size := by omega
      have hHead : U.data.toList = U[0] :: (s.data.toList.drop (k + j)).tail := by
        have e := drop_at (s := U) (k := 0) hU1
        rw [List.drop_zero] at e
        rw [e]; congr 1
        rw [← HU.out, e]; rfl
      obtain ⟨c10, hbl⟩ := HH.out U[0] (by rw [hHead]; rfl)
      have HX2 := Lib.hid (show U.size ≤ 20000 by omega)
      obtain ⟨t, n, e1, ho⟩ : ∃ t n e1, tokC U.data.toList = (t, n, e1) := ⟨_, _, _, rfl⟩
      have HT := Lib.hid ho
      have hD : s.data.toList.drop (k + j) = U[0] :: (s.data.toList.drop (k + j)).tail := by rw [← hHead, HU.out]
      by_cases he : e1 = 0
      · have hone := tokC_ok ho he
        subst he
        rw [HU.out] at hone
        obtain ⟨n1, n2, _⟩ := oneL_len prL (s.data.toList.drop (k + j)) (by rw [hD]; simp) (by rw [hone])
        rw [hone] at n1 n2
        simp only [List.length_drop, size_list] at n1 n2
        have HN : Hid (combs (ts ++ [{ t with line := l + (m : Int) }]) (tkz prL (s.data.toList.drop (k + j + n)) (l + (m : Int)) false) = (L, l0, e0)) := Lib.hid (by
          have := HR1.out
          rw [hD] at this
          rw [tkz_tok _ _ _ _ c10 hbl (by rw [← hD, hone]), ← hD, hone, combs_tok, List.drop_drop] at this
          exact this)
        obtain ⟨kd, tx, nu, li⟩ := t
        have HV := Lib.hid (rest_drop n HU.out)
        have hVs : (U.extract n U.size).size + (k + j + n) = s.size := by rw [← size_list, HV.out, List.length_drop, size_list]; omega
        have HVS := Lib.hid hVs
        clear c10 hbl ho hone hD hHead HR1 HH hU0 hVs
        simp only at HN
        go_upto_region 13 with (go_at_call 15; refine (leadingToken_of _ _ _ _ _ HX2.out hU1 HT).mono ?_; rintro e w2 ⟨rfl, hb2⟩)
        have HO2 := own_keep HOW1.out hb2
        have HO3 := own_keep HO2 (al1 w2 (.cells #[.int .i64 kd, .string (ba tx), .int .i64 nu, .int .i64 (l + (m : Int))] 31))
        have hB3 := below_keep (al1 w2 (.cells #[.int .i64 kd, .string (ba tx), .int .i64 nu, .int .i64 (l + (m : Int))] 31)) (below_keep hb2 hB1)
        have q0 : (w2.alloc (.cells #[.int .i64 kd, .string (ba tx), .int .i64 nu, .int .i64 (l + (m : Int))] 31)).cell? ⟨w2.heap.size, 0, none⟩ = some (.int .i64 kd) := by go_simp
        have q1 : (w2.alloc (.cells #[.int .i64 kd, .string (ba tx), .int .i64 nu, .int .i64 (l + (m : Int))] 31)).cell? ⟨w2.heap.size, 1, none⟩ = some (.string (ba tx)) := by go_simp
        have q2 : (w2.alloc (.cells #[.int .i64 kd, .string (ba tx), .int .i64 nu, .int .i64 (l + (m : Int))] 31)).cell? ⟨w2.heap.size, 2, none⟩ = some (.int .i64 nu) := by go_simp
        have q3 : (w2.alloc (.cells #[.int .i64 kd, .string (ba tx), .int .i64 nu, .int .i64 (l + (m : Int))] 31)).cell? ⟨w2.heap.size, 3, none⟩ = some (.int .i64 (l + (m : Int))) := by go_simp
        generalize w2.alloc (.cells #[.int .i64 kd, .string (ba tx), .int .i64 nu, .int .i64 (l + (m : Int))] 31) = w3 at HO3 hB3 q0 q1 q2 q3 ⊢
        have hs3 := hB3.size
        have HOW := Lib.hid HO3
        clear HO2 HO3 HOW1 hB1 hb2
        go_wp2_with (at_builtin; refine wpList_append_own _ rfl (.tmp 38) (.tmp 40) 22 rfl w.heap.size 31 i0 (.agg #[.int .i64 0, .string ⟨#[]⟩, .int .i64 0, .int .i64 0]) 4 40 Tryd.underlying22 hi hz0 hz1 hz2 rfl (by decide) _ _ _ rfl (HOW.out.alloc _) ⟨w3.heap.size, 0, none⟩ 1 1 [.int .i64 kd, .string (ba tx), .int .i64 nu, .int .i64 (l + (m : Int))] rfl rfl (cell4_new _ _ _ _ _ _) (by simp [Value.oneCell']) (by unfold maxLen; omega) (by omega) (by simp; omega) ?_; intro v4 w4 hown4 hgrow4 _)
        go_roundw
        case rel => exact ⟨_, k + j + n, ts ++ [⟨kd, tx, nu, l + (m : Int)⟩], l + (m : Int), rfl, HV.out, HVS.out, rfl, by rw [List.length_append]; simp; omega, by omega, by omega, by rw [flatT_snoc, List.length_append]; exact hown4, (hB3.alloc hs3 _).grown hgrow4 (by simp; omega) fun q hq => (HOW.out.lt q hq).1, HN.out⟩
        case measure => have := HVS.out; simp only [lenOf]; omega
      · have hone := tokC_err ho
        have b6 : (e1 != 0) = true := by simp [he]
        rw [HU.out] at hone
        have HN : Hid (L = [] ∧ l0 = l + (m : Int) ∧ e0 = e1) := Lib.hid (by
          have := HR1.out
          rw [hD] at this
          rw [tkz_err _ _ _ _ c10 hbl (by rw [← hD, hone]; exact he), ← hD, hone] at this
          unfold combs at this
          rw [if_pos he] at this
          simp only [Prod.mk.injEq] at this
          exact ⟨this.1.symm, this.2.1.symm, this.2.2.symm⟩)
        obtain ⟨rfl, rfl, rfl⟩ := HN.out
        clear c10 hbl ho hone hD hHead HR1 HH hU0 he HN
        obtain ⟨kd, tx, nu, li⟩ := t
        go_wp2_with (go_at_call 15; refine (leadingToken_of _ _ _ _ _ HX2.out hU1 HT).mono ?_; rintro e w2 ⟨rfl, hb2⟩)
        go_ret3
        exact ⟨_, rfl, Tl.nil _, below_keep (al1 ..) (below_keep hb2 hB1)⟩
theorem tokenize_any (s : ByteArray) (L : List Tok) (l0 e0 : Int) (w : World) (_ : s.size ≤ maxLen) (h : Hid (tokE s.data.toList = (L, l0, e0))) :
    Calls Tryd.prog 9 #[.string s] w (TokOut L l0 e0 w) := by
  have hr := h.out
  unfold tokE at hr
  rw [size_list] at hr
  clear h
  by_cases hz : 16384 < s.size
  · rw [if_pos hz] at hr
    simp only [Prod.mk.injEq] at hr
    obtain ⟨rfl, rfl, rfl⟩ := hr
    have hzi : (16384 : Int) < (s.size : Int) := by omega
    clear hz
    go_enter Tryd.func9, Tryd.ntmps9
    go_wp2
    go_ret3
    exact ⟨_, rfl, Tl.nil _, Below.refl _ _⟩
  · rw [if_neg hz] at hr
    exact tokenize_near s L l0 e0 w (by omega) (Lib.hid hr)
end Go.Proofs.YtcohjleolidngaaDoor
