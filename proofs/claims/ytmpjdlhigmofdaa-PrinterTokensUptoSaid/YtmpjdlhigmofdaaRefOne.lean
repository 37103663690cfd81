/-
  What one of the reference of layer 6 returns: the token at the beginning of a text, its length, the error. Conditions: the text has a byte, and at most 20000.
-/
import Derived.Test.YtmpjdlhigmofdaaRefLex2
import Derived.Test.YtmpjdlhigmofdaaRefParse
import Derived.Test.YtmpjdlhigmofdaaLexNum
namespace Go.Proofs.Ytmpjdlhigmofdaa
open Go.RowKit lex

/-- A token by value. -/
abbrev tokV (t : Tok) : Value := .agg #[.int .i64 t.kind, .string (ba t.text), .int .i64 t.num, .int .i64 t.line]
theorem ext_list (s : ByteArray) (k : Nat) : (s.extract 0 k).data.toList = s.data.toList.take k := take_data s k
theorem ba_ext0 (s : ByteArray) (k : Nat) : s.extract 0 k = ba (s.data.toList.take k) := ba_of (ext_list s k)

set_option maxHeartbeats 4000000 in
theorem rone_of (s : ByteArray) (t : Tok) (n : Nat) (e0 : Int) (w : World) (hs : s.size ≤ 20000) (h1 : 1 ≤ s.size) (h : Hid (oneL prL s.data.toList = (t, n, e0))) :
    Calls Try.prog 33 #[.string s] w fun e w' => e = .returned (.tuple #[tokV t, .int .i64 (n : Int), .int .i64 e0]) ∧ Below w.heap.size w w' := by
  have hm : s.size ≤ maxLen := by unfold maxLen; omega
  have hr := h.out
  unfold oneL at hr
  clear h
  obtain ⟨wl, hwl⟩ : ∃ v : Nat, wordLen s.data.toList = v := ⟨_, rfl⟩
  have hwl2 : wl ≤ s.size := by rw [← hwl, ← size_list]; exact wordLen_le _
  rw [hwl] at hr
  have HW := Lib.hid hwl
  clear hwl
  by_cases c1 : 0 < wl
  · rw [if_pos c1] at hr
    obtain ⟨k, hk⟩ : ∃ v : Bool, isKw (s.data.toList.take wl) = v := ⟨_, rfl⟩
    rw [hk] at hr
    have HK : Hid (isKw (s.extract 0 wl).data.toList = k) := Lib.hid (by rw [ext_list]; exact hk)
    clear hk
    cases k
    · rw [if_neg (by simp)] at hr
      by_cases c2 : 16 < wl
      · rw [if_pos c2] at hr
        simp only [Prod.mk.injEq] at hr
        obtain ⟨rfl, rfl, rfl⟩ := hr
        go_enter Try.func33, Try.ntmps33
        go_wp2_with (first | (go_at_call 57; refine (rword_of _ _ _ hm HW).mono ?_; rintro e w' ⟨rfl, rfl⟩) | (go_at_call 58; refine (rkw_of _ _ _ HK).mono ?_; rintro e w' ⟨rfl, rfl⟩))
        exact bodyPost_ret (v := .tuple #[.agg #[.int .i64 0, .string (ba []), .int .i64 0, .int .i64 0], .int .i64 0, .int .i64 2]) (by simp [results, Try.results33, go_sem]) rfl ⟨rfl, al1 ..⟩
      · rw [if_neg c2] at hr
        simp only [Prod.mk.injEq] at hr
        obtain ⟨rfl, rfl, rfl⟩ := hr
        go_enter Try.func33, Try.ntmps33
        go_wp2_with (first | (go_at_call 57; refine (rword_of _ _ _ hm HW).mono ?_; rintro e w' ⟨rfl, rfl⟩) | (go_at_call 58; refine (rkw_of _ _ _ HK).mono ?_; rintro e w' ⟨rfl, rfl⟩))
        exact bodyPost_ret (v := .tuple #[.agg #[.int .i64 1, .string (s.extract 0 wl), .int .i64 0, .int .i64 0], .int .i64 wl, .int .i64 0]) (by simp [results, Try.results33, go_sem]) rfl ⟨by rw [ba_ext0], al1 ..⟩
    · rw [if_pos rfl] at hr
      simp only [Prod.mk.injEq] at hr
      obtain ⟨rfl, rfl, rfl⟩ := hr
      go_enter Try.func33, Try.ntmps33
      go_wp2_with (first | (go_at_call 57; refine (rword_of _ _ _ hm HW).mono ?_; rintro e w' ⟨rfl, rfl⟩) | (go_at_call 58; refine (rkw_of _ _ _ HK).mono ?_; rintro e w' ⟨rfl, rfl⟩))
      exact bodyPost_ret (v := .tuple #[.agg #[.int .i64 2, .string (s.extract 0 wl), .int .i64 0, .int .i64 0], .int .i64 wl, .int .i64 0]) (by simp [results, Try.results33, go_sem]) rfl ⟨by rw [ba_ext0], al1 ..⟩
  · rw [if_neg c1] at hr
    obtain rfl : wl = 0 := by omega
    clear c1
    obtain ⟨nl, hnl⟩ : ∃ v : Nat, numLen s.data.toList = v := ⟨_, rfl⟩
    have hnl2 : nl ≤ s.size := by rw [← hnl, ← size_list]; exact numLen_le _
    rw [hnl] at hr
    have HN := Lib.hid hnl
    clear hnl
    by_cases c1 : 0 < nl
    · rw [if_pos c1] at hr
      simp only [Prod.mk.injEq] at hr
      obtain ⟨rfl, rfl, rfl⟩ := hr
      have HP : Hid (parseV (s.extract 0 nl).data.toList = .tuple #[.int .i64 (prL (s.data.toList.take nl)).1, .int .i64 (prL (s.data.toList.take nl)).2]) := Lib.hid (by rw [ext_list]; exact parseV_pr _)
      have hx : (s.extract 0 nl).size ≤ 20000 := by rw [← size_list, ext_list, List.length_take]; omega
      generalize prL (s.data.toList.take nl) = pv at HP ⊢
      obtain ⟨pn, pe⟩ := pv
      go_enter Try.func33, Try.ntmps33
      go_wp2_with (first | (go_at_call 57; refine (rword_of _ _ _ hm HW).mono ?_; rintro e w' ⟨rfl, rfl⟩) | (go_at_call 59; refine (rnumber_of _ _ _ hm h1 HN).mono ?_; rintro e w' ⟨rfl, rfl⟩) | (go_at_call 60; refine (refParse_of _ _ _ hx HP).mono ?_; rintro e w' ⟨rfl, rfl⟩))
      exact bodyPost_ret (v := .tuple #[.agg #[.int .i64 3, .string (ba []), .int .i64 pn, .int .i64 0], .int .i64 nl, .int .i64 pe]) (by simp [results, Try.results33, go_sem]) rfl ⟨rfl, al1 ..⟩
    · rw [if_neg c1] at hr
      obtain rfl : nl = 0 := by omega
      clear c1
      by_cases c34 : s[0].toNat = 34
      · have hh : s.data.toList.head? = some 34 := by rw [list_cons (s := s) (by omega)]; exact congrArg some (UInt8.toNat_inj.1 c34)
        rw [if_pos hh] at hr
        simp only [Prod.mk.injEq] at hr
        rw [← List.drop_one] at hr
        have b1 : ((s[0].toNat : Int) == 34) = true := by rw [beq_iff_eq]; omega
        have HT : Hid (strL (s.data.toList.drop 1) [] 1 = ((strL (s.data.toList.drop 1) [] 1).1, (strL (s.data.toList.drop 1) [] 1).2.1, (strL (s.data.toList.drop 1) [] 1).2.2)) := Lib.hid rfl
        generalize (strL (s.data.toList.drop 1) [] 1).1 = x at hr HT
        generalize (strL (s.data.toList.drop 1) [] 1).2.1 = y at hr HT
        generalize (strL (s.data.toList.drop 1) [] 1).2.2 = z at hr HT
        obtain ⟨rfl, rfl, rfl⟩ := hr
        clear c34 hh
        go_enter Try.func33, Try.ntmps33
        go_wp2_with (first | (go_at_call 57; refine (rword_of _ _ _ hm HW).mono ?_; rintro e w' ⟨rfl, rfl⟩) | (go_at_call 59; refine (rnumber_of _ _ _ hm h1 HN).mono ?_; rintro e w' ⟨rfl, rfl⟩) | (go_at_call 61; refine (rtext_of _ _ _ _ _ hm h1 HT).mono ?_; rintro e w' ⟨rfl, rfl⟩))
        exact bodyPost_ret (v := .tuple #[.agg #[.int .i64 4, .string (ba x), .int .i64 0, .int .i64 0], .int .i64 y, .int .i64 z]) (by simp [results, Try.results33, go_sem]) rfl ⟨rfl, al1 ..⟩
      · have hh : s.data.toList.head? ≠ some 34 := by
          rw [list_cons (s := s) (by omega)]; intro e; exact c34 (by rw [Option.some.inj e]; rfl)
        rw [if_neg hh] at hr
        have b1 : ((s[0].toNat : Int) == 34) = false := by rw [beq_eq_false_iff_ne]; omega
        rw [size_list] at hr
        clear c34 hh
        obtain ⟨k2, hk2⟩ : ∃ v : Bool, isMk (s.data.toList.take 2) = v := ⟨_, rfl⟩
        obtain ⟨k1, hk1⟩ : ∃ v : Bool, isMk (s.data.toList.take 1) = v := ⟨_, rfl⟩
        rw [hk2, hk1] at hr
        have HK2 : Hid (isMk (s.extract 0 2).data.toList = k2) := Lib.hid (by rw [ext_list]; exact hk2)
        have HK1 : Hid (isMk (s.extract 0 1).data.toList = k1) := Lib.hid (by rw [ext_list]; exact hk1)
        clear hk1 hk2
        by_cases c2 : 1 < s.size
        · cases k2
          · rw [if_neg (by simp)] at hr
            cases k1
            · rw [if_neg (by simp)] at hr
              simp only [Prod.mk.injEq] at hr
              obtain ⟨rfl, rfl, rfl⟩ := hr
              go_enter Try.func33, Try.ntmps33
              go_wp2_with (first | (go_at_call 57; refine (rword_of _ _ _ hm HW).mono ?_; rintro e w' ⟨rfl, rfl⟩) | (go_at_call 59; refine (rnumber_of _ _ _ hm h1 HN).mono ?_; rintro e w' ⟨rfl, rfl⟩) | (go_at_call 62; (with_reducible refine (rmk_of _ _ _ HK2).mono ?_); rintro e w' ⟨rfl, rfl⟩) | (go_at_call 62; (with_reducible refine (rmk_of _ _ _ HK1).mono ?_); rintro e w' ⟨rfl, rfl⟩))
              exact bodyPost_ret (v := .tuple #[.agg #[.int .i64 0, .string (ba []), .int .i64 0, .int .i64 0], .int .i64 0, .int .i64 4]) (by simp [results, Try.results33, go_sem]) rfl ⟨rfl, al1 ..⟩
            · rw [if_pos rfl] at hr
              simp only [Prod.mk.injEq] at hr
              obtain ⟨rfl, rfl, rfl⟩ := hr
              go_enter Try.func33, Try.ntmps33
              go_wp2_with (first | (go_at_call 57; refine (rword_of _ _ _ hm HW).mono ?_; rintro e w' ⟨rfl, rfl⟩) | (go_at_call 59; refine (rnumber_of _ _ _ hm h1 HN).mono ?_; rintro e w' ⟨rfl, rfl⟩) | (go_at_call 62; (with_reducible refine (rmk_of _ _ _ HK2).mono ?_); rintro e w' ⟨rfl, rfl⟩) | (go_at_call 62; (with_reducible refine (rmk_of _ _ _ HK1).mono ?_); rintro e w' ⟨rfl, rfl⟩))
              exact bodyPost_ret (v := .tuple #[.agg #[.int .i64 5, .string (s.extract 0 1), .int .i64 0, .int .i64 0], .int .i64 1, .int .i64 0]) (by simp [results, Try.results33, go_sem]) rfl ⟨by rw [ba_ext0]; rfl, al1 ..⟩
          · rw [if_pos ⟨c2, rfl⟩] at hr
            simp only [Prod.mk.injEq] at hr
            obtain ⟨rfl, rfl, rfl⟩ := hr
            go_enter Try.func33, Try.ntmps33
            go_wp2_with (first | (go_at_call 57; refine (rword_of _ _ _ hm HW).mono ?_; rintro e w' ⟨rfl, rfl⟩) | (go_at_call 59; refine (rnumber_of _ _ _ hm h1 HN).mono ?_; rintro e w' ⟨rfl, rfl⟩) | (go_at_call 62; (with_reducible refine (rmk_of _ _ _ HK2).mono ?_); rintro e w' ⟨rfl, rfl⟩) | (go_at_call 62; (with_reducible refine (rmk_of _ _ _ HK1).mono ?_); rintro e w' ⟨rfl, rfl⟩))
            exact bodyPost_ret (v := .tuple #[.agg #[.int .i64 5, .string (s.extract 0 2), .int .i64 0, .int .i64 0], .int .i64 2, .int .i64 0]) (by simp [results, Try.results33, go_sem]) rfl ⟨by rw [ba_ext0]; rfl, al1 ..⟩
        · rw [if_neg (fun e => c2 e.1)] at hr
          cases k1
          · rw [if_neg (by simp)] at hr
            simp only [Prod.mk.injEq] at hr
            obtain ⟨rfl, rfl, rfl⟩ := hr
            go_enter Try.func33, Try.ntmps33
            go_wp2_with (first | (go_at_call 57; refine (rword_of _ _ _ hm HW).mono ?_; rintro e w' ⟨rfl, rfl⟩) | (go_at_call 59; refine (rnumber_of _ _ _ hm h1 HN).mono ?_; rintro e w' ⟨rfl, rfl⟩) | (go_at_call 62; (with_reducible refine (rmk_of _ _ _ HK2).mono ?_); rintro e w' ⟨rfl, rfl⟩) | (go_at_call 62; (with_reducible refine (rmk_of _ _ _ HK1).mono ?_); rintro e w' ⟨rfl, rfl⟩))
            exact bodyPost_ret (v := .tuple #[.agg #[.int .i64 0, .string (ba []), .int .i64 0, .int .i64 0], .int .i64 0, .int .i64 4]) (by simp [results, Try.results33, go_sem]) rfl ⟨rfl, al1 ..⟩
          · rw [if_pos rfl] at hr
            simp only [Prod.mk.injEq] at hr
            obtain ⟨rfl, rfl, rfl⟩ := hr
            go_enter Try.func33, Try.ntmps33
            go_wp2_with (first | (go_at_call 57; refine (rword_of _ _ _ hm HW).mono ?_; rintro e w' ⟨rfl, rfl⟩) | (go_at_call 59; refine (rnumber_of _ _ _ hm h1 HN).mono ?_; rintro e w' ⟨rfl, rfl⟩) | (go_at_call 62; (with_reducible refine (rmk_of _ _ _ HK2).mono ?_); rintro e w' ⟨rfl, rfl⟩) | (go_at_call 62; (with_reducible refine (rmk_of _ _ _ HK1).mono ?_); rintro e w' ⟨rfl, rfl⟩))
            exact bodyPost_ret (v := .tuple #[.agg #[.int .i64 5, .string (s.extract 0 1), .int .i64 0, .int .i64 0], .int .i64 1, .int .i64 0]) (by simp [results, Try.results33, go_sem]) rfl ⟨by rw [ba_ext0]; rfl, al1 ..⟩
end Go.Proofs.Ytmpjdlhigmofdaa
