/-
  What leadingWord, leadingNumber and leadingMark of the lexer return, and IsKeyword and IsName. Condition: a text's length.
-/
import Derived.Test.YtcohjleolidngaaDoorLexA
namespace Go.Proofs.YtcohjleolidngaaDoor
open Go.RowKit lex

theorem ext_take (b : ByteArray) (k : Nat) : (b.extract 0 k).data.toList = b.data.toList.take k := by
  rw [ByteArray.data_extract, Array.toList_extract, List.extract_eq_take_drop, List.drop_zero, Nat.sub_zero]
theorem wrap32_byte (b : UInt8) : wrap32 (b.toNat : Int) = (b.toNat : Int) := by have := b.toNat_lt; unfold wrap32; omega
theorem ext_size (s : ByteArray) (k : Nat) (h : k ≤ s.size) : (s.extract 0 k).size = k := by rw [← size_list, ext_take s k, List.length_take, size_list]; omega
theorem ext_get (s X : ByteArray) (k : Nat) (hX : s.extract 0 k = X) (h0 : 0 < k) (hz : 0 < X.size) (hs : 0 < s.size) : X[0] = s[0] := by
  subst hX
  have a := dig_at' (s.extract 0 k) 0 hz
  rw [ext_take s k, List.getElem?_take_of_lt h0, dig_at' s 0 hs] at a
  exact (Option.some.inj a).symm
theorem ext_none (s : ByteArray) : s.extract 0 0 = ByteArray.empty := ba_ext (by rw [ext_take]; rfl)
/-- The word at the beginning, by the bytes of words there. -/
theorem word_first {s : ByteArray} (h : 0 < s.size) : wordLen s.data.toList = if isDgt s[0] = true then 0 else (s.data.toList.takeWhile isWd).length := by
  have e := drop_at (s := s) (k := 0) h
  rw [List.drop_zero] at e
  rw [e, wordLen_cons, List.takeWhile_cons]
  by_cases hd : isDgt s[0] = true
  · rw [if_pos hd, let_nd hd]; rfl
  · rw [if_neg hd]
    unfold isWd
    by_cases hl : isLet s[0] = true
    · rw [hl]; rfl
    · simp only [Bool.not_eq_true] at hd hl; rw [hl, hd]; rfl
theorem word_none {s : ByteArray} (h : s.size = 0) : wordLen s.data.toList = 0 := by rw [list_nil h]; rfl
theorem tw_none {s : ByteArray} (q : UInt8 → Bool) (h : s.size = 0) : (s.data.toList.takeWhile q).length = 0 := by rw [list_nil h]; rfl

set_option maxHeartbeats 1000000 in
theorem leadingWord_of (s : ByteArray) (n : Nat) (w : World) (hs : s.size ≤ maxLen) (hn : Hid (wordLen s.data.toList = n)) :
    Calls Tryd.prog 16 #[.string s] w fun e w' => e = .returned (.string (s.extract 0 n)) ∧ Below w.heap.size w w' := by
  obtain ⟨k, hk⟩ : ∃ v, (s.data.toList.takeWhile isWd).length = v := ⟨_, rfl⟩
  have hle := takeWhile_le isWd s.data.toList
  rw [size_list, hk] at hle
  have HK := Lib.hid hk
  have hz := ext_size s k hle
  obtain ⟨X, hX⟩ : ∃ X, s.extract 0 k = X := ⟨_, rfl⟩
  rw [hX] at hz
  have CL : Hid (∀ w, Calls Tryd.prog 27 #[.string s, .func (.func 33) #[] #[]] w fun e w' => e = .returned (.string X) ∧ Below w.heap.size w w') := Lib.hid (fun w => by
    rw [← hX]; exact leadWord_of s k w hs HK)
  by_cases h0 : k = 0
  · have hn0 : n = 0 := by
      rw [← hn.out]
      by_cases h : s.size = 0
      · exact word_none h
      · rw [word_first (by omega), hk, h0]; split <;> rfl
    have hemp : (X.toList == []) = true := nil_yes (by omega)
    have HE := Lib.hid (show s.extract 0 n = ByteArray.empty by rw [hn0]; exact ext_none s)
    clear hk hn hle hz hX HK h0 hn0 hs
    go_enter Tryd.func16, Tryd.ntmps16
    go_wp2_with (go_at_call 27; refine (CL.out _).mono ?_; rintro e w1 ⟨rfl, hb1⟩)
    go_ret
    exact ⟨by rw [HE.out]; rfl, hb1⟩
  · have hz0 : 0 < X.size := by omega
    have hemp : (X.toList == []) = false := nil_no (by omega)
    have hs0 : 0 < s.size := by omega
    have hg := ext_get s X k hX (by omega) hz0 hs0
    have hw := word_first hs0
    rw [hn.out, hk] at hw
    obtain ⟨d, hd⟩ : ∃ v, isDgt s[0] = v := ⟨_, rfl⟩
    rw [hd] at hw
    have HD : Hid (digN X[0].toNat = d) := Lib.hid (by rw [hg]; exact hd)
    have HX := Lib.hid hX
    have hw32 := wrap32_byte X[0]
    clear hk hn hg hd h0
    cases d
    · rw [if_neg (by decide)] at hw
      subst hw
      clear hle hs0 hz hX HK
      go_enter Tryd.func16, Tryd.ntmps16
      go_wp2_with (first | (go_at_call 27; refine (CL.out _).mono ?_; rintro e w1 ⟨rfl, hb1⟩) | (go_at_call 34; refine (isDigit_of _ _ _ HD).mono ?_; rintro e w' ⟨rfl, rfl⟩))
      go_ret
      exact ⟨by rw [HX.out]; rfl, hb1⟩
    · rw [if_pos rfl] at hw
      subst hw
      have HE := Lib.hid (ext_none s)
      clear hle hs0 hz hX HK
      go_enter Tryd.func16, Tryd.ntmps16
      go_wp2_with (first | (go_at_call 27; refine (CL.out _).mono ?_; rintro e w1 ⟨rfl, hb1⟩) | (go_at_call 34; refine (isDigit_of _ _ _ HD).mono ?_; rintro e w' ⟨rfl, rfl⟩))
      go_ret
      exact ⟨by rw [HE.out]; rfl, hb1⟩

theorem iskw_any (s : ByteArray) (w : World) :
    Calls Tryd.prog 17 #[.string s] w fun e w' => e = .returned (.bool (isKw s.data.toList)) ∧ w = w' := by
  go_enter Tryd.func17, Tryd.ntmps17
  go_wp2
  all_goals go_ret
  all_goals refine ⟨ret_bool ?_, rfl⟩
  all_goals (rw [← ByteArray.toList_eq]; unfold isKw kws; simp_all)
theorem iskw_of (s : ByteArray) (v : Bool) (w : World) (h : Hid (isKw s.data.toList = v)) :
    Calls Tryd.prog 17 #[.string s] w fun e w' => e = .returned (.bool v) ∧ w = w' := by rw [← h.out]; exact iskw_any s w

set_option maxHeartbeats 1000000 in
theorem isname_any (s : ByteArray) (w : World) (hs : s.size ≤ maxLen) :
    Calls Tryd.prog 10 #[.string s] w fun e w' => e = .returned (.bool (isNm s.data.toList)) ∧ Below w.heap.size w w' := by
  obtain ⟨n, hn⟩ : ∃ v : Nat, wordLen s.data.toList = v := ⟨_, rfl⟩
  obtain ⟨k, hk⟩ : ∃ v : Bool, isKw s.data.toList = v := ⟨_, rfl⟩
  have hle := wordLen_le s.data.toList
  rw [size_list, hn] at hle
  have HN := Lib.hid hn
  have HK := Lib.hid hk
  have HR : Hid (isNm s.data.toList = (decide (0 < s.size) && decide (n = s.size) && decide (s.size ≤ 16) && !k)) := Lib.hid (by
    unfold isNm
    rw [hn, hk, size_list]
    congr 3
    by_cases h : s.size = 0
    · rw [list_nil h]; simp [h]
    · rw [decide_eq_true (by omega)]
      cases hl : s.data.toList with
      | nil => exact absurd (by rw [← size_list, hl]; rfl) h
      | cons a t => rfl)
  rw [HR.out]
  have hz := ext_size s n hle
  obtain ⟨X, hX⟩ : ∃ X, s.extract 0 n = X := ⟨_, rfl⟩
  rw [hX] at hz
  have CL : Hid (∀ w, Calls Tryd.prog 16 #[.string s] w fun e w' => e = .returned (.string X) ∧ Below w.heap.size w w') := Lib.hid (fun w => by
    rw [← hX]; exact leadingWord_of s n w hs HN)
  have he : (X.toList == s.toList) = decide (n = s.size) := by
    rw [ByteArray.toList_eq, ByteArray.toList_eq, Bool.eq_iff_iff, beq_iff_eq, decide_eq_true_eq, ← hX, ext_take]
    constructor
    · intro e
      have := congrArg List.length e
      rw [List.length_take, size_list] at this
      omega
    · intro e
      rw [e, ← size_list, List.take_length]
  have HM := Lib.hid hs
  clear HR hn hk hX HN
  by_cases h0 : s.size = 0
  · have hemp : (s.toList == []) = true := nil_yes h0
    have hd : decide (0 < s.size) = false := by simp [h0]
    rw [hd]
    clear h0 hd he hz hle hs
    go_enter Tryd.func10, Tryd.ntmps10
    go_wp2
    go_ret
    exact ⟨rfl, Below.refl _ _⟩
  · have hemp : (s.toList == []) = false := nil_no h0
    have hd : decide (0 < s.size) = true := by simp; omega
    rw [hd]
    obtain ⟨b, hb⟩ : ∃ v, decide (n = s.size) = v := ⟨_, rfl⟩
    rw [hb] at he ⊢
    clear h0 hd hz hle hb hs
    cases b
    · go_enter Tryd.func10, Tryd.ntmps10
      go_wp2_with (go_at_call 16; refine (CL.out _).mono ?_; rintro e w1 ⟨rfl, hb1⟩)
      go_ret
      exact ⟨rfl, hb1⟩
    · by_cases h16 : s.size ≤ 16
      · have hi : (s.size : Int) ≤ 16 := by omega
        have hd : decide (s.size ≤ 16) = true := by simp [h16]
        rw [hd]
        go_enter Tryd.func10, Tryd.ntmps10
        go_wp2_with (first | (go_at_call 16; refine (CL.out _).mono ?_; rintro e w1 ⟨rfl, hb1⟩) | (go_at_call 17; refine (iskw_of _ _ _ HK).mono ?_; rintro e w' ⟨rfl, rfl⟩))
        go_ret
        exact ⟨by cases k <;> rfl, hb1⟩
      · have hi : ¬ (s.size : Int) ≤ 16 := by omega
        have hd : decide (s.size ≤ 16) = false := by simp [h16]
        rw [hd]
        go_enter Tryd.func10, Tryd.ntmps10
        go_wp2_with (first | (go_at_call 16; refine (CL.out _).mono ?_; rintro e w1 ⟨rfl, hb1⟩) | (go_at_call 17; refine (iskw_of _ _ _ HK).mono ?_; rintro e w' ⟨rfl, rfl⟩))
        go_ret
        exact ⟨rfl, hb1⟩
theorem isname_of (s : ByteArray) (v : Bool) (w : World) (hs : s.size ≤ maxLen) (h : Hid (isNm s.data.toList = v)) :
    Calls Tryd.prog 10 #[.string s] w fun e w' => e = .returned (.bool v) ∧ Below w.heap.size w w' := by rw [← h.out]; exact isname_any s w hs

/-- Taking a minus off: what is left, how much that was, and the number at the beginning by what is left. -/
theorem num_cut (s : ByteArray) : ∃ (D : ByteArray) (sg : Nat) (b : Bool), D.size + sg = s.size ∧ (∀ w, Calls Tryd.prog 45 #[.string s, .string ⟨#[45]⟩] w fun e w' => e = .returned (.tuple #[.string D, .bool b]) ∧ w = w') ∧
    numLen s.data.toList = if (D.data.toList.head?.map isDgt) = some true then sg + (D.data.toList.takeWhile isNb).length else 0 := by
  by_cases h : s.data.toList.head? = some 45
  · obtain ⟨t, ht⟩ : ∃ t, s.data.toList = 45 :: t := by
      cases hl : s.data.toList with
      | nil => rw [hl] at h; cases h
      | cons a t => rw [hl] at h; obtain rfl := Option.some.inj h; exact ⟨t, rfl⟩
    refine ⟨⟨t.toArray⟩, 1, true, ?_, fun w => cut_yes s 45 t w (Lib.hid ht), ?_⟩
    · rw [Lib.size_mk, ← size_list, ht]; rfl
    · rw [ht, numLen_cons, if_neg (by decide), show (⟨t.toArray⟩ : ByteArray).data.toList = t from ba_list t]
      by_cases hd : (t.head?.map isDgt) = some true
      · rw [if_pos ⟨by decide, hd⟩, if_pos hd]; omega
      · rw [if_neg (fun e => hd e.2), if_neg hd]
  · refine ⟨s, 0, false, rfl, fun w => cut_no s 45 w (Lib.hid h), ?_⟩
    cases hl : s.data.toList with
    | nil => rfl
    | cons a t =>
      rw [hl] at h
      have h45 : a.toNat ≠ 45 := fun e => h (by rw [show a = 45 from UInt8.toNat_inj.1 e]; rfl)
      rw [numLen_cons]
      by_cases hd : isDgt a = true
      · have hn : isNb a = true := by simp [isNb, isWd, hd]
        rw [if_pos hd, if_pos (by simp [hd]), List.takeWhile_cons, hn]
        show _ = 0 + ((t.takeWhile isNb).length + 1)
        omega
      · rw [if_neg hd, if_neg (fun e => h45 e.1), if_neg (by simp [hd])]
set_option maxHeartbeats 1000000 in
theorem leadingNumber_of (s : ByteArray) (n : Nat) (w : World) (hs : s.size ≤ maxLen) (hn : Hid (numLen s.data.toList = n)) :
    Calls Tryd.prog 30 #[.string s] w fun e w' => e = .returned (.string (s.extract 0 n)) ∧ Below w.heap.size w w' := by
  obtain ⟨D, sg, b, hsz, hcut, hnum⟩ := num_cut s
  rw [hn.out] at hnum
  have HC := Lib.hid hcut
  clear hcut hn
  obtain ⟨k, hk⟩ : ∃ v, (D.data.toList.takeWhile isNb).length = v := ⟨_, rfl⟩
  rw [hk] at hnum
  have hle := takeWhile_le isNb D.data.toList
  rw [size_list, hk] at hle
  have HK := Lib.hid hk
  have hz := ext_size D k hle
  obtain ⟨X, hX⟩ : ∃ X, D.extract 0 k = X := ⟨_, rfl⟩
  rw [hX] at hz
  have hm : D.size ≤ maxLen := by omega
  have CL : Hid (∀ w, Calls Tryd.prog 27 #[.string D, .func (.func 46) #[] #[]] w fun e w' => e = .returned (.string X) ∧ Below w.heap.size w w') := Lib.hid (fun w => by
    rw [← hX]; exact leadNum_of D k w hm HK)
  by_cases h0 : D.size = 0
  · have hemp : (D.toList == []) = true := nil_yes h0
    rw [list_nil h0, if_neg (by simp)] at hnum
    have HE := Lib.hid (show s.extract 0 n = ByteArray.empty by rw [hnum]; exact ext_none s)
    clear hsz hle hk hz hX hm h0 hs hnum
    go_enter Tryd.func30, Tryd.ntmps30
    go_wp2_with (go_at_call 45; refine (HC.out _).mono ?_; rintro e w' ⟨rfl, rfl⟩)
    go_ret
    exact ⟨by rw [HE.out]; rfl, Below.refl _ _⟩
  · have hemp : (D.toList == []) = false := nil_no h0
    have hz0 : 0 < D.size := by omega
    have hw32 := wrap32_byte D[0]
    obtain ⟨d, hd⟩ : ∃ v, isDgt D[0] = v := ⟨_, rfl⟩
    have HD : Hid (digN D[0].toNat = d) := Lib.hid hd
    have hh : (D.data.toList.head?.map isDgt) = some d := by rw [List.head?_eq_getElem?, dig_at' D 0 hz0, Option.map_some, hd]
    rw [hh] at hnum
    cases d
    · rw [if_neg (by decide)] at hnum
      have HE := Lib.hid (show s.extract 0 n = ByteArray.empty by rw [hnum]; exact ext_none s)
      clear hsz hle hk hz hX hm h0 hs hnum hd hh
      go_enter Tryd.func30, Tryd.ntmps30
      go_wp2_with (first | (go_at_call 45; refine (HC.out _).mono ?_; rintro e w' ⟨rfl, rfl⟩) | (go_at_call 34; refine (isDigit_of _ _ _ HD).mono ?_; rintro e w' ⟨rfl, rfl⟩))
      go_ret
      exact ⟨by rw [HE.out]; rfl, Below.refl _ _⟩
    · rw [if_pos rfl] at hnum
      have hsi : (s.size : Int) - (D.size : Int) = (sg : Int) := by omega
      have hni : (sg : Int) + (X.size : Int) = (n : Int) := by omega
      have hns : n ≤ s.size := by omega
      have hd2 : D.size ≤ s.size := by omega
      have hx2 : X.size ≤ s.size := by omega
      have hsg : sg ≤ s.size := by omega
      unfold maxLen at hs
      clear hsz hle hk hz hX hm h0 hnum hd hh
      go_enter Tryd.func30, Tryd.ntmps30
      go_wp2_with (first | (go_at_call 45; refine (HC.out _).mono ?_; rintro e w' ⟨rfl, rfl⟩) | (go_at_call 34; refine (isDigit_of _ _ _ HD).mono ?_; rintro e w' ⟨rfl, rfl⟩) | (go_at_call 27; refine (CL.out _).mono ?_; rintro e w1 ⟨rfl, hb1⟩))
      go_ret
      exact ⟨rfl, hb1⟩
end Go.Proofs.YtcohjleolidngaaDoor
