/-
  What leadingToken of the lexer returns. Condition: a text of at most 20000 bytes, and not empty.
-/
import Derived.Test.YtcohjleolidngaaDoorLexF
namespace Go.Proofs.YtcohjleolidngaaDoor
open Go.RowKit lex

theorem tw_take (p : UInt8 → Bool) : ∀ (l : List UInt8) (m : Nat), (l.takeWhile p).length ≤ m → ((l.take m).takeWhile p).length = (l.takeWhile p).length := by
  intro l
  induction l with
  | nil => intro m _; simp
  | cons a t ih =>
    intro m hm
    cases h : p a
    · cases m <;> simp [h]
    · rw [List.takeWhile_cons, h] at hm
      simp only [if_true, List.length_cons] at hm
      obtain ⟨m', rfl⟩ : ∃ m', m = m' + 1 := ⟨m - 1, by omega⟩
      rw [List.take_succ_cons, List.takeWhile_cons, h, List.takeWhile_cons, h]
      simp only [if_true, List.length_cons]
      rw [ih m' (by omega)]
theorem word_take (l : List UInt8) : wordLen (l.take (wordLen l)) = wordLen l := by
  cases l with
  | nil => rfl
  | cons a t =>
    rw [wordLen_cons]
    by_cases h : isLet a = true
    · rw [if_pos h, List.take_succ_cons, wordLen_cons, if_pos h, tw_take isWd t _ (Nat.le_refl _)]
    · rw [if_neg h]; rfl
theorem wrd_take (l : List UInt8) (h : 0 < wordLen l) : wrdC (l.take (wordLen l)) = if isKw (l.take (wordLen l)) then (⟨2, l.take (wordLen l), 0, 0⟩, wordLen l, 0) else if 16 < wordLen l then (zeroT, 0, 2) else (⟨1, l.take (wordLen l), 0, 0⟩, wordLen l, 0) := by
  have hl : (l.take (wordLen l)).length = wordLen l := by rw [List.length_take]; have := wordLen_le l; omega
  unfold wrdC
  rw [hl]
  by_cases hk : isKw (l.take (wordLen l)) = true
  · rw [if_pos hk, if_pos hk]
  · rw [if_neg hk, if_neg hk]
    have hne : (l.take (wordLen l)).isEmpty = false := by
      cases e : l.take (wordLen l) with
      | nil => rw [e] at hl; simp at hl; omega
      | cons a t => rfl
    have hn : isNm (l.take (wordLen l)) = decide (wordLen l ≤ 16) := by
      unfold isNm
      rw [hl, word_take, hne]
      simp only [Bool.not_eq_true] at hk
      rw [hk]
      simp
    rw [hn]
    by_cases h16 : 16 < wordLen l
    · rw [if_pos h16, if_neg (by simp; omega)]
    · rw [if_neg h16, if_pos (by simp; omega)]
/-- What leadingToken answers: the token, its length, the error; at an error nothing else. -/
def tokC (l : List UInt8) : Tok × Nat × Int := if (oneL prL l).2.2 = 0 then oneL prL l else (zeroT, 0, (oneL prL l).2.2)
theorem tokC_of {l : List UInt8} {r : Tok × Nat × Int} (h : oneL prL l = r) : tokC l = if r.2.2 = 0 then r else (zeroT, 0, r.2.2) := by unfold tokC; rw [h]
theorem tokC_word (l : List UInt8) (h : 0 < wordLen l) : tokC l = wrdC (l.take (wordLen l)) := by
  rw [wrd_take l h]
  have e : oneL prL l = if isKw (l.take (wordLen l)) then (⟨2, l.take (wordLen l), 0, 0⟩, wordLen l, 0) else if 16 < wordLen l then (⟨0, [], 0, 0⟩, 0, 2) else (⟨1, l.take (wordLen l), 0, 0⟩, wordLen l, 0) := by unfold oneL; rw [if_pos h]
  rw [tokC_of e]
  by_cases hk : isKw (l.take (wordLen l)) = true
  · simp only [if_pos hk]; rfl
  · simp only [if_neg hk]
    by_cases h16 : 16 < wordLen l
    · simp only [if_pos h16]; rfl
    · simp only [if_neg h16]; rfl
theorem tokC_num (l : List UInt8) (h0 : wordLen l = 0) (h : 0 < numLen l) : tokC l = numC (l.take (numLen l)) := by
  have hl : (l.take (numLen l)).length = numLen l := by rw [List.length_take]; have := numLen_le l; omega
  have e : oneL prL l = (⟨3, [], (prL (l.take (numLen l))).1, 0⟩, numLen l, (prL (l.take (numLen l))).2) := by unfold oneL; rw [if_neg (by omega), if_pos h]
  rw [tokC_of e]
  unfold numC
  rw [hl]
  by_cases he : (prL (l.take (numLen l))).2 = 0
  · simp only [if_pos he]; rw [he]
  · simp only [if_neg he]
theorem tokC_str (l : List UInt8) (h0 : wordLen l = 0) (h1 : numLen l = 0) (h : l.head? = some 34) : tokC l = strR (strL (l.drop 1) [] 1) := by
  have e : oneL prL l = (⟨4, (strL l.tail [] 1).1, 0, 0⟩, (strL l.tail [] 1).2.1, (strL l.tail [] 1).2.2) := by unfold oneL; rw [if_neg (by omega), if_neg (by omega), if_pos h]
  rw [tokC_of e, List.drop_one]
  unfold strR
  by_cases he : (strL l.tail [] 1).2.2 = 0
  · simp only [if_pos he]; rw [he]
  · simp only [if_neg he]
theorem tokC_mark (l : List UInt8) (hl : 0 < l.length) (h0 : wordLen l = 0) (h1 : numLen l = 0) (h : l.head? ≠ some 34) : tokC l = if (markL l).isEmpty then (zeroT, 0, 4) else (⟨5, markL l, 0, 0⟩, (markL l).length, 0) := by
  have e : oneL prL l = if 1 < l.length ∧ isMk (l.take 2) = true then (⟨5, l.take 2, 0, 0⟩, 2, 0) else if isMk (l.take 1) then (⟨5, l.take 1, 0, 0⟩, 1, 0) else (⟨0, [], 0, 0⟩, 0, 4) := by unfold oneL; rw [if_neg (by omega), if_neg (by omega), if_neg h]
  rw [tokC_of e]
  unfold markL
  by_cases h2 : 1 < l.length ∧ isMk (l.take 2) = true
  · simp only [if_pos h2]
    have hz : (l.take 2).length = 2 := by rw [List.length_take]; omega
    have : (l.take 2).isEmpty = false := by
      cases e : l.take 2 with
      | nil => rw [e] at hz; cases hz
      | cons a t => rfl
    rw [this, if_pos trivial, if_neg (by decide), hz]
  · simp only [if_neg h2]
    by_cases h3 : isMk (l.take 1) = true
    · simp only [if_pos h3]
      have hz : (l.take 1).length = 1 := by rw [List.length_take]; omega
      have : (l.take 1).isEmpty = false := by
        cases e : l.take 1 with
        | nil => rw [e] at hz; cases hz
        | cons a t => rfl
      rw [this, if_pos trivial, if_neg (by decide), hz]
    · simp only [if_neg h3]
      rfl
theorem empty_of {X : ByteArray} {n : Nat} (h : X.size = n) (h0 : n = 0) : X.toList.isEmpty = true := by rw [ByteArray.toList_eq, list_nil (h.trans h0)]; rfl
theorem full_of {X : ByteArray} {n : Nat} (h : X.size = n) (h0 : 0 < n) : X.toList.isEmpty = false := by
  rw [ByteArray.toList_eq, Bool.eq_false_iff]; intro e; have := List.isEmpty_iff.1 e; rw [← size_list, this] at h; simp at h; omega
set_option maxHeartbeats 4000000 in
theorem leadingToken_of (s : ByteArray) (t : Tok) (n : Nat) (e0 : Int) (w : World) (hs : s.size ≤ 20000) (h1 : 1 ≤ s.size) (h : Hid (tokC s.data.toList = (t, n, e0))) :
    Calls Tryd.prog 15 #[.string s] w (TkOut t n e0 w) := by
  obtain ⟨kd, tx, nu, li⟩ := t
  have hm : s.size ≤ maxLen := by unfold maxLen; omega
  have hR := owT_new w 0 ⟨#[]⟩ 0 0 31
  obtain ⟨a, ha⟩ : ∃ v, wordLen s.data.toList = v := ⟨_, rfl⟩
  have hal := wordLen_le s.data.toList
  rw [size_list, ha] at hal
  have HA := Lib.hid ha
  obtain ⟨X, hX⟩ : ∃ X, s.extract 0 a = X := ⟨_, rfl⟩
  have hXz := ext_size s a hal
  have hXd := ext_take s a
  rw [hX] at hXz hXd
  have CW : Hid (∀ w, Calls Tryd.prog 16 #[.string s] w fun e w' => e = .returned (.string X) ∧ Below w.heap.size w w') := Lib.hid (fun w => by
    rw [← hX]; exact leadingWord_of s a w hm HA)
  by_cases ha0 : 0 < a
  · have hemp : X.toList.isEmpty = false := full_of hXz ha0
    have HT : Hid (wrdC X.data.toList = (⟨kd, tx, nu, li⟩, n, e0)) := Lib.hid (by rw [hXd, ← h.out, tokC_word _ (by omega), ha])
    have hXm : X.size ≤ maxLen := by unfold maxLen; omega
    have HXM := Lib.hid hXm
    clear h ha hal HA hX hXz hXd ha0 hXm
    go_enter Tryd.func15, Tryd.ntmps15
    go_wp2_with fail
    refine (CW.out _).mono ?_
    rintro e w1 ⟨rfl, hb1⟩
    go_wp2_with fail
    refine (wordToken_of _ _ _ _ _ HXM.out HT).mono ?_
    rintro e w2 ⟨rfl, hb2⟩
    have hb := below_keep hb2 hb1
    obtain ⟨c0, c1, c2, c3, f0, f1, f2, f3⟩ := hR.keep hb
    have hB := below_keep hb (al1 ..)
    clear hb1 hb2 hb
    go_wp2
    exact bodyPost_ret (v := .tuple #[tkV ⟨kd, tx, nu, li⟩, .int .i64 n, .int .i64 e0]) (by simp [results, Tryd.results15, go_sem, c0, c1, c2, c3]) rfl ⟨rfl, set4 hB (by omega)⟩
  · have hw0 : wordLen s.data.toList = 0 := by omega
    have hemp : X.toList.isEmpty = true := empty_of hXz (by omega)
    obtain ⟨b, hb⟩ : ∃ v, numLen s.data.toList = v := ⟨_, rfl⟩
    have hbl := numLen_le s.data.toList
    rw [size_list, hb] at hbl
    have HBn := Lib.hid hb
    obtain ⟨Y, hY⟩ : ∃ Y, s.extract 0 b = Y := ⟨_, rfl⟩
    have hYz := ext_size s b hbl
    have hYd := ext_take s b
    rw [hY] at hYz hYd
    have CN : Hid (∀ w, Calls Tryd.prog 30 #[.string s] w fun e w' => e = .returned (.string Y) ∧ Below w.heap.size w w') := Lib.hid (fun w => by
      rw [← hY]; exact leadingNumber_of s b w hm HBn)
    clear ha hal HA hX hXz hXd ha0
    by_cases hb0 : 0 < b
    · have hempY : Y.toList.isEmpty = false := full_of hYz hb0
      have HT : Hid (numC Y.data.toList = (⟨kd, tx, nu, li⟩, n, e0)) := Lib.hid (by rw [hYd, ← h.out, tokC_num _ hw0 (by omega), hb])
      have HYM := Lib.hid (show Y.size ≤ 20000 by omega)
      clear h hb hbl HBn hY hYz hYd hb0 hw0
      go_enter Tryd.func15, Tryd.ntmps15
      go_wp2_with fail
      refine (CW.out _).mono ?_
      rintro e w1 ⟨rfl, hb1⟩
      go_wp2_with fail
      refine (CN.out _).mono ?_
      rintro e w2 ⟨rfl, hb2⟩
      go_wp2_with fail
      refine (numberToken_of _ _ _ _ _ HYM.out HT).mono ?_
      rintro e w3 ⟨rfl, hb3⟩
      have hb := below_keep hb3 (below_keep hb2 hb1)
      obtain ⟨c0, c1, c2, c3, f0, f1, f2, f3⟩ := hR.keep hb
      have hB := below_keep hb (al1 ..)
      clear hb1 hb2 hb3 hb
      go_wp2
      exact bodyPost_ret (v := .tuple #[tkV ⟨kd, tx, nu, li⟩, .int .i64 n, .int .i64 e0]) (by simp [results, Tryd.results15, go_sem, c0, c1, c2, c3]) rfl ⟨rfl, set4 hB (by omega)⟩
    · have hn0 : numLen s.data.toList = 0 := by omega
      have hempY : Y.toList.isEmpty = true := empty_of hYz (by omega)
      have hz0 : 0 < s.size := by omega
      have hh : s.data.toList.head? = some s[0] := by rw [List.head?_eq_getElem?]; exact dig_at' s 0 hz0
      clear hb hbl HBn hY hYz hYd hb0
      by_cases c34 : s[0].toNat = 34
      · have b1 : ((s[0].toNat : Int) == 34) = true := by rw [beq_iff_eq]; omega
        have HT : Hid (strR (strL (s.data.toList.drop 1) [] 1) = (⟨kd, tx, nu, li⟩, n, e0)) := Lib.hid (by rw [← h.out, tokC_str _ hw0 hn0 (by rw [hh]; exact congrArg some (UInt8.toNat_inj.1 c34))])
        have HZ := Lib.hid hs
        clear h hw0 hn0 hh c34
        go_enter Tryd.func15, Tryd.ntmps15
        go_wp2_with fail
        refine (CW.out _).mono ?_
        rintro e w1 ⟨rfl, hb1⟩
        go_wp2_with fail
        refine (CN.out _).mono ?_
        rintro e w2 ⟨rfl, hb2⟩
        go_wp2_with fail
        refine (stringToken_of _ _ _ _ _ HZ.out h1 HT).mono ?_
        rintro e w3 ⟨rfl, hb3⟩
        have hb := below_keep hb3 (below_keep hb2 hb1)
        obtain ⟨c0, c1, c2, c3, f0, f1, f2, f3⟩ := hR.keep hb
        have hB := below_keep hb (al1 ..)
        clear hb1 hb2 hb3 hb
        go_wp2
        exact bodyPost_ret (v := .tuple #[tkV ⟨kd, tx, nu, li⟩, .int .i64 n, .int .i64 e0]) (by simp [results, Tryd.results15, go_sem, c0, c1, c2, c3]) rfl ⟨rfl, set4 hB (by omega)⟩
      · have b1 : ((s[0].toNat : Int) == 34) = false := by rw [beq_eq_false_iff_ne]; omega
        have hr := h.out
        rw [tokC_mark _ (by rw [size_list]; omega) hw0 hn0 (by rw [hh]; intro e; exact c34 (by rw [Option.some.inj e]; rfl))] at hr
        obtain ⟨m, hmk⟩ : ∃ m, markL s.data.toList = m := ⟨_, rfl⟩
        rw [hmk] at hr
        have HM := Lib.hid hmk
        have HMD : Hid ((ba m).data.toList = m) := Lib.hid (ba_list m)
        have hms : (ba m).size = m.length := ba_size m
        clear h hw0 hn0 hh c34 hmk
        by_cases hm0 : m.isEmpty = true
        · rw [if_pos hm0] at hr
          simp only [Prod.mk.injEq, lex.Tok.mk.injEq] at hr
          obtain ⟨⟨rfl, rfl, rfl, rfl⟩, rfl, rfl⟩ := hr
          have hempM : (ba m).toList.isEmpty = true := by rw [ByteArray.toList_eq, ba_list]; exact hm0
          have CM : Hid (∀ w, Calls Tryd.prog 20 #[.string s] w fun e w' => ∃ M : ByteArray, M.toList.isEmpty = true ∧ e = .returned (.string M) ∧ w = w') := Lib.hid (fun w => (leadingMark_of s m w HM).mono fun e w' h => ⟨_, hempM, h.1, h.2⟩)
          clear hempM hm0 hms
          go_enter Tryd.func15, Tryd.ntmps15
          go_wp2_with fail
          refine (CW.out _).mono ?_
          rintro e w1 ⟨rfl, hb1⟩
          go_wp2_with fail
          refine (CN.out _).mono ?_
          rintro e w2 ⟨rfl, hb2⟩
          go_wp2_with fail
          refine (CM.out _).mono ?_
          rintro e w' ⟨M, hM, rfl, rfl⟩
          have hb := below_keep hb2 hb1
          obtain ⟨c0, c1, c2, c3, f0, f1, f2, f3⟩ := hR.keep hb
          have hB := below_keep hb (al1 ..)
          clear hb1 hb2 hb
          go_wp2
          exact bodyPost_ret (v := .tuple #[tkV zeroT, .int .i64 0, .int .i64 4]) (by simp [results, Tryd.results15, go_sem, c0, c1, c2, c3]) rfl ⟨rfl, set4 hB (by omega)⟩
        · rw [if_neg hm0] at hr
          simp only [Prod.mk.injEq, lex.Tok.mk.injEq] at hr
          obtain ⟨⟨rfl, hmx, rfl, rfl⟩, rfl, rfl⟩ := hr
          subst hmx
          have hempM : (ba m).toList.isEmpty = false := by rw [ByteArray.toList_eq, ba_list]; simpa using hm0
          have CM : Hid (∀ w, Calls Tryd.prog 20 #[.string s] w fun e w' => ∃ M : ByteArray, M.toList.isEmpty = false ∧ M.size = m.length ∧ M = ba m ∧ e = .returned (.string M) ∧ w = w') := Lib.hid (fun w => (leadingMark_of s m w HM).mono fun e w' h => ⟨_, hempM, hms, rfl, h.1, h.2⟩)
          clear hempM hm0 hms
          go_enter Tryd.func15, Tryd.ntmps15
          go_wp2_with fail
          refine (CW.out _).mono ?_
          rintro e w1 ⟨rfl, hb1⟩
          go_wp2_with fail
          refine (CN.out _).mono ?_
          rintro e w2 ⟨rfl, hb2⟩
          go_wp2_with fail
          refine (CM.out _).mono ?_
          rintro e w' ⟨M, hM, hMs, hMb, rfl, rfl⟩
          have HMB := Lib.hid hMb
          have hb := below_keep hb2 hb1
          obtain ⟨c0, c1, c2, c3, f0, f1, f2, f3⟩ := hR.keep hb
          have hB := below_keep hb (al1 ..)
          clear hb1 hb2 hb hMb
          go_wp2
          exact bodyPost_ret (v := .tuple #[.agg #[.int .i64 5, .string M, .int .i64 0, .int .i64 0], .int .i64 (m.length : Int), .int .i64 0]) (by simp [results, Tryd.results15, go_sem, c0, c1, c2, c3]) rfl ⟨by rw [HMB.out], set4 hB (by omega)⟩
end Go.Proofs.YtcohjleolidngaaDoor
