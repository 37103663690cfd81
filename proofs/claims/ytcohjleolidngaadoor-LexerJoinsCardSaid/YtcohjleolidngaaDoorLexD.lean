/-
  What skipBlanks of the lexer returns: a rest whose tokens are the text's, later by the lines that ended. Condition: a text's length.
-/
import Derived.Test.YtcohjleolidngaaDoorLexC
namespace Go.Proofs.YtcohjleolidngaaDoor
open Go.RowKit lex

/-- A comment reaches to the end of its line. -/
theorem tkz_com (pr : List UInt8 → Int × Int) : ∀ (l : List UInt8) (line : Int), tkz pr l line true = tkz pr (l.drop (l.takeWhile isNl).length) line false := by
  intro l
  induction l with
  | nil => intro line; rw [tkz_nil]; exact (tkz_nil pr line false).symm
  | cons c t ih =>
    intro line
    by_cases h : c.toNat = 10
    · have hn : isNl c = false := by simp [isNl, h]
      rw [List.takeWhile_cons, hn]
      show _ = tkz pr (c :: t) line false
      rw [tkz_lf pr c t line true h, tkz_lf pr c t line false h]
    · have hn : isNl c = true := by simp [isNl, h]
      rw [List.takeWhile_cons, hn, tkz_skip pr c t line true h rfl]
      exact ih line
def lenOf : Value → Nat
  | .string s => s.size
  | _ => 0
/-- Behind k bytes and n lines the tokens are the same. -/
def Skip (l : List UInt8) (k n : Nat) : Prop := ∀ line, tkz prL l line false = tkz prL (l.drop k) (line + (n : Int)) false
theorem Skip.zero (l : List UInt8) : Skip l 0 0 := fun line => by simp
theorem Skip.lf {l t : List UInt8} {k n : Nat} {c : UInt8} (h : Skip l k n) (hd : l.drop k = c :: t) (hc : c.toNat = 10) : Skip l (k + 1) (n + 1) := by
  intro line
  rw [h line, ← List.drop_drop, hd, tkz_lf prL c t _ _ hc, List.drop_succ_cons, List.drop_zero]
  congr 1
  omega
theorem Skip.bl {l t : List UInt8} {k n : Nat} {c : UInt8} (h : Skip l k n) (hd : l.drop k = c :: t) (hc : c.toNat = 32 ∨ c.toNat = 9) : Skip l (k + 1) n := by
  intro line
  rw [h line, ← List.drop_drop, hd, tkz_skip prL c t _ _ (by omega) (by rcases hc with e | e <;> simp [isBl, e]), List.drop_succ_cons, List.drop_zero]
  have : decide (c.toNat = 35) = false := by simp; omega
  rw [this]; rfl
theorem Skip.com {l t : List UInt8} {k n m : Nat} {c : UInt8} (h : Skip l k n) (hd : l.drop k = c :: t) (hc : c.toNat = 35) (hm : ((c :: t).takeWhile isNl).length = m) : Skip l (k + m) n := by
  intro line
  have e : isNl c = true := by simp [isNl, hc]
  rw [List.takeWhile_cons, e] at hm
  simp only [if_true, List.length_cons] at hm
  rw [h line, ← List.drop_drop, hd, tkz_skip prL c t _ _ (by omega) (by simp [isBl, hc])]
  have : decide (c.toNat = 35) = true := by simp [hc]
  rw [this, Bool.false_or, tkz_com, ← hm, List.drop_succ_cons]
/-- What skipBlanks leaves. -/
def SkipOut (l : List UInt8) (w : World) (e : Ending) (w' : World) : Prop := ∃ (T : ByteArray) (k n : Nat), e = .returned (.tuple #[.string T, .int .i64 (n : Int)]) ∧ T.data.toList = l.drop k ∧ k ≤ l.length ∧ n ≤ k ∧ Skip l k n ∧
  (∀ c, T.data.toList.head? = some c → c.toNat ≠ 10 ∧ isBl c = false) ∧ Below w.heap.size w w'
theorem rest_drop {T : ByteArray} {l : List UInt8} {k : Nat} (m : Nat) (h : T.data.toList = l.drop k) : (T.extract m T.size).data.toList = l.drop (k + m) := by
  rw [drop_extract, h, List.drop_drop]
set_option maxHeartbeats 4000000 in
theorem skipBlanks_any (s : ByteArray) (w : World) (hs : s.size ≤ maxLen) :
    Calls Tryd.prog 14 #[.string s] w (SkipOut s.data.toList w) := by
  unfold maxLen at hs
  go_enter Tryd.func14, Tryd.ntmps14
  go_wp2_with fail
  go_loopw [0, 3] (fun v ln wr => ∃ (T : ByteArray) (k n : Nat), v = .string T ∧ ln = .int .i64 (n : Int) ∧ T.data.toList = s.data.toList.drop k ∧ T.size + k = s.size ∧ n ≤ k ∧ Skip s.data.toList k n ∧ Below w.heap.size w wr) (fun v _ _ => lenOf v)
  case atStart => exact ⟨s, 0, 0, rfl, rfl, rfl, rfl, Nat.le_refl _, Skip.zero _, Below.refl _ _⟩
  case round =>
    obtain ⟨T, k, n, rfl, rfl, hT, hsz, hnk, hS, hB⟩ := hrel
    rename World => wr
    have HT := Lib.hid hT
    have HS := Lib.hid hS
    clear hT hS
    have hkl : k ≤ s.data.toList.length := by rw [size_list]; omega
    have HKL := Lib.hid hkl
    clear hkl
    by_cases h0 : T.size = 0
    · have hemp : T.toList.isEmpty = true := by rw [ByteArray.toList_eq, list_nil h0]; rfl
      have HE : Hid (ByteArray.empty.data.toList = s.data.toList.drop k) := Lib.hid (by rw [← HT.out, list_nil h0]; rfl)
      clear h0
      go_wp2
      go_ret2
      exact ⟨_, k, n, rfl, HE.out, HKL.out, hnk, HS.out, (by intro c hc; simp at hc), hB⟩
    · have hemp : T.toList.isEmpty = false := by
        rw [ByteArray.toList_eq, Bool.eq_false_iff]; intro e; exact h0 (by rw [← size_list, List.isEmpty_iff.1 e]; rfl)
      have hz0 : 0 < T.size := by omega
      have hD : s.data.toList.drop k = T[0] :: (s.data.toList.drop k).tail := by
        have e := drop_at (s := T) (k := 0) hz0
        rw [List.drop_zero, HT.out] at e
        rw [e]; rfl
      have HD := Lib.hid hD
      have hH : T.data.toList.head? = some T[0] := by rw [List.head?_eq_getElem?]; exact dig_at' T 0 hz0
      have HH := Lib.hid hH
      have hz1 : (T.extract 1 T.size).size + (k + 1) = s.size := by rw [← size_list, rest_drop 1 HT.out, List.length_drop, size_list]; omega
      have HZ := Lib.hid hz1
      clear h0 hD hH hz1
      by_cases c10 : T[0].toNat = 10
      · have b1 : ((T[0].toNat : Int) == 10) = true := by rw [beq_iff_eq]; omega
        have HN := Lib.hid (HS.out.lf HD.out c10)
        clear c10
        go_wp2
        go_roundw
        case rel => exact ⟨_, k + 1, n + 1, rfl, by go_num, rest_drop 1 HT.out, HZ.out, by omega, HN.out, hB⟩
        case measure => have := HZ.out; simp only [lenOf]; omega
      · have b1 : ((T[0].toNat : Int) == 10) = false := by rw [beq_eq_false_iff_ne]; omega
        by_cases c32 : T[0].toNat = 32
        · have b2 : ((T[0].toNat : Int) == 32) = true := by rw [beq_iff_eq]; omega
          have HN := Lib.hid (HS.out.bl HD.out (Or.inl c32))
          clear c10 c32
          go_wp2
          go_roundw
          case rel => exact ⟨_, k + 1, n, rfl, rfl, rest_drop 1 HT.out, HZ.out, by omega, HN.out, hB⟩
          case measure => have := HZ.out; simp only [lenOf]; omega
        · have b2 : ((T[0].toNat : Int) == 32) = false := by rw [beq_eq_false_iff_ne]; omega
          by_cases c9 : T[0].toNat = 9
          · have b3 : ((T[0].toNat : Int) == 9) = true := by rw [beq_iff_eq]; omega
            have HN := Lib.hid (HS.out.bl HD.out (Or.inr c9))
            clear c10 c32 c9
            go_wp2
            go_roundw
            case rel => exact ⟨_, k + 1, n, rfl, rfl, rest_drop 1 HT.out, HZ.out, by omega, HN.out, hB⟩
            case measure => have := HZ.out; simp only [lenOf]; omega
          · have b3 : ((T[0].toNat : Int) == 9) = false := by rw [beq_eq_false_iff_ne]; omega
            by_cases c35 : T[0].toNat = 35
            · have b4 : ((T[0].toNat : Int) == 35) = true := by rw [beq_iff_eq]; omega
              obtain ⟨m, hm⟩ : ∃ m, (T.data.toList.takeWhile isNl).length = m := ⟨_, rfl⟩
              have hle := takeWhile_le isNl T.data.toList
              rw [size_list, hm] at hle
              have HN := Lib.hid (HS.out.com (m := m) HD.out c35 (by rw [← HD.out, ← HT.out]; exact hm))
              have hm1 : 1 ≤ m := by
                rw [← hm, HT.out, HD.out, List.takeWhile_cons, show isNl T[0] = true by simp [isNl, c35]]
                simp
              have HM := Lib.hid hm
              have hx := ext_size T m hle
              have hTm : T.size ≤ maxLen := by unfold maxLen; omega
              have CL : Hid (∀ w, Calls Tryd.prog 27 #[.string T, .func (.func 28) #[] #[]] w fun e w' => ∃ X : ByteArray, X.size = m ∧ e = .returned (.string X) ∧ Below w.heap.size w w') := Lib.hid (fun w =>
                (leadLine_of T m w hTm HM).mono fun e w' h => ⟨_, hx, h.1, h.2⟩)
              have hzm : (T.extract m T.size).size + (k + m) = s.size := by rw [← size_list, rest_drop m HT.out, List.length_drop, size_list]; omega
              have HZM := Lib.hid hzm
              clear c10 c32 c9 c35 hm hx hzm
              go_wp2_with (go_at_call 27; refine (CL.out _).mono ?_; rintro e w1 ⟨X, hX, rfl, hb1⟩)
              go_roundw
              case rel => exact ⟨_, k + m, n, rfl, rfl, rest_drop m HT.out, HZM.out, by omega, HN.out, below_keep hb1 hB⟩
              case measure => have := HZM.out; simp only [lenOf]; omega
            · have b4 : ((T[0].toNat : Int) == 35) = false := by rw [beq_eq_false_iff_ne]; omega
              have HC : Hid (∀ c, T.data.toList.head? = some c → c.toNat ≠ 10 ∧ isBl c = false) := Lib.hid (fun c hc => by
                rw [HH.out] at hc; obtain rfl := Option.some.inj hc; exact ⟨c10, by simp [isBl, c32, c9, c35]⟩)
              clear c10 c32 c9 c35
              go_wp2
              go_ret2
              exact ⟨T, k, n, rfl, HT.out, HKL.out, hnk, HS.out, HC.out, hB⟩
end Go.Proofs.YtcohjleolidngaaDoor
