/-
  What the lexer's functions on runes return, and leading: the longest beginning of a text that consists of such bytes. Conditions: none but a text's length.
-/
import Derived.Test.YtcohjleolidngaaDoorLexRune
import Derived.Test.YtcohjleolidngaaDoorShelf
import Derived.Test.YtcohjleolidngaaDoorChecked
namespace Go.Proofs.YtcohjleolidngaaDoor
open Go.RowKit lex

theorem isDigit_any (x : Nat) (w : World) : Calls Tryd.prog 34 #[.int .i32 (x : Int)] w fun e w' => e = .returned (.bool (digN x)) ∧ w = w' := by
  go_enter Tryd.func34, Tryd.ntmps34
  go_wp2
  all_goals go_ret
  all_goals refine ⟨ret_bool ?_, rfl⟩
  all_goals (unfold digN; rw [Bool.eq_iff_iff]; simp; omega)
theorem isDigit_of (x : Nat) (v : Bool) (w : World) (h : Hid (digN x = v)) : Calls Tryd.prog 34 #[.int .i32 (x : Int)] w fun e w' => e = .returned (.bool v) ∧ w = w' := by
  rw [← h.out]; exact isDigit_any x w
set_option maxHeartbeats 1000000 in
theorem isWordPart_any (x : Nat) (w : World) : Calls Tryd.prog 33 #[.int .i32 (x : Int)] w fun e w' => e = .returned (.bool (wdN x)) ∧ w = w' := by
  obtain ⟨d, hd⟩ : ∃ v, digN x = v := ⟨_, rfl⟩
  have HD := Lib.hid hd
  unfold wdN
  rw [hd]
  clear hd
  go_enter Tryd.func33, Tryd.ntmps33
  go_wp2_with (go_at_call 34; refine (isDigit_of _ _ _ HD).mono ?_; rintro e w' ⟨rfl, rfl⟩)
  all_goals go_ret
  all_goals refine ⟨ret_bool ?_, rfl⟩
  all_goals (rw [Bool.eq_iff_iff]; cases d <;> simp <;> omega)
theorem isWordPart_of (x : Nat) (v : Bool) (w : World) (h : Hid (wdN x = v)) : Calls Tryd.prog 33 #[.int .i32 (x : Int)] w fun e w' => e = .returned (.bool v) ∧ w = w' := by
  rw [← h.out]; exact isWordPart_any x w
theorem isNumberPart_any (x : Nat) (w : World) : Calls Tryd.prog 46 #[.int .i32 (x : Int)] w fun e w' => e = .returned (.bool (nbN x)) ∧ w = w' := by
  obtain ⟨d, hd⟩ : ∃ v, wdN x = v := ⟨_, rfl⟩
  have HD := Lib.hid hd
  unfold nbN
  rw [hd]
  clear hd
  go_enter Tryd.func46, Tryd.ntmps46
  go_wp2_with (go_at_call 33; refine (isWordPart_of _ _ _ HD).mono ?_; rintro e w' ⟨rfl, rfl⟩)
  all_goals go_ret
  all_goals refine ⟨ret_bool ?_, rfl⟩
  all_goals (rw [Bool.eq_iff_iff]; cases d <;> simp_all <;> omega)
theorem isPrintable_any (x : Nat) (w : World) : Calls Tryd.prog 38 #[.int .i32 (x : Int)] w fun e w' => e = .returned (.bool (plN x)) ∧ w = w' := by
  go_enter Tryd.func38, Tryd.ntmps38
  go_wp2
  all_goals go_ret
  all_goals refine ⟨ret_bool ?_, rfl⟩
  all_goals (unfold plN; rw [Bool.eq_iff_iff]; simp; omega)
theorem isPrintable_of (x : Nat) (v : Bool) (w : World) (h : Hid (plN x = v)) : Calls Tryd.prog 38 #[.int .i32 (x : Int)] w fun e w' => e = .returned (.bool v) ∧ w = w' := by
  rw [← h.out]; exact isPrintable_any x w
theorem isEscaped_any (x : Nat) (w : World) : Calls Tryd.prog 39 #[.int .i32 (x : Int)] w fun e w' => e = .returned (.bool (esN x)) ∧ w = w' := by
  go_enter Tryd.func39, Tryd.ntmps39
  go_wp2
  all_goals go_ret
  all_goals refine ⟨ret_bool ?_, rfl⟩
  all_goals (unfold esN; rw [Bool.eq_iff_iff]; simp; omega)
theorem isEscaped_of (x : Nat) (v : Bool) (w : World) (h : Hid (esN x = v)) : Calls Tryd.prog 39 #[.int .i32 (x : Int)] w fun e w' => e = .returned (.bool v) ∧ w = w' := by
  rw [← h.out]; exact isEscaped_any x w
theorem isNoLineFeed_any (x : Nat) (w : World) : Calls Tryd.prog 28 #[.int .i32 (x : Int)] w fun e w' => e = .returned (.bool (nlN x)) ∧ w = w' := by
  go_enter Tryd.func28, Tryd.ntmps28
  go_wp2
  all_goals go_ret
  all_goals refine ⟨ret_bool ?_, rfl⟩
  all_goals (unfold nlN; rw [Bool.eq_iff_iff]; simp; omega)

/-- A function of the program that tells runes apart, as the library asks it. -/
theorem runes_of {g : Nat} {p : Nat → Bool} (h : ∀ (x : Nat) (w : World), Calls Tryd.prog g #[.int .i32 (x : Int)] w fun e w' => e = .returned (.bool (p x)) ∧ w = w') (w : World) : PredAtRunes Tryd.prog g #[] p w :=
  fun W x _ _ => (h x W).mono fun _ _ ⟨he, hw⟩ => ⟨he, 0, hw.symm⟩
theorem leading_of (g : Nat) (p : Nat → Bool) (q : UInt8 → Bool) (H : ByBytes p q) (eg : ∀ args w, (callFunc g args).run Tryd.prog w = .ok (.enter g args) w) (hp : ∀ (x : Nat) (w : World), Calls Tryd.prog g #[.int .i32 (x : Int)] w fun e w' => e = .returned (.bool (p x)) ∧ w = w')
    (s : ByteArray) (n : Nat) (w : World) (hs : s.size ≤ maxLen) (hn : Hid ((s.data.toList.takeWhile q).length = n)) :
    Calls Tryd.prog 27 #[.string s, .func (.func g) #[] #[]] w fun e w' => e = .returned (.string (s.extract 0 n)) ∧ Below w.heap.size w w' := by
  unfold maxLen at hs
  have hle := takeWhile_le q s.data.toList
  rw [size_list, hn.out] at hle
  have cT := Lib.hid (Tryd.strings_TrimLeftFunc_runes g #[] eg p s w (runes_of hp w))
  have hz := trim_left H s
  rw [hn.out] at hz
  obtain ⟨T, hT⟩ : ∃ T, Lib.trimLeftF p s = T := ⟨_, rfl⟩
  rw [hT] at cT hz
  have hz2 : T.size ≤ s.size := by omega
  have hz3 : n = s.size - T.size := by omega
  have hzi : (s.size : Int) - (T.size : Int) = (n : Int) := by omega
  have HZ := Lib.hid hz3
  clear hz hz3 hT
  go_enter Tryd.func27, Tryd.ntmps27
  go_wp2_with (go_at_call 44; refine (cT.out).mono ?_; rintro e w1 ⟨rfl, hb1⟩)
  go_ret
  exact ⟨rfl, hb1⟩
/-- The three kinds that the lexer hands to leading. -/
theorem leadWord_of (s : ByteArray) (n : Nat) (w : World) (hs : s.size ≤ maxLen) (hn : Hid ((s.data.toList.takeWhile isWd).length = n)) :
    Calls Tryd.prog 27 #[.string s, .func (.func 33) #[] #[]] w fun e w' => e = .returned (.string (s.extract 0 n)) ∧ Below w.heap.size w w' :=
  leading_of _ _ _ wd_by (enters_of Tryd.func33 (by kernel_rfl) rfl) isWordPart_any s n w hs hn
theorem leadNum_of (s : ByteArray) (n : Nat) (w : World) (hs : s.size ≤ maxLen) (hn : Hid ((s.data.toList.takeWhile isNb).length = n)) :
    Calls Tryd.prog 27 #[.string s, .func (.func 46) #[] #[]] w fun e w' => e = .returned (.string (s.extract 0 n)) ∧ Below w.heap.size w w' :=
  leading_of _ _ _ nb_by (enters_of Tryd.func46 (by kernel_rfl) rfl) isNumberPart_any s n w hs hn
theorem leadLine_of (s : ByteArray) (n : Nat) (w : World) (hs : s.size ≤ maxLen) (hn : Hid ((s.data.toList.takeWhile isNl).length = n)) :
    Calls Tryd.prog 27 #[.string s, .func (.func 28) #[] #[]] w fun e w' => e = .returned (.string (s.extract 0 n)) ∧ Below w.heap.size w w' :=
  leading_of _ _ _ nl_by (enters_of Tryd.func28 (by kernel_rfl) rfl) isNoLineFeed_any s n w hs hn
end Go.Proofs.YtcohjleolidngaaDoor
