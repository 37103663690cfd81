/-
  What Quote, text and number of the reference of layer 6 return. Conditions: a string's length; of number, that there is a byte.
-/
import Derived.Test.YtgccheiemnpaoaaGreatDoorRefLex1
namespace Go.Proofs.YtgccheiemnpaoaaGreatDoor
open Go.RowKit lex

abbrev ba (l : List UInt8) : ByteArray := ⟨l.toArray⟩
theorem ba_ext {a b : ByteArray} (h : a.data.toList = b.data.toList) : a = b := by
  cases a; cases b; simp at h; subst h; rfl
theorem ba_of {a : ByteArray} {l : List UInt8} (h : a.data.toList = l) : a = ba l := ba_ext (by simp [h])
theorem ret_sn {a b : ByteArray} {n : Int} (h : a = b) : Ending.returned (.tuple #[.string a, .int .i64 n]) = .returned (.tuple #[.string b, .int .i64 n]) := by rw [h]
theorem ba_add (a b : ByteArray) : (a ++ b).data.toList = a.data.toList ++ b.data.toList := by simp
theorem ba_one (s : ByteArray) (k : Nat) (h : k < s.size) : (s.extract k (k + 1)).data.toList = [s[k]] := by
  have : (s.extract k (k + 1)).data.toList = (s.data.toList.drop k).take 1 := by
    rw [ByteArray.data_extract, Array.toList_extract, List.extract_eq_take_drop]; congr 1; omega
  rw [this, List.take_one, List.head?_drop, dig_at' s k h]; rfl
theorem esc_take {s : ByteArray} {k : Nat} (hlt : k < s.size) : escL (s.data.toList.take (k + 1)) = escL (s.data.toList.take k) ++ (if s[k].toNat = 34 ∨ s[k].toNat = 92 then [92, s[k]] else [s[k]]) := by
  rw [List.take_add_one, dig_at' s k hlt]
  simp [escL]
theorem esc_len (l : List UInt8) : (escL l).length ≤ 2 * l.length := by
  induction l with
  | nil => simp [escL]
  | cons a l ih =>
    have e : escL (a :: l) = (if a.toNat = 34 ∨ a.toNat = 92 then [92, a] else [a]) ++ escL l := by simp [escL]
    rw [e, List.length_append, List.length_cons]
    split <;> simp <;> omega

/-- What Quote returns: the text, the error. -/
def quoE (l : List UInt8) : List UInt8 × Int := if 32 < l.length then ([], 2) else if l.all isPl then (quoL l, 0) else ([], 1)

set_option maxHeartbeats 1000000 in
theorem rquote_of (s : ByteArray) (q : List UInt8) (e0 : Int) (w : World) (hs : s.size ≤ maxLen) (h : Hid (quoE s.data.toList = (q, e0))) :
    Calls Tryz.prog 57 #[.string s] w fun e w' => e = .returned (.tuple #[.string (ba q), .int .i64 e0]) ∧ w = w' := by
  have hm := hs
  unfold maxLen at hs
  have h' := h.out
  unfold quoE at h'
  rw [size_list] at h'
  clear h
  by_cases h32 : 32 < s.size
  · rw [if_pos h32] at h'
    obtain ⟨rfl, rfl⟩ := Prod.mk.inj h'
    clear h'
    go_enter Tryz.func57, Tryz.ntmps57
    go_wp2
    go_ret2
    exact ⟨rfl, rfl⟩
  · rw [if_neg h32] at h'
    obtain ⟨v, hv⟩ : ∃ v : Bool, s.data.toList.all isPl = v := ⟨_, rfl⟩
    rw [hv] at h'
    have HV := Lib.hid hv
    clear hv
    cases v
    · obtain ⟨rfl, rfl⟩ := Prod.mk.inj h'
      clear h'
      go_enter Tryz.func57, Tryz.ntmps57
      go_wp2_with (go_at_call 79; refine (rplain_of _ _ _ hm HV).mono ?_; rintro e w' ⟨rfl, rfl⟩)
      go_ret2
      exact ⟨rfl, rfl⟩
    · obtain ⟨hq, rfl⟩ := Prod.mk.inj h'
      have HQ := Lib.hid hq
      clear h' hq
      go_enter Tryz.func57, Tryz.ntmps57
      go_wp2_with (go_at_call 79; refine (rplain_of _ _ _ hm HV).mono ?_; rintro e w' ⟨rfl, rfl⟩)
      go_loop [4, 5] (fun o i => ∃ (b : ByteArray) (k : Nat), k ≤ s.size ∧ o = .string b ∧ i = .int .i64 k ∧ b.size ≤ 1 + 2 * k ∧ b.data.toList = 34 :: escL (s.data.toList.take k)) (fun _ i => s.size - (intOf i).toNat)
      case atStart => exact ⟨_, 0, Nat.zero_le _, rfl, rfl, by simp; decide, rfl⟩
      case round =>
        obtain ⟨b, k, hk, rfl, rfl, hb, hw⟩ := hrel
        have HW := Lib.hid hw
        clear hw
        by_cases hlt : k < s.size
        · have HE := Lib.hid (esc_take hlt)
          have H1 := Lib.hid (ba_one s k hlt)
          have hx : (s.extract k (k + 1)).size = 1 := by rw [← size_list, H1.out]; rfl
          by_cases h34 : s[k].toNat = 34
          · have b1 : ((s[k].toNat : Int) == 34) = true := by rw [beq_iff_eq]; omega
            have HC := Lib.hid (show s[k].toNat = 34 ∨ s[k].toNat = 92 from Or.inl h34)
            clear h34
            go_wp2
            go_round
            case rel => exact ⟨_, k + 1, by omega, rfl, by go_num, by rw [ByteArray.size_append, ByteArray.size_append, hx]; show b.size + 1 + 1 ≤ _; omega, by rw [HE.out, if_pos HC.out, ba_add, ba_add, HW.out, H1.out]; simp⟩
            case measure => simp [intOf]; omega
          · have b1 : ((s[k].toNat : Int) == 34) = false := by rw [beq_eq_false_iff_ne]; omega
            by_cases h92 : s[k].toNat = 92
            · have b2 : ((s[k].toNat : Int) == 92) = true := by rw [beq_iff_eq]; omega
              have HC := Lib.hid (show s[k].toNat = 34 ∨ s[k].toNat = 92 from Or.inr h92)
              clear h34 h92
              go_wp2
              go_round
              case rel => exact ⟨_, k + 1, by omega, rfl, by go_num, by rw [ByteArray.size_append, ByteArray.size_append, hx]; show b.size + 1 + 1 ≤ _; omega, by rw [HE.out, if_pos HC.out, ba_add, ba_add, HW.out, H1.out]; simp⟩
              case measure => simp [intOf]; omega
            · have b2 : ((s[k].toNat : Int) == 92) = false := by rw [beq_eq_false_iff_ne]; omega
              have HC := Lib.hid (show ¬ (s[k].toNat = 34 ∨ s[k].toNat = 92) by omega)
              clear h34 h92
              go_wp2
              go_round
              case rel => exact ⟨_, k + 1, by omega, rfl, by go_num, by rw [ByteArray.size_append, hx]; omega, by rw [HE.out, if_neg HC.out, ba_add, HW.out, H1.out]; simp⟩
              case measure => simp [intOf]; omega
        · obtain rfl : k = s.size := by omega
          go_wp2
          go_ret2
          refine ⟨ret_sn (ba_of ?_), rfl⟩
          rw [ba_add, HW.out, List.take_of_length_le (by rw [size_list]; omega), ← HQ.out]
          rfl

theorem ret_snn {a b : ByteArray} {n m k l : Int} (h : a = b) (h1 : n = m) (h2 : k = l) : Ending.returned (.tuple #[.string a, .int .i64 n, .int .i64 k]) = .returned (.tuple #[.string b, .int .i64 m, .int .i64 l]) := by rw [h, h1, h2]
theorem drop_at {s : ByteArray} {k : Nat} (h : k < s.size) : s.data.toList.drop k = s[k] :: s.data.toList.drop (k + 1) := by
  rw [List.drop_eq_getElem_cons (by rw [size_list]; exact h)]; rfl
theorem drop_end {s : ByteArray} {k : Nat} (h : s.size ≤ k) : s.data.toList.drop k = [] := List.drop_eq_nil_of_le (by rw [size_list]; exact h)
theorem out_err {R : List UInt8 × Nat × Int} {t : List UInt8} {n : Nat} {e : Int} (h : R = (t, n, e)) : R.1 = t ∧ R.2.1 = n ∧ R.2.2 = e := by subst h; exact ⟨rfl, rfl, rfl⟩


theorem list_cons {s : ByteArray} (h : 0 < s.size) : s.data.toList = s[0] :: s.data.toList.drop 1 := by
  have := drop_at h; rw [List.drop_zero] at this; exact this
/-- The end of the reference's loop over a number: what holds where it stops. -/
def NumEnd (l : List UInt8) (m n : Nat) : Prop := ∀ k, m ≤ k → k ≤ l.length → NumTo l m k → (∀ d, l[k]? = some d → isNb d = false) → n = k
end Go.Proofs.YtgccheiemnpaoaaGreatDoor
