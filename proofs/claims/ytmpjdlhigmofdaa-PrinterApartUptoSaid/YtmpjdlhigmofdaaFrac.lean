/-
  What fraction of layer 1 returns: the thousandths of what follows the digits before the point, or that nothing of that kind follows. Conditions: none but a string's length.
-/
import Derived.Test.YtmpjdlhigmofdaaLead
import Derived.Lib.TrimByte
namespace Go.Proofs.Ytmpjdlhigmofdaa
open Go.RowKit

theorem mk_list (s : ByteArray) : (⟨s.data.toList.toArray⟩ : ByteArray) = s := by
  apply ByteArray.ext; simp

theorem cut_yes (s : ByteArray) (c : UInt8) (d : List UInt8) (w : World) (hs : Hid (s.data.toList = c :: d)) :
    Calls Try.prog 85 #[.string s, .string ⟨#[c]⟩] w fun e w' => e = .returned (.tuple #[.string ⟨d.toArray⟩, .bool true]) ∧ w = w' := by
  have h := Try.strings_CutPrefix s ⟨#[c]⟩ w
  have e1 : Lib.hasPrefix s.data.toList [c] = true := by rw [hs.out]; simp [Lib.hasPrefix]
  have e2 : Lib.trimPrefix s.data.toList [c] = d := by unfold Lib.trimPrefix; rw [if_pos e1, hs.out]; rfl
  have e3 : (⟨#[c]⟩ : ByteArray).data.toList = [c] := rfl
  rw [e3, e1, e2] at h
  exact h.mono fun _ _ h => ⟨h.1, h.2.symm⟩

theorem cut_no (s : ByteArray) (c : UInt8) (w : World) (hs : Hid (s.data.toList.head? ≠ some c)) :
    Calls Try.prog 85 #[.string s, .string ⟨#[c]⟩] w fun e w' => e = .returned (.tuple #[.string s, .bool false]) ∧ w = w' := by
  have h := Try.strings_CutPrefix s ⟨#[c]⟩ w
  have hne := hs.out
  have e1 : Lib.hasPrefix s.data.toList [c] = false := by
    cases hl : s.data.toList with
    | nil => simp [Lib.hasPrefix]
    | cons a l =>
      rw [hl] at hne
      have : ¬ a = c := by simpa using hne
      simp only [Lib.hasPrefix, List.isPrefixOf, Bool.and_true, beq_eq_false_iff_ne]
      exact fun h => this h.symm
  have e2 : Lib.trimPrefix s.data.toList [c] = s.data.toList := by unfold Lib.trimPrefix; rw [if_neg (by simp [e1])]
  have e3 : (⟨#[c]⟩ : ByteArray).data.toList = [c] := rfl
  rw [e3, e1, e2, mk_list] at h
  exact h.mono fun _ _ h => ⟨h.1, h.2.symm⟩

/-- The contract of leadingDigits at named answers. -/
theorem lead_of (s : ByteArray) (v c : Nat) (w : World) (hs : s.size ≤ 9223372036854775807) (hv : Hid (min (valL (lead s.data.toList)) 268436 = v)) (hc : Hid ((lead s.data.toList).length = c)) :
    Calls Try.prog 100 #[.string s] w fun e w' => e = .returned (.tuple #[.int .i64 v, .int .i64 c]) ∧ w = w' := by
  have h := leadingDigits_any s w (by unfold maxLen; omega)
  rw [hv.out, hc.out] at h
  exact h

def pad (V n k : Nat) : Nat := V * 10 ^ (k - n)
theorem pad_start (V n : Nat) : pad V n n = V := by simp [pad]
theorem pad_succ (V n k : Nat) (h : n ≤ k) : pad V n (k + 1) = 10 * pad V n k := by
  unfold pad
  rw [show k + 1 - n = (k - n) + 1 by omega, Nat.pow_succ, ← Nat.mul_assoc, Nat.mul_comm 10]
theorem pad_le (V n k : Nat) (hV : V ≤ 1000) (hk : k ≤ 3) : pad V n k ≤ 1000000 := by
  unfold pad
  have : 10 ^ (k - n) ≤ 10 ^ 3 := Nat.pow_le_pow_right (by decide) (by omega)
  calc V * 10 ^ (k - n) ≤ 1000 * 10 ^ 3 := Nat.mul_le_mul hV this
    _ = 1000000 := by decide

/-- The thousandths of what follows the digits before the point. -/
def fracOf : List UInt8 → Option Nat
  | [] => some 0
  | c :: d => if c = 46 ∧ 1 ≤ d.length ∧ d.length ≤ 3 ∧ d.all isDig = true ∧ d.getLast? ≠ some 48 then some (pad (valL d) d.length 3) else none

def fracV (l : List UInt8) : Value := match fracOf l with
  | none => .tuple #[.int .i64 0, .bool false]
  | some p => .tuple #[.int .i64 p, .bool true]

theorem fracV_no {c : UInt8} {d : List UInt8} (h : ¬ (c = 46 ∧ 1 ≤ d.length ∧ d.length ≤ 3 ∧ d.all isDig = true ∧ d.getLast? ≠ some 48)) : fracV (c :: d) = .tuple #[.int .i64 0, .bool false] := by
  have : fracOf (c :: d) = none := if_neg h
  unfold fracV; rw [this]
theorem fracV_yes {c : UInt8} {d : List UInt8} (h : c = 46 ∧ 1 ≤ d.length ∧ d.length ≤ 3 ∧ d.all isDig = true ∧ d.getLast? ≠ some 48) : fracV (c :: d) = .tuple #[.int .i64 (pad (valL d) d.length 3), .bool true] := by
  have : fracOf (c :: d) = some (pad (valL d) d.length 3) := if_pos h
  unfold fracV; rw [this]

theorem fraction_empty (s : ByteArray) (w : World) (he : s.data.toList = []) :
    Calls Try.prog 101 #[.string s] w fun e w' => e = .returned (.tuple #[.int .i64 0, .bool true]) ∧ w = w' := by
  obtain rfl : s = ⟨#[]⟩ := by apply ByteArray.ext; simpa using he
  clear he
  go_enter Try.func101, Try.ntmps101
  go_wp2
  go_ret2
  exact ⟨rfl, rfl⟩

theorem fraction_other (s : ByteArray) (w : World) (hs : s.size ≤ 9223372036854775807) (hne : s.data.toList ≠ []) (h46 : s.data.toList.head? ≠ some 46) :
    Calls Try.prog 101 #[.string s] w fun e w' => e = .returned (.tuple #[.int .i64 0, .bool false]) ∧ w = w' := by
  obtain ⟨v, hv⟩ : ∃ v : Nat, min (valL (lead s.data.toList)) 268436 = v := ⟨_, rfl⟩
  obtain ⟨c, hc⟩ : ∃ v : Nat, (lead s.data.toList).length = v := ⟨_, rfl⟩
  have H46 := Lib.hid h46
  have HV := Lib.hid hv
  have HC := Lib.hid hc
  have hemp : s.toList.isEmpty = false := by rw [ByteArray.toList_eq]; cases h : s.data.toList with | nil => exact absurd h hne | cons a l => rfl
  clear h46 hv hc hne
  go_enter Try.func101, Try.ntmps101
  go_wp2_with fail
  refine (cut_no s 46 _ H46).mono ?_
  rintro e w' ⟨rfl, rfl⟩
  go_wp2_with fail
  refine (lead_of s v c _ hs HV HC).mono ?_
  rintro e w' ⟨rfl, rfl⟩
  go_wp2
  go_ret2
  exact ⟨rfl, rfl⟩

set_option maxHeartbeats 1000000 in
theorem fraction_point (s : ByteArray) (d : List UInt8) (w : World) (hd : d.length ≤ 9223372036854775806) (hl : s.data.toList = 46 :: d) :
    Calls Try.prog 101 #[.string s] w fun e w' => e = .returned (fracV (46 :: d)) ∧ w = w' := by
  obtain ⟨v, hv⟩ : ∃ v : Nat, min (valL (lead d)) 268436 = v := ⟨_, rfl⟩
  obtain ⟨c, hc⟩ : ∃ v : Nat, (lead d).length = v := ⟨_, rfl⟩
  have hcd : c ≤ d.length := by rw [← hc]; exact lead_length d
  have hemp : s.toList.isEmpty = false := by rw [ByteArray.toList_eq, hl]; rfl
  have HV : Hid (min (valL (lead (⟨d.toArray⟩ : ByteArray).data.toList)) 268436 = v) := Lib.hid hv
  have HC : Hid ((lead (⟨d.toArray⟩ : ByteArray).data.toList).length = c) := Lib.hid hc
  have HL := Lib.hid hl
  clear hv hc hl
  by_cases h0 : c = 0
  · have HN := Lib.hid h0
    subst h0
    go_enter Try.func101, Try.ntmps101
    go_wp2_with fail
    refine (cut_yes s 46 d _ HL).mono ?_
    rintro e w' ⟨rfl, rfl⟩
    go_wp2_with fail
    refine (lead_of _ v _ _ (by rw [Lib.size_mk]; omega) HV HC).mono ?_
    rintro e w' ⟨rfl, rfl⟩
    go_wp2
    go_ret2
    refine ⟨?_, rfl⟩
    rw [fracV_no (frac_short d _ HC.out (by omega) 46)]
    rfl
  · by_cases h3 : 3 < c
    · go_enter Try.func101, Try.ntmps101
      go_wp2_with fail
      refine (cut_yes s 46 d _ HL).mono ?_
      rintro e w' ⟨rfl, rfl⟩
      go_wp2_with fail
      refine (lead_of _ v c _ (by rw [Lib.size_mk]; omega) HV HC).mono ?_
      rintro e w' ⟨rfl, rfl⟩
      go_wp2
      go_ret2
      refine ⟨?_, rfl⟩
      rw [fracV_no (frac_short d _ HC.out (by omega) 46)]
      rfl
    · by_cases hn : c < d.length
      · go_enter Try.func101, Try.ntmps101
        go_wp2_with fail
        refine (cut_yes s 46 d _ HL).mono ?_
        rintro e w' ⟨rfl, rfl⟩
        go_wp2_with fail
        refine (lead_of _ v c _ (by rw [Lib.size_mk]; omega) HV HC).mono ?_
        rintro e w' ⟨rfl, rfl⟩
        go_wp2
        go_ret2
        refine ⟨?_, rfl⟩
        rw [fracV_no (frac_short d _ HC.out (by omega) 46)]
        rfl
      · obtain rfl : c = d.length := by omega
        go_enter Try.func101, Try.ntmps101
        go_wp2_with fail
        refine (cut_yes s 46 d _ HL).mono ?_
        rintro e w' ⟨rfl, rfl⟩
        go_wp2_with fail
        refine (lead_of _ v _ _ (by rw [Lib.size_mk]; omega) HV HC).mono ?_
        rintro e w' ⟨rfl, rfl⟩
        go_wp2
        · rename_i hA hB
          have hx := Lib.getElem_mk d (d.length - 1) (by rw [Lib.size_mk]; omega)
          have hq : d.getLast? = some 48 := by
            rw [List.getLast?_eq_getElem?, hx]
            have : ((⟨d.toArray⟩ : ByteArray)[d.length - 1]'(by rw [Lib.size_mk]; omega)).toNat = 48 := by
              rcases hB with (hB | hB) | hB
              · have := eq_of_beq hB; omega
              · omega
              · have := eq_of_beq hB; omega
            exact congrArg some (UInt8.toNat_inj.1 this)
          go_ret2
          refine ⟨?_, rfl⟩
          rw [fracV_no (fun h => h.2.2.2.2 hq)]
          rfl
        · rename_i hA hB kk hk
          have hx := Lib.getElem_mk d (d.length - 1) (by rw [Lib.size_mk]; omega)
          have hq : d.getLast? ≠ some 48 := by
            rw [List.getLast?_eq_getElem?, hx]
            intro h
            have h := Option.some.inj h
            have := hB.2
            rw [h] at this
            simp at this
          have hall := all_of_lead d HC.out
          have hv3 := valL_three d hall (by omega)
          have hv : v = valL d := by have := HV.out; rw [lead_of_all d hall] at this; omega
          subst hv
          have HW := Lib.hid (fracV_yes (c := 46) ⟨rfl, by omega, by omega, hall, hq⟩)
          have hn3 : d.length ≤ 3 := by omega
          obtain ⟨V, hV⟩ : ∃ V, valL d = V := ⟨_, rfl⟩
          rw [hV] at hv3 HW ⊢
          clear hB hx hq hall HV HC hV
          go_loop [6, 7] (fun x k => ∃ k' x' : Nat, d.length ≤ k' ∧ k' ≤ 3 ∧ x' ≤ 1000000 ∧ k = .int .i64 k' ∧ x = .int .i64 x' ∧ x' = pad V d.length k') (fun _ k => 3 - (intOf k).toNat)
          case atStart => exact ⟨d.length, V, Nat.le_refl _, hn3, by omega, rfl, rfl, (pad_start _ _).symm⟩
          case round =>
            obtain ⟨k, x, hk1, hk2, hx, rfl, rfl, hp⟩ := hrel
            have HP := Lib.hid hp
            clear hp
            by_cases hlt : k < 3
            · go_wp2
              go_round
              case rel => exact ⟨k + 1, 10 * x, by omega, by omega, by have := pad_le V d.length (k + 1) (by omega) (by omega); rw [pad_succ _ _ _ hk1, ← HP.out] at this; exact this, by go_num, congrArg (Value.int .i64) (by omega), by rw [pad_succ _ _ _ hk1, HP.out]⟩
              case measure => simp [intOf]; omega
            · obtain rfl : k = 3 := by omega
              go_wp2
              go_ret2
              refine ⟨?_, rfl⟩
              rw [HW.out, ← HP.out]
              rfl
end Go.Proofs.Ytmpjdlhigmofdaa
