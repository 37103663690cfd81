/-
  What the number functions of layer 1 and of its reference return, one contract a function: magnitude and abs, signed, the two square roots, ratio, Mul, Div, and the reference's Mul and Div. Conditions: arguments are ints; no other.
-/
import Derived.Test.YtgacapebngllnaaDoorRows
import Derived.Test.YtgacapebngllnaaDoorPlain
import Derived.WalkKit
import Derived.WalkSpells
import Derived.WalkLawsBesides
import Derived.Lib.Hide
namespace Go.Proofs.YtgacapebngllnaaDoor
open Go.RowKit

theorem u64_pos (n : Int) (h0 : 0 ≤ n) (h1 : n ≤ 9223372036854775807) : IntKind.u64.wrap n = n := by rw [IntKind.wrap_u64]; omega
theorem u64_two (n : Int) (h0 : n < 0) (h1 : -9223372036854775808 ≤ n) : IntKind.u64.wrap (-IntKind.u64.wrap n) = (n.natAbs : Int) := by
  rw [IntKind.wrap_u64, IntKind.wrap_u64]; omega

theorem magnitude_any (n : Int) (w : World) (h0 : -9223372036854775808 ≤ n) (h1 : n ≤ 9223372036854775807) :
    Calls Tryd.prog 20 #[.int .i64 n] w fun e w' => e = .returned (.int .u64 (n.natAbs : Int)) ∧ w' = w := by
  by_cases hn : n < 0
  · have H := Lib.hid (u64_two n hn h0)
    go_enter Tryd.func20, Tryd.ntmps20
    go_wp2
    go_ret
    rw [H.out]
    exact ⟨rfl, rfl⟩
  · go_enter Tryd.func20, Tryd.ntmps20
    go_wp2
    go_ret
    refine ⟨?_, rfl⟩
    rw [show ((n.natAbs : Nat) : Int) = n by omega]
    rfl

theorem abs_any (n : Int) (w : World) (h0 : -9223372036854775808 ≤ n) (h1 : n ≤ 9223372036854775807) :
    Calls Tryd.prog 27 #[.int .i64 n] w fun e w' => e = .returned (.int .u64 (n.natAbs : Int)) ∧ w' = w := by
  by_cases hn : n < 0
  · go_enter Tryd.func27, Tryd.ntmps27
    go_wp2
    go_ret
    refine ⟨?_, rfl⟩
    rw [show ((n.natAbs : Nat) : Int) = -(n + 1) + 1 by omega]
    rfl
  · go_enter Tryd.func27, Tryd.ntmps27
    go_wp2
    go_ret
    refine ⟨?_, rfl⟩
    rw [show ((n.natAbs : Nat) : Int) = n by omega]
    rfl

/-- The answer that a magnitude gives under a sign. -/
def signedV (n : Nat) (minus : Bool) : Value := if 268435456 < n then .tuple #[.int .i64 0, .int .i64 16] else if minus then .tuple #[.int .i64 (-(n : Int)), .int .i64 0] else .tuple #[.int .i64 n, .int .i64 0]

theorem signed_any (n : Int) (m : Bool) (w : World) (h0 : 0 ≤ n) (h1 : n ≤ 18446744073709551615) :
    Calls Tryd.prog 30 #[.int .u64 n, .bool m] w fun e w' => e = .returned (signedV n.toNat m) ∧ w' = w := by
  obtain ⟨k, rfl⟩ := Int.eq_ofNat_of_zero_le h0
  by_cases hk : 268435456 < (k : Int)
  · go_enter Tryd.func30, Tryd.ntmps30
    go_wp2
    go_ret2
    refine ⟨?_, rfl⟩
    unfold signedV
    rw [if_pos (by simp; omega)]
    rfl
  · cases m
    · go_enter Tryd.func30, Tryd.ntmps30
      go_wp2
      go_ret2
      refine ⟨?_, rfl⟩
      unfold signedV
      rw [if_neg (by simp; omega)]
      rfl
    · go_enter Tryd.func30, Tryd.ntmps30
      go_wp2
      go_ret2
      refine ⟨?_, rfl⟩
      unfold signedV
      rw [if_neg (by simp; omega)]
      rfl

/-! ### The square roots -/
theorem tdiv_low (n b : Int) (h0 : -9223372036854775808 ≤ n) (h1 : n ≤ 0) (hb : 1 ≤ b) : -9223372036854775808 ≤ n.tdiv b ∧ n.tdiv b ≤ 0 := by
  obtain ⟨k, rfl⟩ : ∃ k : Int, n = -k := ⟨-n, by omega⟩
  rw [Int.neg_tdiv, Int.tdiv_eq_ediv_of_nonneg (by omega)]
  have g0 : 0 ≤ k / b := Int.ediv_nonneg (by omega) (by omega)
  have g1 : k / b ≤ k := Int.ediv_le_self _ (by omega)
  omega

theorem sqrt_low (n : Int) (w : World) (h0 : -9223372036854775808 ≤ n) (h1 : n ≤ 0) :
    Calls Tryd.prog 18 #[.int .i64 n] w fun e w' => e = .returned (.int .i64 0) ∧ w' = w := by
  go_enter Tryd.func18, Tryd.ntmps18
  go_wp2
  go_loop [3, 4] (fun r b => r = .int .i64 0 ∧ ∃ b' c' : Nat, b = .int .i64 b' ∧ Bit b' c') (fun _ b => (intOf b).toNat)
  case atStart => exact ⟨rfl, 2147483648, 4294967296, rfl, Bit.first⟩
  case round =>
    obtain ⟨rfl, b, c, rfl, hb⟩ := hrel
    have hle := hb.le
    by_cases h : 0 < b
    · have hn := hb.next h
      have Hn := Lib.hid hn
      clear hn
      have hq := tdiv_low n b h0 h1 (by omega)
      obtain ⟨hq0, hq1⟩ := hq
      have ht : ¬ ((b : Int) ≤ n.tdiv b) := by omega
      go_wp2
      go_round
      case rel => exact ⟨rfl, b / 2, b, by go_num, Hn.out.1⟩
      case measure => simp [intOf]; omega
    · obtain rfl : b = 0 := by omega
      go_wp2
      go_ret
      exact ⟨rfl, rfl⟩

theorem sqrt_high (m : Nat) (w : World) (h0 : 1 ≤ m) (h1 : m ≤ 9223372036854775807) :
    Calls Tryd.prog 18 #[.int .i64 m] w fun e w' => e = .returned (.int .i64 (isq m)) ∧ w' = w := by
  go_enter Tryd.func18, Tryd.ntmps18
  go_wp2
  go_loop [3, 4] (fun r b => ∃ r' b' c' : Nat, r = .int .i64 r' ∧ b = .int .i64 b' ∧ Bit b' c' ∧ r' * r' ≤ m ∧ m < (r' + c') * (r' + c')) (fun _ b => (intOf b).toNat)
  case atStart => exact ⟨0, 2147483648, 4294967296, rfl, rfl, Bit.first, by omega, by omega⟩
  case round =>
    obtain ⟨r, b, c, rfl, rfl, hb, hr1, hr2⟩ := hrel
    have hle := hb.le
    have hrl := root_le hr1 h1
    by_cases h : 0 < b
    · have Hn := Lib.hid (hb.next h)
      have Hq := Lib.hid (le_quo m (r + b) (by omega))
      have hq0 : 0 ≤ (m : Int) / ((r : Int) + b) := Int.ediv_nonneg (by omega) (by omega)
      have hq1 : (m : Int) / ((r : Int) + b) ≤ m := Int.ediv_le_self _ (by omega)
      have H1 := Lib.hid hr1
      have H2 := Lib.hid hr2
      clear hr1 hr2
      by_cases hd : (r + b) * (r + b) ≤ m
      · have ht : (r : Int) + b ≤ (m : Int) / ((r : Int) + b) := by have := Hq.out.2 hd; simpa using this
        have HD := Lib.hid hd
        clear hd
        go_wp2
        go_round
        case rel => exact ⟨r + b, b / 2, b, by go_num, by go_num, Hn.out.1, HD.out, bit_yes H2.out Hn.out.2⟩
        case measure => simp [intOf]; omega
      · have ht : ¬ (r : Int) + b ≤ (m : Int) / ((r : Int) + b) := by
          intro hx; exact hd (Hq.out.1 (by simpa using hx))
        have HD := Lib.hid hd
        clear hd
        go_wp2
        go_round
        case rel => exact ⟨r, b / 2, b, rfl, by go_num, Hn.out.1, H1.out, by have := HD.out; omega⟩
        case measure => simp [intOf]; omega
    · obtain rfl : b = 0 := by omega
      obtain rfl := hb.last
      have H := Lib.hid (isq_unique m r hr1 hr2)
      clear hr1 hr2
      go_wp2
      go_ret
      refine ⟨?_, rfl⟩
      rw [← H.out]
      rfl

theorem refSqrt_any (n : Int) (w : World) (h0 : -9223372036854775808 ≤ n) (h1 : n ≤ 9223372036854775807) :
    Calls Tryd.prog 19 #[.int .i64 n] w fun e w' => e = .returned (.int .i64 (isq n.toNat)) ∧ w' = w := by
  by_cases hn : n < 1
  · have hz : isq n.toNat = 0 := by rw [show n.toNat = 0 by omega]; rfl
    have Hz := Lib.hid hz
    clear hz
    go_enter Tryd.func19, Tryd.ntmps19
    go_wp2
    go_ret
    rw [Hz.out]
    exact ⟨rfl, rfl⟩
  · obtain ⟨m, rfl⟩ := Int.eq_ofNat_of_zero_le (show 0 ≤ n by omega)
    rw [Int.toNat_natCast]
    have hm : m ≤ 9223372036854775807 := by omega
    go_enter Tryd.func19, Tryd.ntmps19
    go_wp2
    go_loop [3, 4] (fun l h => ∃ l' h' : Nat, l = .int .i64 l' ∧ h = .int .i64 h' ∧ l' * l' ≤ m ∧ m < (h' + 1) * (h' + 1) ∧ 1 ≤ l' ∧ l' ≤ h' ∧ h' ≤ 3037000499) (fun l h => (intOf h - intOf l).toNat)
    case atStart => exact ⟨1, 3037000499, rfl, rfl, by omega, by omega, by omega, by omega, by omega⟩
    case round =>
      obtain ⟨l, h, rfl, rfl, hl, hh, hl1, hlh, hhe⟩ := hrel
      have H1 := Lib.hid hl
      have H2 := Lib.hid hh
      clear hl hh
      by_cases hlt : l < h
      · obtain ⟨k, hk⟩ : ∃ k : Nat, k = (l + h + 1) / 2 := ⟨_, rfl⟩
        have hk1 : l < k := by omega
        have hk2 : k ≤ h := by omega
        have hke : ((l : Int) + h + 1) / 2 = k := by omega
        have Hk := Lib.hid hke
        have Hq := Lib.hid (le_quo m k (by omega))
        have hq0 : 0 ≤ (m : Int) / (((l : Int) + h + 1) / 2) := Int.ediv_nonneg (by omega) (by omega)
        have hq1 : (m : Int) / (((l : Int) + h + 1) / 2) ≤ m := Int.ediv_le_self _ (by omega)
        clear hk hke
        by_cases hd : k * k ≤ m
        · have ht : ((l : Int) + h + 1) / 2 ≤ (m : Int) / (((l : Int) + h + 1) / 2) := by rw [Hk.out]; exact Hq.out.2 hd
          have HD := Lib.hid hd
          clear hd
          go_wp2
          go_round
          case rel => exact ⟨k, h, by rw [Hk.out], rfl, HD.out, H2.out, by omega, by omega, by omega⟩
          case measure => rw [Hk.out]; simp [intOf]; omega
        · have ht : ¬ ((l : Int) + h + 1) / 2 ≤ (m : Int) / (((l : Int) + h + 1) / 2) := by rw [Hk.out]; intro hx; exact hd (Hq.out.1 hx)
          have HD := Lib.hid hd
          clear hd
          go_wp2
          go_round
          case rel => exact ⟨l, k - 1, rfl, by rw [Hk.out]; exact congrArg (Value.int .i64) (by omega), H1.out, by rw [show k - 1 + 1 = k by omega]; have := HD.out; omega, by omega, by omega, by omega⟩
          case measure => rw [Hk.out]; simp [intOf]; omega
      · obtain rfl : l = h := by omega
        have H := Lib.hid (isq_unique m l H1.out H2.out)
        go_wp2
        go_ret
        refine ⟨?_, rfl⟩
        rw [← H.out]
        rfl

theorem sqrt_any (n : Int) (w : World) (h0 : -9223372036854775808 ≤ n) (h1 : n ≤ 9223372036854775807) :
    Calls Tryd.prog 18 #[.int .i64 n] w fun e w' => e = .returned (.int .i64 (isq n.toNat)) ∧ w' = w := by
  by_cases hn : n ≤ 0
  · rw [show n.toNat = 0 by omega]
    exact sqrt_low n w h0 hn
  · obtain ⟨m, rfl⟩ := Int.eq_ofNat_of_zero_le (show 0 ≤ n by omega)
    rw [Int.toNat_natCast]
    exact sqrt_high m w (by omega) (by omega)
end Go.Proofs.YtgacapebngllnaaDoor
