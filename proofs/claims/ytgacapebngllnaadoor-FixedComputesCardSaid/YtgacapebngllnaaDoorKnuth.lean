/-
  Plain facts on the long division of two words by one, by halves. No program is named here; no condition.
-/
import Derived.Lib.ItoaNum
namespace Go.Proofs.YtgacapebngllnaaDoor

/-! ### One half of the quotient -/
/-- A guess q of u * B + v divided by Y, with what it leaves of u. -/
structure Guess (u v y1 y0 q r : Nat) : Prop where
  sum : u = q * y1 + r
  most : q ≤ 4294967297
  high : (u * 4294967296 + v) / (y1 * 4294967296 + y0) ≤ q

theorem div_small {u v Y : Nat} (hu : u < Y) (hv : v < 4294967296) : (u * 4294967296 + v) / Y < 4294967296 := by
  rw [Nat.div_lt_iff_lt_mul (by omega)]
  have h : (u + 1) * 4294967296 ≤ Y * 4294967296 := Nat.mul_le_mul_right _ hu
  rw [Nat.mul_comm 4294967296 Y]
  omega

theorem Guess.start {u v y1 y0 : Nat} (hy : 2147483648 ≤ y1) (h0 : y0 < 4294967296) (hu : u < y1 * 4294967296 + y0) (hv : v < 4294967296) : Guess u v y1 y0 (u / y1) (u % y1) := by
  have hs : u = u / y1 * y1 + u % y1 := (Nat.div_add_mod' u y1).symm
  have hr : u % y1 < y1 := Nat.mod_lt _ (by omega)
  refine ⟨hs, ?_, ?_⟩
  · rw [← Nat.lt_succ_iff, Nat.div_lt_iff_lt_mul (by omega)]
    have e : (4294967297 + 1) * y1 = 4294967296 * y1 + 2 * y1 := by omega
    rw [Nat.succ_eq_add_one, e]
    omega
  · obtain ⟨q, hq⟩ : ∃ q, u / y1 = q := ⟨_, rfl⟩
    rw [hq] at hs ⊢
    rw [← Nat.lt_succ_iff, Nat.div_lt_iff_lt_mul (by omega), Nat.succ_eq_add_one]
    have e : (q + 1) * (y1 * 4294967296 + y0) = q * y1 * 4294967296 + q * y0 + (y1 * 4294967296 + y0) := by
      rw [Nat.add_mul, Nat.one_mul, Nat.mul_add, Nat.mul_assoc]
    rw [e]
    have h1 : (u % y1 + 1) * 4294967296 ≤ y1 * 4294967296 := Nat.mul_le_mul_right _ hr
    obtain ⟨p, hp⟩ : ∃ p, q * y1 = p := ⟨_, rfl⟩
    obtain ⟨z, hz⟩ : ∃ z, q * y0 = z := ⟨_, rfl⟩
    rw [hp] at hs ⊢
    rw [hz]
    omega

/-- The product of the guess and the divisor, against what it must not pass. -/
theorem Guess.prod {u v y1 y0 q r : Nat} (h : Guess u v y1 y0 q r) : q * (y1 * 4294967296 + y0) + r * 4294967296 = u * 4294967296 + q * y0 := by
  rw [h.sum, Nat.mul_add, Nat.add_mul, Nat.mul_assoc]
  omega

/-- The test says no: the guess is right. -/
theorem Guess.right {u v y1 y0 q r : Nat} (h : Guess u v y1 y0 q r) (hy : 0 < y1) (ht : q * y0 ≤ r * 4294967296 + v) : q = (u * 4294967296 + v) / (y1 * 4294967296 + y0) := by
  have hp := h.prod
  have h2 : q ≤ (u * 4294967296 + v) / (y1 * 4294967296 + y0) := by
    rw [Nat.le_div_iff_mul_le (by omega)]
    obtain ⟨P, hP⟩ : ∃ P, q * (y1 * 4294967296 + y0) = P := ⟨_, rfl⟩
    obtain ⟨Z, hZ⟩ : ∃ Z, q * y0 = Z := ⟨_, rfl⟩
    rw [hP, hZ] at hp
    rw [hZ] at ht
    rw [hP]
    omega
  exact Nat.le_antisymm h2 h.high

theorem linear_less (P Z b v a : Nat) (h1 : a + v < Z) (hp : P + a = b + Z) : b + v < P := by omega

/-- The test says yes: the guess is too great. -/
theorem Guess.less {u v y1 y0 q r : Nat} (h : Guess u v y1 y0 q r) (hu : u < y1 * 4294967296 + y0) (hv : v < 4294967296) (ht : 4294967296 ≤ q ∨ r * 4294967296 + v < q * y0) : 1 ≤ q ∧ Guess u v y1 y0 (q - 1) (r + y1) := by
  have hlt : (u * 4294967296 + v) / (y1 * 4294967296 + y0) < q := by
    rcases ht with h1 | h1
    · have := div_small hu hv
      omega
    · have hp := h.prod
      rw [Nat.div_lt_iff_lt_mul (by omega)]
      obtain ⟨P, hP⟩ : ∃ P, q * (y1 * 4294967296 + y0) = P := ⟨_, rfl⟩
      obtain ⟨Z, hZ⟩ : ∃ Z, q * y0 = Z := ⟨_, rfl⟩
      rw [hP, hZ] at hp
      rw [hZ] at h1
      rw [hP]
      exact linear_less _ _ _ _ _ h1 hp
  have h1 : 1 ≤ q := Nat.lt_of_le_of_lt (Nat.zero_le _) hlt
  refine ⟨h1, ?_, by have := h.most; omega, Nat.le_sub_one_of_lt hlt⟩
  have e : q * y1 = (q - 1) * y1 + y1 := by
    obtain ⟨k, rfl⟩ : ∃ k, q = k + 1 := ⟨q - 1, by omega⟩
    rw [Nat.add_sub_cancel, Nat.add_mul, Nat.one_mul]
  have := h.sum
  omega

/-- What is left is a word: the guess is right. -/
theorem Guess.stop {u v y1 y0 q r : Nat} (h : Guess u v y1 y0 q r) (hy : 0 < y1) (h0 : y0 < 4294967296) (hq : q ≤ 4294967296) (hr : 4294967296 ≤ r) : q = (u * 4294967296 + v) / (y1 * 4294967296 + y0) := by
  refine h.right hy ?_
  have a : q * y0 ≤ 4294967296 * y0 := Nat.mul_le_mul_right _ hq
  have b : 4294967296 * 4294967296 ≤ r * 4294967296 := Nat.mul_le_mul_right _ hr
  omega

theorem test_small {q y0 : Nat} (hq : q < 4294967296) (h0 : y0 < 4294967296) : q * y0 ≤ 18446744073709551615 := by
  have a : q * y0 ≤ 4294967295 * 4294967295 := Nat.mul_le_mul (by omega) (by omega)
  omega

/-! ### Both halves -/
theorem two_halves (u v x Y : Nat) (hY : 0 < Y) :
    ((u * 4294967296 + v) * 4294967296 + x) / Y = (u * 4294967296 + v) / Y * 4294967296 + ((u * 4294967296 + v) % Y * 4294967296 + x) / Y := by
  have h := Nat.div_add_mod (u * 4294967296 + v) Y
  obtain ⟨n, hn⟩ : ∃ n, u * 4294967296 + v = n := ⟨_, rfl⟩
  rw [hn] at h ⊢
  have e : n * 4294967296 + x = Y * (n / Y * 4294967296) + (n % Y * 4294967296 + x) := by
    rw [← Nat.mul_assoc]
    obtain ⟨a, ha⟩ : ∃ a, Y * (n / Y) = a := ⟨_, rfl⟩
    obtain ⟨b, hb⟩ : ∃ b, n % Y = b := ⟨_, rfl⟩
    rw [ha, hb] at h ⊢
    clear ha hb hn
    omega
  rw [e, Nat.mul_add_div hY]

/-! ### The divisor moved to the left -/
theorem len_bounds {y : Nat} (h0 : 0 < y) (h1 : y ≤ 18446744073709551615) : 1 ≤ Lib.bitLen y ∧ Lib.bitLen y ≤ 64 ∧ 2 ^ (Lib.bitLen y - 1) ≤ y ∧ y < 2 ^ Lib.bitLen y := by
  have h := Lib.bitLenAux_bounds 64 y (by omega) (by omega)
  refine ⟨h.1, ?_, h.2.1, h.2.2⟩
  rcases Nat.lt_or_ge 64 (Lib.bitLen y) with h2 | h2
  · have h3 : 2 ^ 64 ≤ 2 ^ (Lib.bitLen y - 1) := Nat.pow_le_pow_right (by decide) (by omega)
    have h4 : 2 ^ (Lib.bitLen y - 1) ≤ y := h.2.1
    have : (2 : Nat) ^ 64 = 18446744073709551616 := by decide
    omega
  · exact h2

theorem shift_bounds {y s : Nat} (h0 : 0 < y) (h1 : y ≤ 18446744073709551615) (hs : 64 - Lib.bitLen y = s) : s ≤ 63 ∧ 9223372036854775808 ≤ y * 2 ^ s ∧ y * 2 ^ s ≤ 18446744073709551615 := by
  obtain ⟨a, b, c, d⟩ := len_bounds h0 h1
  refine ⟨by omega, ?_, ?_⟩
  · have h : 2 ^ (Lib.bitLen y - 1) * 2 ^ s ≤ y * 2 ^ s := Nat.mul_le_mul_right _ c
    rw [← Nat.pow_add, show Lib.bitLen y - 1 + s = 63 by omega] at h
    have : (2 : Nat) ^ 63 = 9223372036854775808 := by decide
    omega
  · have h : (y + 1) * 2 ^ s ≤ 2 ^ Lib.bitLen y * 2 ^ s := Nat.mul_le_mul_right _ d
    rw [← Nat.pow_add, show Lib.bitLen y + s = 64 by omega, Nat.add_mul, Nat.one_mul] at h
    have : (2 : Nat) ^ 64 = 18446744073709551616 := by decide
    have : 0 < 2 ^ s := Nat.pow_pos (by decide)
    omega

theorem low_part (lo s : Nat) (hs : s ≤ 63) : lo / 2 ^ (64 - s) = lo * 2 ^ s / 18446744073709551616 := by
  have e : 18446744073709551616 = 2 ^ (64 - s) * 2 ^ s := by
    rw [← Nat.pow_add, show 64 - s + s = 64 by omega]
  rw [e, Nat.mul_div_mul_right _ _ (Nat.pow_pos (by decide))]

theorem low_lt (lo s : Nat) (hs : s ≤ 63) (hl : lo ≤ 18446744073709551615) : lo / 2 ^ (64 - s) < 2 ^ s := by
  rw [Nat.div_lt_iff_lt_mul (Nat.pow_pos (by decide)), ← Nat.pow_add, show s + (64 - s) = 64 by omega]
  have : (2 : Nat) ^ 64 = 18446744073709551616 := by decide
  omega

theorem or_add (hi x s : Nat) (hx : x < 2 ^ s) : (hi * 2 ^ s) ||| x = hi * 2 ^ s + x := by
  rw [Nat.mul_comm hi, Nat.two_pow_add_eq_or_of_lt hx]

/-- The moved words make the moved number. -/
theorem moved (hi lo s : Nat) (hs : s ≤ 63) : (hi * 2 ^ s + lo / 2 ^ (64 - s)) * 18446744073709551616 + lo * 2 ^ s % 18446744073709551616 = (hi * 18446744073709551616 + lo) * 2 ^ s := by
  rw [low_part lo s hs]
  have h := Nat.div_add_mod (lo * 2 ^ s) 18446744073709551616
  rw [Nat.add_mul (hi * 18446744073709551616), Nat.mul_right_comm]
  omega
end Go.Proofs.YtgacapebngllnaaDoor
