/-
  Plain facts on numbers that the proofs of layer 1 use: the integer square root, quotients rounded to the nearest. No program is named here; no condition.
  What the number functions of layer 1 and of its reference return, one contract a function: magnitude and abs, signed, the two square roots, ratio, Mul, Div, and the reference's Mul and Div. Conditions: arguments are ints; no other.
  What Mul and Div of layer 1 and of its reference return: the quotient rounded to the nearest integer, or the error; the double word division is taken where its high word is 0. Conditions: arguments are ints, divisors are not 0 where the call would panic.
-/
import Derived.Test.YtjeacpohanadnaaRows
import Derived.WalkKit
import Derived.WalkSpells
import Derived.WalkLawsBesides
import Derived.Lib.Hide
import Derived.Test.YtjeacpohanadnaaShelf
import Derived.Laws.Externs
import Derived.Deep.QuietTactic
import Derived.BigQuiet
import Derived.Deep.DeepFit
namespace Go.Proofs.Ytjeacpohanadnaa

/-! ### The integer square root -/
def isq : Nat → Nat
  | 0 => 0
  | n + 1 => if (isq n + 1) * (isq n + 1) ≤ n + 1 then isq n + 1 else isq n

theorem isq_spec : ∀ n, isq n * isq n ≤ n ∧ n < (isq n + 1) * (isq n + 1)
  | 0 => by simp [isq]
  | n + 1 => by
    have h := isq_spec n
    unfold isq
    split
    · rename_i h2
      refine ⟨h2, ?_⟩
      have : (isq n + 1 + 1) * (isq n + 1 + 1) = (isq n + 1) * (isq n + 1) + 2 * (isq n + 1) + 1 := by
        simp only [Nat.add_mul, Nat.mul_add]; omega
      omega
    · rename_i h2
      exact ⟨by omega, by omega⟩

theorem sq_lt {a b : Nat} (h : a < b) : (a + 1) * (a + 1) ≤ b * b := Nat.mul_le_mul h h

theorem isq_unique (n s : Nat) (h1 : s * s ≤ n) (h2 : n < (s + 1) * (s + 1)) : s = isq n := by
  have h := isq_spec n
  rcases Nat.lt_trichotomy s (isq n) with h3 | h3 | h3
  · have := sq_lt h3; omega
  · exact h3
  · have := sq_lt h3; omega

/-- A root of a number that an int holds. -/
theorem root_le {s n : Nat} (h : s * s ≤ n) (hn : n ≤ 9223372036854775807) : s ≤ 3037000499 := by
  rcases Nat.lt_or_ge 3037000499 s with h3 | h3
  · have := sq_lt h3; omega
  · exact h3

theorem isq_le (n : Nat) (hn : n ≤ 9223372036854775807) : isq n ≤ 3037000499 := root_le (isq_spec n).1 hn

/-- The bit of one round and twice it: 1 and 2, 2 and 4, and so on; behind the last round 0 and 1. -/
def Bit (b c : Nat) : Prop := ∃ j, j ≤ 32 ∧ c = 2 ^ j ∧ b = 2 ^ j / 2
theorem Bit.first : Bit 2147483648 4294967296 := ⟨32, by decide, by decide, by decide⟩
theorem Bit.le {b c : Nat} (h : Bit b c) : b ≤ 2147483648 := by
  obtain ⟨j, hj, rfl, rfl⟩ := h
  have : 2 ^ j ≤ 2 ^ 32 := Nat.pow_le_pow_right (by decide) hj
  have e : (2 : Nat) ^ 32 = 4294967296 := by decide
  omega
theorem Bit.next {b c : Nat} (h : Bit b c) (hb : 0 < b) : Bit (b / 2) b ∧ c = b + b := by
  obtain ⟨j, hj, rfl, rfl⟩ := h
  cases j with
  | zero => simp at hb
  | succ j =>
    have e : 2 ^ (j + 1) / 2 = 2 ^ j := by rw [Nat.pow_succ]; omega
    rw [e]
    exact ⟨⟨j, by omega, rfl, rfl⟩, by rw [Nat.pow_succ]; omega⟩
theorem Bit.last {c : Nat} (h : Bit 0 c) : c = 1 := by
  obtain ⟨j, hj, rfl, h2⟩ := h
  cases j with
  | zero => rfl
  | succ j =>
    rw [Nat.pow_succ] at h2
    have : 0 < 2 ^ j := Nat.pow_pos (by decide)
    omega

/-- One round of the search by bits. -/
theorem bit_yes {m r b c : Nat} (h : m < (r + c) * (r + c)) (hc : c = b + b) : m < (r + b + b) * (r + b + b) := by
  rw [show r + b + b = r + c by omega]; exact h

theorem le_quo (m k : Nat) (hk : 0 < k) : (k : Int) ≤ (m : Int) / (k : Int) ↔ k * k ≤ m := by
  rw [Int.le_ediv_iff_mul_le (by omega)]
  constructor
  · intro h; exact_mod_cast h
  · intro h; exact_mod_cast h

/-! ### Rounded quotients -/
/-- p / q, rounded: of two equally near integers the greater one. -/
def near (p q : Nat) : Nat := (p + q / 2) / q

theorem near_thousand (p : Nat) : near p 1000 = (p + 500) / 1000 := rfl

/-- The quotient, and one more where the rest is at least half of the divisor. -/
theorem near_rest (p q : Nat) (hq : 0 < q) : near p q = p / q + if q ≤ 2 * (p % q) then 1 else 0 := by
  unfold near
  have h := Nat.div_add_mod p q
  have hm := Nat.mod_lt p hq
  have e : p + q / 2 = p % q + q / 2 + q * (p / q) := by omega
  rw [e, Nat.add_mul_div_left _ _ hq]
  split
  · rename_i h2
    rw [show (p % q + q / 2) / q = 1 from by
      rw [Nat.div_eq_of_lt_le] <;> omega]
    omega
  · rename_i h2
    rw [Nat.div_eq_of_lt (by omega)]
    omega

/-! ### The bound on a product -/
theorem most_yes (x y : Nat) (hx : 0 < x) (h : x * y ≤ 268435456499) : ¬ (268435456499 : Int) / (x : Int) < (y : Int) := by
  intro h2
  have h3 : (268435456499 : Int) < (x : Int) * y := by
    have := Int.lt_mul_of_ediv_lt (show (0 : Int) < x by omega) h2
    rw [Int.mul_comm] at this
    exact this
  have h4 : ((x * y : Nat) : Int) ≤ 268435456499 := by omega
  rw [Int.natCast_mul] at h4
  omega
theorem most_no (x y : Nat) (hx : 0 < x) (h : ¬ x * y ≤ 268435456499) : (268435456499 : Int) / (x : Int) < (y : Int) := by
  have h4 : (268435456499 : Int) < ((x * y : Nat) : Int) := by omega
  rw [Int.natCast_mul, Int.mul_comm] at h4
  exact Int.ediv_lt_of_lt_mul (by omega) h4
theorem prod_cast (x y : Nat) (h : x * y ≤ 268435456499) : 0 ≤ (x : Int) * y ∧ (x : Int) * y ≤ 268435456499 := by
  have h4 : ((x * y : Nat) : Int) ≤ 268435456499 := by omega
  rw [Int.natCast_mul] at h4
  exact ⟨Int.mul_nonneg (by omega) (by omega), h4⟩
theorem near_cast (x y : Nat) : (((x : Int) * y + 500) / 1000).toNat = near (x * y) 1000 := by
  rw [near_thousand, ← Int.natCast_mul]
  omega

/-! ### Two words -/
theorem two_words {x y d hi lo c t : Nat} (h1 : x * y / 18446744073709551616 = hi) (h2 : x * y % 18446744073709551616 = lo) (h3 : (lo + d / 2) / 18446744073709551616 = c) (h4 : (lo + d / 2) % 18446744073709551616 = t) :
    near (x * y) d = ((hi + c) * 18446744073709551616 + t) / d := by
  unfold near
  congr 1
  omega
theorem two_words_over {n d t : Nat} (hd : 0 < d) (h : d ≤ n) : 268435456 < (n * 18446744073709551616 + t) / d := by
  have h1 : d * 18446744073709551616 ≤ n * 18446744073709551616 + t := by omega
  have h2 : 18446744073709551616 ≤ (n * 18446744073709551616 + t) / d := by
    rw [Nat.le_div_iff_mul_le hd, Nat.mul_comm]; exact h1
  omega
theorem hi_le {x y hi : Nat} (hx : x ≤ 9223372036854775808) (hy : y ≤ 9223372036854775808) (h1 : x * y / 18446744073709551616 = hi) : hi ≤ 4611686018427387904 := by
  have h : x * y ≤ 9223372036854775808 * 9223372036854775808 := Nat.mul_le_mul hx hy
  omega
theorem carry_le {lo d c : Nat} (hl : lo < 18446744073709551616) (hd : d ≤ 9223372036854775808) (h : (lo + d / 2) / 18446744073709551616 = c) : c ≤ 1 := by omega
theorem two_words_fit {n d t : Nat} (h : n < d) (ht : t ≤ 18446744073709551615) : (n * 18446744073709551616 + t) / d ≤ 18446744073709551615 := by
  have h1 : n * 18446744073709551616 + t < d * 18446744073709551616 := by omega
  have h2 : (n * 18446744073709551616 + t) / d < 18446744073709551616 := by
    rw [Nat.div_lt_iff_lt_mul (by omega)]; omega
  omega
end Go.Proofs.Ytjeacpohanadnaa
namespace Go.Proofs.Ytjeacpohanadnaa
open Go.RowKit

theorem u64_pos (n : Int) (h0 : 0 ≤ n) (h1 : n ≤ 9223372036854775807) : IntKind.u64.wrap n = n := by rw [IntKind.wrap_u64]; omega
theorem u64_two (n : Int) (h0 : n < 0) (h1 : -9223372036854775808 ≤ n) : IntKind.u64.wrap (-IntKind.u64.wrap n) = (n.natAbs : Int) := by
  rw [IntKind.wrap_u64, IntKind.wrap_u64]; omega



/-- The answer that a magnitude gives under a sign. -/
def signedV (n : Nat) (minus : Bool) : Value := if 268435456 < n then .tuple #[.int .i64 0, .int .i64 16] else if minus then .tuple #[.int .i64 (-(n : Int)), .int .i64 0] else .tuple #[.int .i64 n, .int .i64 0]


/-! ### The square roots -/
theorem tdiv_low (n b : Int) (h0 : -9223372036854775808 ≤ n) (h1 : n ≤ 0) (hb : 1 ≤ b) : -9223372036854775808 ≤ n.tdiv b ∧ n.tdiv b ≤ 0 := by
  obtain ⟨k, rfl⟩ : ∃ k : Int, n = -k := ⟨-n, by omega⟩
  rw [Int.neg_tdiv, Int.tdiv_eq_ediv_of_nonneg (by omega)]
  have g0 : 0 ≤ k / b := Int.ediv_nonneg (by omega) (by omega)
  have g1 : k / b ≤ k := Int.ediv_le_self _ (by omega)
  omega




end Go.Proofs.Ytjeacpohanadnaa
namespace Go.Proofs.Ytjeacpohanadnaa
open Go.RowKit




/-- A value with two parts. -/
def Two (v : Value) (a b : Value) : Prop := v = .tuple #[a, b]
theorem signedV_two (n : Nat) (m : Bool) : ∃ a b : Int, signedV n m = .tuple #[.int .i64 a, .int .i64 b] := by
  unfold signedV
  split
  · exact ⟨_, _, rfl⟩
  · split <;> exact ⟨_, _, rfl⟩

/-- What Mul answers. -/
def mulV (a b : Int) : Value := signedV (near (a.natAbs * b.natAbs) 1000) (!(decide (a < 0) == decide (b < 0)))

theorem near_over {p : Nat} (h : ¬ p ≤ 268435456499) : 268435456 < near p 1000 := by rw [near_thousand]; omega
theorem signedV_over {n : Nat} (h : 268435456 < n) (m : Bool) : signedV n m = .tuple #[.int .i64 0, .int .i64 16] := by unfold signedV; rw [if_pos h]


/-! ### Two words -/



/-- A sign out of three. -/
def sign3 (a b d : Int) : Bool := !((!(decide (a < 0) == decide (b < 0))) == decide (d < 0))
/-- What a * b / d, rounded, is answered with. -/
def ratioV (a b d : Int) : Value := signedV (near (a.natAbs * b.natAbs) d.natAbs) (sign3 a b d)

theorem signedV_pos {n : Nat} (h : ¬ 268435456 < n) : signedV n false = .tuple #[.int .i64 n, .int .i64 0] := by unfold signedV; rw [if_neg h]; rfl
theorem signedV_neg {n : Nat} (h : ¬ 268435456 < n) : signedV n true = .tuple #[.int .i64 (-(n : Int)), .int .i64 0] := by unfold signedV; rw [if_neg h]; rfl



theorem Below.size_le {B : Nat} {w w' : World} (h : Below B w w') : w.heap.size ≤ w'.heap.size := h.size

theorem ratioV_two (a b d : Int) : ∃ r e : Int, ratioV a b d = .tuple #[.int .i64 r, .int .i64 e] := signedV_two _ _

theorem ratioV_mul (a b : Int) : ratioV a b 1000 = mulV a b := by
  unfold ratioV mulV sign3
  rw [show (decide ((1000 : Int) < 0)) = false from rfl]
  simp

/-- What Div answers. -/
def divV (a b : Int) : Value := if b = 0 then .tuple #[.int .i64 0, .int .i64 1] else signedV (near (a.natAbs * 1000) b.natAbs) (!(decide (a < 0) == decide (b < 0)))
theorem divV_zero (a : Int) : divV a 0 = .tuple #[.int .i64 0, .int .i64 1] := rfl
theorem ratioV_div (a b : Int) (hb : b ≠ 0) : ratioV a 1000 b = divV a b := by
  unfold ratioV divV sign3
  rw [if_neg hb, show (decide ((1000 : Int) < 0)) = false from rfl]
  simp



end Go.Proofs.Ytjeacpohanadnaa
