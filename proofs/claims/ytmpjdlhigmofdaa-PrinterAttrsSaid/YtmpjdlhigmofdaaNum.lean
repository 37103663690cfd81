/-
  What the number functions of layer 1 and of its reference return, one contract a function: magnitude and abs, signed, the two square roots, ratio, Mul, Div, and the reference's Mul and Div. Conditions: arguments are ints; no other.
-/
import Derived.Test.YtmpjdlhigmofdaaRows
import Derived.Test.YtmpjdlhigmofdaaPlain
import Derived.WalkKit
import Derived.WalkSpells
import Derived.WalkLawsBesides
import Derived.Lib.Hide
namespace Go.Proofs.Ytmpjdlhigmofdaa
open Go.RowKit

theorem u64_pos (n : Int) (h0 : 0 ≤ n) (h1 : n ≤ 9223372036854775807) : IntKind.u64.wrap n = n := by rw [IntKind.wrap_u64]; omega
theorem u64_two (n : Int) (h0 : n < 0) (h1 : -9223372036854775808 ≤ n) : IntKind.u64.wrap (-IntKind.u64.wrap n) = (n.natAbs : Int) := by
  rw [IntKind.wrap_u64, IntKind.wrap_u64]; omega



/-- The answer that a magnitude gives under a sign. -/
def signedV (n : Nat) (minus : Bool) : Value := if 268435456 < n then .tuple #[.int .i64 0, .int .i64 16] else if minus then .tuple #[.int .i64 (-(n : Int)), .int .i64 0] else .tuple #[.int .i64 n, .int .i64 0]


/-! ### The square roots -/
theorem tdiv_low (n b : Int) (h0 : -9223372036854775808 ≤ n) (h1 : n ≤ 0) (hb : 1 ≤ b) : -9223372036854775808 ≤ n.tdiv b ∧ n.tdiv b ≤ 0 := by
  obtain ⟨k, rfl⟩ : ∃ k : Int, n = -k := ⟨-n, by omega⟩
  rw [Int.neg_tdiv, Int.tdiv_eq_ediv_of_nonneg (by omega)]
  have g0 : 0 ≤ k / b := Int.ediv_nonneg (by omega) (by omega)
  have g1 : k / b ≤ k := Int.ediv_le_self _ (by omega)
  omega




end Go.Proofs.Ytmpjdlhigmofdaa
