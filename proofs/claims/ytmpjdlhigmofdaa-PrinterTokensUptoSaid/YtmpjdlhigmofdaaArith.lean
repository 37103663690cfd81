/-
  What Mul and Div of layer 1 and of its reference return: the quotient rounded to the nearest integer, or the error; the double word division is taken where its high word is 0. Conditions: arguments are ints, divisors are not 0 where the call would panic.
-/
import Derived.Test.YtmpjdlhigmofdaaNum
import Derived.Test.YtmpjdlhigmofdaaShelf
import Derived.Laws.Externs
import Derived.Deep.QuietTactic
import Derived.BigQuiet
import Derived.Deep.DeepFit
namespace Go.Proofs.Ytmpjdlhigmofdaa
open Go.RowKit




/-- A value with two parts. -/
def Two (v : Value) (a b : Value) : Prop := v = .tuple #[a, b]
theorem signedV_two (n : Nat) (m : Bool) : ∃ a b : Int, signedV n m = .tuple #[.int .i64 a, .int .i64 b] := by
  unfold signedV
  split
  · exact ⟨_, _, rfl⟩
  · split <;> exact ⟨_, _, rfl⟩

/-- What Mul answers. -/
def mulV (a b : Int) : Value := signedV (near (a.natAbs * b.natAbs) 1000) (!(decide (a < 0) == decide (b < 0)))

theorem near_over {p : Nat} (h : ¬ p ≤ 268435456499) : 268435456 < near p 1000 := by rw [near_thousand]; omega
theorem signedV_over {n : Nat} (h : 268435456 < n) (m : Bool) : signedV n m = .tuple #[.int .i64 0, .int .i64 16] := by unfold signedV; rw [if_pos h]


/-! ### Two words -/



/-- A sign out of three. -/
def sign3 (a b d : Int) : Bool := !((!(decide (a < 0) == decide (b < 0))) == decide (d < 0))
/-- What a * b / d, rounded, is answered with. -/
def ratioV (a b d : Int) : Value := signedV (near (a.natAbs * b.natAbs) d.natAbs) (sign3 a b d)

theorem signedV_pos {n : Nat} (h : ¬ 268435456 < n) : signedV n false = .tuple #[.int .i64 n, .int .i64 0] := by unfold signedV; rw [if_neg h]; rfl
theorem signedV_neg {n : Nat} (h : ¬ 268435456 < n) : signedV n true = .tuple #[.int .i64 (-(n : Int)), .int .i64 0] := by unfold signedV; rw [if_neg h]; rfl



theorem Below.size_le {B : Nat} {w w' : World} (h : Below B w w') : w.heap.size ≤ w'.heap.size := h.size

theorem ratioV_two (a b d : Int) : ∃ r e : Int, ratioV a b d = .tuple #[.int .i64 r, .int .i64 e] := signedV_two _ _

theorem ratioV_mul (a b : Int) : ratioV a b 1000 = mulV a b := by
  unfold ratioV mulV sign3
  rw [show (decide ((1000 : Int) < 0)) = false from rfl]
  simp

/-- What Div answers. -/
def divV (a b : Int) : Value := if b = 0 then .tuple #[.int .i64 0, .int .i64 1] else signedV (near (a.natAbs * 1000) b.natAbs) (!(decide (a < 0) == decide (b < 0)))
theorem divV_zero (a : Int) : divV a 0 = .tuple #[.int .i64 0, .int .i64 1] := rfl
theorem ratioV_div (a b : Int) (hb : b ≠ 0) : ratioV a 1000 b = divV a b := by
  unfold ratioV divV sign3
  rw [if_neg hb, show (decide ((1000 : Int) < 0)) = false from rfl]
  simp



end Go.Proofs.Ytmpjdlhigmofdaa
