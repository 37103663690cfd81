/-
  What Parse of layer 1 returns for every text. Conditions: none but a string's length.
-/
import Derived.Test.YtjeacpohanadnaaMNb
namespace Go.Proofs.Ytjeacpohanadnaa
open Go.RowKit

theorem fracV_two (l : List UInt8) : (∃ p : Nat, fracOf l = some p ∧ p ≤ 999 ∧ fracV l = .tuple #[.int .i64 p, .bool true]) ∨ (fracOf l = none ∧ fracV l = .tuple #[.int .i64 0, .bool false]) := by
  cases l with
  | nil => exact Or.inl ⟨0, rfl, by omega, rfl⟩
  | cons c d =>
    by_cases h : c = 46 ∧ 1 ≤ d.length ∧ d.length ≤ 3 ∧ d.all isDig = true ∧ d.getLast? ≠ some 48
    · refine Or.inl ⟨_, if_pos h, ?_, fracV_yes h⟩
      have h1 := valL_lt d h.2.2.2.1
      have h2 : pad (valL d) d.length 3 < 10 ^ d.length * 10 ^ (3 - d.length) := Nat.mul_lt_mul_of_pos_right h1 (Nat.pow_pos (by decide))
      rw [← Nat.pow_add, show d.length + (3 - d.length) = 3 by omega] at h2
      omega
    · exact Or.inr ⟨if_neg h, fracV_no h⟩



def synV : Value := .tuple #[.int .i64 0, .int .i64 4]
def ovfV : Value := .tuple #[.int .i64 0, .int .i64 16]

/-- What Parse answers behind a sign or none. -/
def parseT (neg : Bool) (t : List UInt8) : Value :=
  if (lead t).length = 0 ∨ (1 < (lead t).length ∧ t.head? = some 48) ∨ (neg = true ∧ t = [48]) then synV
  else match fracOf (t.drop (lead t).length) with
    | none => synV
    | some p => if 268435456 < valL (lead t) * 1000 + p then ovfV else .tuple #[.int .i64 (if neg then -((valL (lead t) * 1000 + p : Nat) : Int) else ((valL (lead t) * 1000 + p : Nat) : Int)), .int .i64 0]

/-- What Parse answers. -/
def parseV (l : List UInt8) : Value := if l.head? = some 45 then parseT true l.tail else parseT false l

theorem parseT_bad {neg : Bool} {t : List UInt8} (h : (lead t).length = 0 ∨ (1 < (lead t).length ∧ t.head? = some 48) ∨ (neg = true ∧ t = [48])) : parseT neg t = synV := if_pos h
theorem parseT_none {neg : Bool} {t : List UInt8} (h2 : fracOf (t.drop (lead t).length) = none) : parseT neg t = synV := by
  unfold parseT; split
  · rfl
  · rw [h2]
theorem parseT_some {neg : Bool} {t : List UInt8} {p : Nat} (h : ¬ ((lead t).length = 0 ∨ (1 < (lead t).length ∧ t.head? = some 48) ∨ (neg = true ∧ t = [48]))) (h2 : fracOf (t.drop (lead t).length) = some p) :
    parseT neg t = if 268435456 < valL (lead t) * 1000 + p then ovfV else .tuple #[.int .i64 (if neg then -((valL (lead t) * 1000 + p : Nat) : Int) else ((valL (lead t) * 1000 + p : Nat) : Int)), .int .i64 0] := by
  unfold parseT; rw [if_neg h, h2]

theorem sat_over {V p v : Nat} (hv : min V 268436 = v) (hp : p ≤ 999) : (268435456 < v * 1000 + p) ↔ (268435456 < V * 1000 + p) := by omega
theorem sat_same {V p v : Nat} (hv : min V 268436 = v) (h : ¬ 268435456 < V * 1000 + p) : v = V := by omega

theorem drop_extract (s : ByteArray) (c : Nat) : (s.extract c s.size).data.toList = s.data.toList.drop c := by
  rw [Lib.extract_from]
theorem drop_size (s : ByteArray) (c : Nat) : (s.extract c s.size).size ≤ s.size := by
  rw [Lib.extract_from, Lib.size_mk, List.length_drop]; simp




theorem head_at (tx : ByteArray) (h : 0 < tx.size) : tx.data.toList.head? = some tx[0] := by
  rw [List.head?_eq_getElem?, dig_at tx 0 h]


end Go.Proofs.Ytjeacpohanadnaa
