/-
  Plain facts on digits in lists of bytes that the proofs of layer 1 use. No program is named here; no condition.
  What leadingDigits of layer 1 returns: the number that the digits at the beginning make, as far as 268436, and how many they are. Conditions: none but a string's length.
  What fraction of layer 1 returns: the thousandths of what follows the digits before the point, or that nothing of that kind follows. Conditions: none but a string's length.
-/
import Derived.Test.YtjeacpohanadnaaMNa
import Derived.Lib.TrimByte
namespace Go.Proofs.Ytjeacpohanadnaa

def isDig (c : UInt8) : Bool := decide (48 ≤ c.toNat ∧ c.toNat ≤ 57)
/-- The digits at the beginning. -/
def lead (l : List UInt8) : List UInt8 := l.takeWhile isDig
/-- The number that digits make. -/
def valL (l : List UInt8) : Nat := l.foldl (fun v c => 10 * v + (c.toNat - 48)) 0

theorem valL_snoc (l : List UInt8) (c : UInt8) : valL (l ++ [c]) = 10 * valL l + (c.toNat - 48) := by
  unfold valL; rw [List.foldl_append]; rfl
theorem valL_nil : valL [] = 0 := rfl

theorem sat_step (v d : Nat) : min (10 * min v 268436 + d) 268436 = min (10 * v + d) 268436 := by omega

theorem take_snoc (l : List UInt8) (k : Nat) (h : k < l.length) : l.take (k + 1) = l.take k ++ [l[k]] := by
  rw [List.take_succ_eq_append_getElem h]

/-- What the digits at the beginning are, once they are found. -/
theorem lead_take (l : List UInt8) (k : Nat) (hk : k ≤ l.length) (h1 : (l.take k).all isDig = true) (h2 : ∀ c, l[k]? = some c → isDig c = false) : lead l = l.take k := by
  induction l generalizing k with
  | nil => simp [lead]
  | cons a l ih =>
    cases k with
    | zero =>
      have := h2 a rfl
      simp [lead, this]
    | succ k =>
      simp only [List.take_succ_cons, List.all_cons, Bool.and_eq_true] at h1
      have := ih k (by simpa using hk) h1.2 (fun c hc => h2 c (by simpa using hc))
      simp only [lead] at this
      simp [lead, h1.1, this]

theorem lead_length (l : List UInt8) : (lead l).length ≤ l.length := (List.takeWhile_sublist _).length_le
theorem lead_eq_take (l : List UInt8) : lead l = l.take (lead l).length := by
  have := List.takeWhile_prefix (p := isDig) (l := l)
  exact List.prefix_iff_eq_take.1 this
theorem lead_all (l : List UInt8) : ∀ c ∈ lead l, isDig c = true := by
  unfold lead
  induction l with
  | nil => simp
  | cons a l ih =>
    intro c hc
    rw [List.takeWhile_cons] at hc
    split at hc
    · rcases List.mem_cons.1 hc with rfl | h
      · assumption
      · exact ih c h
    · simp at hc
theorem lead_stop (l : List UInt8) (c : UInt8) (h : l[(lead l).length]? = some c) : isDig c = false := by
  induction l with
  | nil => simp at h
  | cons a l ih =>
    unfold lead at h
    rw [List.takeWhile_cons] at h
    split at h
    · exact ih (by simpa [lead] using h)
    · rename_i hd
      simp at h
      subst h
      exact Bool.eq_false_iff.2 hd
theorem lead_of_all (l : List UInt8) (h : l.all isDig = true) : lead l = l := by
  have := lead_take l l.length (Nat.le_refl _) (by rw [List.take_length]; exact h) (fun c hc => by rw [List.getElem?_eq_none (Nat.le_refl _)] at hc; cases hc)
  rw [this, List.take_length]
theorem all_of_lead (l : List UInt8) (h : (lead l).length = l.length) : l.all isDig = true := by
  have e := lead_eq_take l
  rw [h, List.take_length] at e
  rw [← e, List.all_eq_true]
  exact lead_all l
theorem frac_short (d : List UInt8) (c : Nat) (hc : (lead d).length = c) (h : c = 0 ∨ 3 < c ∨ c < d.length) (a : UInt8) : ¬ (a = 46 ∧ 1 ≤ d.length ∧ d.length ≤ 3 ∧ d.all isDig = true ∧ d.getLast? ≠ some 48) := by
  rintro ⟨_, h1, h2, h3, _⟩
  rw [lead_of_all d h3] at hc
  omega
theorem valL_lt (l : List UInt8) (h : l.all isDig = true) : valL l < 10 ^ l.length := by
  have key : ∀ (l : List UInt8) (v n : Nat), l.all isDig = true → v < 10 ^ n → l.foldl (fun v c => 10 * v + (c.toNat - 48)) v < 10 ^ (n + l.length) := by
    intro l
    induction l with
    | nil => intro v n _ hv; simpa using hv
    | cons a l ih =>
      intro v n hl hv
      simp only [List.all_cons, Bool.and_eq_true] at hl
      have ha : 48 ≤ a.toNat ∧ a.toNat ≤ 57 := by simpa [isDig] using hl.1
      have := ih (10 * v + (a.toNat - 48)) (n + 1) hl.2 (by rw [Nat.pow_succ]; omega)
      simpa [Nat.add_assoc, Nat.add_comm 1] using this
  have := key l 0 0 h (by decide)
  simpa [valL] using this
theorem valL_three (l : List UInt8) (h : l.all isDig = true) (hl : l.length ≤ 3) : valL l < 1000 := by
  have := valL_lt l h
  have h2 : 10 ^ l.length ≤ 10 ^ 3 := Nat.pow_le_pow_right (by decide) hl
  omega
end Go.Proofs.Ytjeacpohanadnaa
namespace Go.Proofs.Ytjeacpohanadnaa
open Go.RowKit

theorem dig_at (s : ByteArray) (k : Nat) (h : k < s.size) : s.data.toList[k]? = some s[k] := by
  rw [List.getElem?_eq_getElem (by simpa using h)]; rfl
theorem take_one (s : ByteArray) (k : Nat) (h : k < s.size) : s.data.toList.take (k + 1) = s.data.toList.take k ++ [s[k]] := by
  rw [take_snoc _ k (by simpa using h)]; rfl

theorem lead_here (s : ByteArray) (k v fv fc : Nat) (hk : k ≤ s.size) (h1 : (s.data.toList.take k).all isDig = true) (h2 : v = min (valL (s.data.toList.take k)) 268436) (h3 : min (valL (lead s.data.toList)) 268436 = fv) (h4 : (lead s.data.toList).length = fc) (h5 : ∀ c, s.data.toList[k]? = some c → isDig c = false) : fv = v ∧ fc = k := by
  have e := lead_take s.data.toList k (by simpa using hk) h1 h5
  rw [e] at h3 h4
  rw [List.length_take] at h4
  have : s.data.toList.length = s.size := by simp
  omega

end Go.Proofs.Ytjeacpohanadnaa
namespace Go.Proofs.Ytjeacpohanadnaa
open Go.RowKit

theorem mk_list (s : ByteArray) : (⟨s.data.toList.toArray⟩ : ByteArray) = s := by
  apply ByteArray.ext; simp




def pad (V n k : Nat) : Nat := V * 10 ^ (k - n)
theorem pad_start (V n : Nat) : pad V n n = V := by simp [pad]
theorem pad_succ (V n k : Nat) (h : n ≤ k) : pad V n (k + 1) = 10 * pad V n k := by
  unfold pad
  rw [show k + 1 - n = (k - n) + 1 by omega, Nat.pow_succ, ← Nat.mul_assoc, Nat.mul_comm 10]
theorem pad_le (V n k : Nat) (hV : V ≤ 1000) (hk : k ≤ 3) : pad V n k ≤ 1000000 := by
  unfold pad
  have : 10 ^ (k - n) ≤ 10 ^ 3 := Nat.pow_le_pow_right (by decide) (by omega)
  calc V * 10 ^ (k - n) ≤ 1000 * 10 ^ 3 := Nat.mul_le_mul hV this
    _ = 1000000 := by decide

/-- The thousandths of what follows the digits before the point. -/
def fracOf : List UInt8 → Option Nat
  | [] => some 0
  | c :: d => if c = 46 ∧ 1 ≤ d.length ∧ d.length ≤ 3 ∧ d.all isDig = true ∧ d.getLast? ≠ some 48 then some (pad (valL d) d.length 3) else none

def fracV (l : List UInt8) : Value := match fracOf l with
  | none => .tuple #[.int .i64 0, .bool false]
  | some p => .tuple #[.int .i64 p, .bool true]

theorem fracV_no {c : UInt8} {d : List UInt8} (h : ¬ (c = 46 ∧ 1 ≤ d.length ∧ d.length ≤ 3 ∧ d.all isDig = true ∧ d.getLast? ≠ some 48)) : fracV (c :: d) = .tuple #[.int .i64 0, .bool false] := by
  have : fracOf (c :: d) = none := if_neg h
  unfold fracV; rw [this]
theorem fracV_yes {c : UInt8} {d : List UInt8} (h : c = 46 ∧ 1 ≤ d.length ∧ d.length ≤ 3 ∧ d.all isDig = true ∧ d.getLast? ≠ some 48) : fracV (c :: d) = .tuple #[.int .i64 (pad (valL d) d.length 3), .bool true] := by
  have : fracOf (c :: d) = some (pad (valL d) d.length 3) := if_pos h
  unfold fracV; rw [this]



end Go.Proofs.Ytjeacpohanadnaa
