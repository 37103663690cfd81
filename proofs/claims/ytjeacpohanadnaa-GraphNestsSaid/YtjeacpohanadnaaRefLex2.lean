/-
  What Quote, text and number of the reference of layer 6 return. Conditions: a string's length; of number, that there is a byte.
-/
import Derived.Test.YtjeacpohanadnaaRefLex1
namespace Go.Proofs.Ytjeacpohanadnaa
open Go.RowKit lex

abbrev ba (l : List UInt8) : ByteArray := ⟨l.toArray⟩
theorem ba_ext {a b : ByteArray} (h : a.data.toList = b.data.toList) : a = b := by
  cases a; cases b; simp at h; subst h; rfl
theorem ba_of {a : ByteArray} {l : List UInt8} (h : a.data.toList = l) : a = ba l := ba_ext (by simp [h])
theorem ret_sn {a b : ByteArray} {n : Int} (h : a = b) : Ending.returned (.tuple #[.string a, .int .i64 n]) = .returned (.tuple #[.string b, .int .i64 n]) := by rw [h]
theorem ba_add (a b : ByteArray) : (a ++ b).data.toList = a.data.toList ++ b.data.toList := by simp
theorem ba_one (s : ByteArray) (k : Nat) (h : k < s.size) : (s.extract k (k + 1)).data.toList = [s[k]] := by
  have : (s.extract k (k + 1)).data.toList = (s.data.toList.drop k).take 1 := by
    rw [ByteArray.data_extract, Array.toList_extract, List.extract_eq_take_drop]; congr 1; omega
  rw [this, List.take_one, List.head?_drop, dig_at' s k h]; rfl
theorem esc_take {s : ByteArray} {k : Nat} (hlt : k < s.size) : escL (s.data.toList.take (k + 1)) = escL (s.data.toList.take k) ++ (if s[k].toNat = 34 ∨ s[k].toNat = 92 then [92, s[k]] else [s[k]]) := by
  rw [List.take_add_one, dig_at' s k hlt]
  simp [escL]
theorem esc_len (l : List UInt8) : (escL l).length ≤ 2 * l.length := by
  induction l with
  | nil => simp [escL]
  | cons a l ih =>
    have e : escL (a :: l) = (if a.toNat = 34 ∨ a.toNat = 92 then [92, a] else [a]) ++ escL l := by simp [escL]
    rw [e, List.length_append, List.length_cons]
    split <;> simp <;> omega

/-- What Quote returns: the text, the error. -/
def quoE (l : List UInt8) : List UInt8 × Int := if 32 < l.length then ([], 2) else if l.all isPl then (quoL l, 0) else ([], 1)


theorem ret_snn {a b : ByteArray} {n m k l : Int} (h : a = b) (h1 : n = m) (h2 : k = l) : Ending.returned (.tuple #[.string a, .int .i64 n, .int .i64 k]) = .returned (.tuple #[.string b, .int .i64 m, .int .i64 l]) := by rw [h, h1, h2]
theorem drop_at {s : ByteArray} {k : Nat} (h : k < s.size) : s.data.toList.drop k = s[k] :: s.data.toList.drop (k + 1) := by
  rw [List.drop_eq_getElem_cons (by rw [size_list]; exact h)]; rfl
theorem drop_end {s : ByteArray} {k : Nat} (h : s.size ≤ k) : s.data.toList.drop k = [] := List.drop_eq_nil_of_le (by rw [size_list]; exact h)
theorem out_err {R : List UInt8 × Nat × Int} {t : List UInt8} {n : Nat} {e : Int} (h : R = (t, n, e)) : R.1 = t ∧ R.2.1 = n ∧ R.2.2 = e := by subst h; exact ⟨rfl, rfl, rfl⟩


theorem list_cons {s : ByteArray} (h : 0 < s.size) : s.data.toList = s[0] :: s.data.toList.drop 1 := by
  have := drop_at h; rw [List.drop_zero] at this; exact this
/-- The end of the reference's loop over a number: what holds where it stops. -/
def NumEnd (l : List UInt8) (m n : Nat) : Prop := ∀ k, m ≤ k → k ≤ l.length → NumTo l m k → (∀ d, l[k]? = some d → isNb d = false) → n = k
end Go.Proofs.Ytjeacpohanadnaa
