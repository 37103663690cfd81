/-
  What the small functions of the reference of layer 6 return: bytes, words, keywords, marks, names, plain contents, Quote. Conditions: none but a string's length.
-/
import Derived.Test.YthcglcnhdgeaeaaDoorKit
import Derived.Test.YthcglcnhdgeaeaaDoorLexPlain
namespace Go.Proofs.YthcglcnhdgeaeaaDoor
open Go.RowKit lex

theorem dig_at' (s : ByteArray) (k : Nat) (h : k < s.size) : s.data.toList[k]? = some s[k] := by
  rw [List.getElem?_eq_getElem (by simpa using h)]; rfl
theorem size_list (s : ByteArray) : s.data.toList.length = s.size := by simp

theorem list_nil {s : ByteArray} (h : s.size = 0) : s.data.toList = [] := List.length_eq_zero_iff.1 (by rw [size_list]; exact h)
theorem nil_yes {s : ByteArray} (h : s.size = 0) : (s.toList == []) = true := by rw [ByteArray.toList_eq, list_nil h]; rfl
theorem nil_no {s : ByteArray} (h : s.size ≠ 0) : (s.toList == []) = false := by
  rw [ByteArray.toList_eq, beq_eq_false_iff_ne]; intro e; exact h (by rw [← size_list, e]; rfl)





/-- The first k bytes are plain. -/
theorem plain_next {s : ByteArray} {k : Nat} (h : (s.data.toList.take k).all isPl = true) (hlt : k < s.size) (hp : isPl s[k] = true) : (s.data.toList.take (k + 1)).all isPl = true := by
  rw [List.take_add_one, dig_at' s k hlt, List.all_append, h]
  simp [hp]
theorem plain_bad {s : ByteArray} {k : Nat} (hlt : k < s.size) (hp : isPl s[k] = false) : s.data.toList.all isPl = false := by
  rw [List.all_eq_false]
  exact ⟨s[k], List.mem_of_getElem? (dig_at' s k hlt), by simp [hp]⟩
end Go.Proofs.YthcglcnhdgeaeaaDoor
