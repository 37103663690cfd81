/-
  What is asked of the code of layer 6: each exported function answers as its plain function says. The statements' walks take it as a premise; a text of its own proves it. No condition.
-/
import Derived.Test.YtcohjleolidngaaDoorLexSpec
namespace Go.Proofs.YtcohjleolidngaaDoor
open Go.RowKit lex

/-- A token's number is an int. -/
def numR (t : Tok) : Prop := -9223372036854775808 ≤ t.num ∧ t.num ≤ 9223372036854775807
structure LexOk : Prop where
  name : ∀ (s : ByteArray) (w : World), s.size ≤ maxLen → Calls Tryd.prog 10 #[.string s] w fun e w' => e = .returned (.bool (isNm s.data.toList)) ∧ Below w.heap.size w w'
  kw : ∀ (s : ByteArray) (w : World), s.size ≤ maxLen → Calls Tryd.prog 17 #[.string s] w fun e w' => e = .returned (.bool (isKw s.data.toList)) ∧ Below w.heap.size w w'
  quote : ∀ (s : ByteArray) (q : List UInt8) (e0 : Int) (w : World), s.size ≤ maxLen → Hid (quoE s.data.toList = (q, e0)) → Calls Tryd.prog 19 #[.string s] w fun e w' => e = .returned (.tuple #[.string (ba q), .int .i64 e0]) ∧ Below w.heap.size w w'
  tokenize : ∀ (s : ByteArray) (L : List Tok) (l0 e0 : Int) (w : World), s.size ≤ maxLen → Hid (tokE s.data.toList = (L, l0, e0)) → Calls Tryd.prog 9 #[.string s] w (TokOut L l0 e0 w)
  join : ∀ (v : Value) (l : List Tok) (q0 : List UInt8) (e0 : Int) (w : World), Hid (Tab w) → l.length ≤ 200 → Hid (∀ t ∈ l, t.text.length ≤ 200) → Hid (∀ t ∈ l, numR t) → Hid (Tl w v l) → Hid (joinE l = (q0, e0)) → Calls Tryd.prog 7 #[v] w fun e w' => e = .returned (.tuple #[.string (ba q0), .int .i64 e0]) ∧ Below w.heap.size w w'

theorem LexOk.name_of (C : LexOk) (s : ByteArray) (v : Bool) (w : World) (hs : s.size ≤ maxLen) (h : Hid (isNm s.data.toList = v)) : Calls Tryd.prog 10 #[.string s] w fun e w' => e = .returned (.bool v) ∧ Below w.heap.size w w' := by
  rw [← h.out]; exact C.name s w hs
theorem LexOk.kw_of (C : LexOk) (s : ByteArray) (v : Bool) (w : World) (hs : s.size ≤ maxLen) (h : Hid (isKw s.data.toList = v)) : Calls Tryd.prog 17 #[.string s] w fun e w' => e = .returned (.bool v) ∧ Below w.heap.size w w' := by
  rw [← h.out]; exact C.kw s w hs
end Go.Proofs.YtcohjleolidngaaDoor
