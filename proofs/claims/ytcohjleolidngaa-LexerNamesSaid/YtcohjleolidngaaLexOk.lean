/-
  What is asked of the code of layer 6: each exported function answers as its plain function says. The statements' walks take it as a premise; a text of its own proves it. No condition.
-/
import Derived.Test.YtcohjleolidngaaLexSpec
namespace Go.Proofs.Ytcohjleolidngaa
open Go.RowKit lex

structure LexOk : Prop where
  name : ∀ (s : ByteArray) (w : World), s.size ≤ maxLen → Calls Try.prog 8 #[.string s] w fun e w' => e = .returned (.bool (isNm s.data.toList)) ∧ Below w.heap.size w w'
  kw : ∀ (s : ByteArray) (w : World), s.size ≤ maxLen → Calls Try.prog 10 #[.string s] w fun e w' => e = .returned (.bool (isKw s.data.toList)) ∧ Below w.heap.size w w'
  quote : ∀ (s : ByteArray) (q : List UInt8) (e0 : Int) (w : World), s.size ≤ maxLen → Hid (quoE s.data.toList = (q, e0)) → Calls Try.prog 13 #[.string s] w fun e w' => e = .returned (.tuple #[.string (ba q), .int .i64 e0]) ∧ Below w.heap.size w w'
  tokenize : ∀ (s : ByteArray) (L : List Tok) (l0 e0 : Int) (w : World), s.size ≤ maxLen → Hid (tokE s.data.toList = (L, l0, e0)) → Calls Try.prog 15 #[.string s] w (TokOut L l0 e0 w)

theorem LexOk.name_of (C : LexOk) (s : ByteArray) (v : Bool) (w : World) (hs : s.size ≤ maxLen) (h : Hid (isNm s.data.toList = v)) : Calls Try.prog 8 #[.string s] w fun e w' => e = .returned (.bool v) ∧ Below w.heap.size w w' := by
  rw [← h.out]; exact C.name s w hs
theorem LexOk.kw_of (C : LexOk) (s : ByteArray) (v : Bool) (w : World) (hs : s.size ≤ maxLen) (h : Hid (isKw s.data.toList = v)) : Calls Try.prog 10 #[.string s] w fun e w' => e = .returned (.bool v) ∧ Below w.heap.size w w' := by
  rw [← h.out]; exact C.kw s w hs
end Go.Proofs.Ytcohjleolidngaa
