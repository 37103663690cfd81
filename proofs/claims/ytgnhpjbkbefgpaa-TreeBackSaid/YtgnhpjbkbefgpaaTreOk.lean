/-
  What is asked of the code of layer 7: each exported function answers as its plain function says. The statements' walks take it as a premise; a text of its own proves it. No condition.
-/
import Derived.Test.YtgnhpjbkbefgpaaTreEqual
import Derived.Test.YtgnhpjbkbefgpaaTreSame
import Derived.Test.YtgnhpjbkbefgpaaTreDep
namespace Go.Proofs.Ytgnhpjbkbefgpaa.tre
open Go.RowKit lex

/-- The tree that Rename leaves. -/
def renO (T : Tr) (a b : List UInt8) : Tr := if renE T a b = 0 then renT a b T else ⟨[], false, []⟩
structure TreOk : Prop where
  valid : ∀ (v : Value) (T : Tr) (R : Int) (w : World), Hid (TrV w v T) → few T.body = true → Hid (validT T = R) → Calls Try.prog 10 #[v] w fun e w' => e = .returned (.int .i64 R) ∧ Below w.heap.size w w'
  count : ∀ (v : Value) (T : Tr) (w : World), Hid (TrV w v T) → few T.body = true → Calls Try.prog 12 #[v] w fun e w' => e = .returned (.int .i64 (cnt T.body : Int)) ∧ Below w.heap.size w w'
  depth : ∀ (v : Value) (T : Tr) (R : Int) (w : World), Hid (TrV w v T) → few T.body = true → Hid (depL (preL T.body 0) = R) → Calls Try.prog 11 #[v] w fun e w' => e = .returned (.int .i64 R) ∧ Below w.heap.size w w'
  names : ∀ (v : Value) (T : Tr) (L : List (List UInt8)) (w : World), Hid (TrV w v T) → few T.body = true → Hid (namesT T = L) → Calls Try.prog 17 #[v] w (NlOut L w)
  clusters : ∀ (v : Value) (T : Tr) (L : List (List UInt8)) (w : World), Hid (TrV w v T) → few T.body = true → Hid (clustersT T = L) → Calls Try.prog 19 #[v] w (NlOut L w)
  equal : ∀ (v v' : Value) (S T : Tr) (R : Bool) (w : World), Hid (TrV w v S) → Hid (TrV w v' T) → Hid (eqT S T = R) → Calls Try.prog 21 #[v, v'] w fun e w' => e = .returned (.bool R) ∧ Below w.heap.size w w'
  rename : ∀ (v : Value) (T : Tr) (a b : ByteArray) (E : Int) (w : World), Hid (TrV w v T) → few T.body = true → a.size ≤ maxLen → b.size ≤ maxLen → Hid (renE T a.data.toList b.data.toList = E) →
    Calls Try.prog 23 #[v, .string a, .string b] w fun e w' => ∃ rv, e = .returned (.tuple #[rv, .int .i64 E]) ∧ TrV w' rv (renO T a.data.toList b.data.toList) ∧ Below w.heap.size w w'
/-- What awake answers. -/
def Awake : Prop := ∀ w : World, Calls Try.prog 9 #[] w fun e w' => e = .returned (.bool true) ∧ Below w.heap.size w w'
/-- A tree in a block of its own stays. -/
theorem t_keep {W w w' : World} {b : Nat} {x : ByteArray} {d : Bool} {bv : Value} (h : Below W.heap.size W w ∧ w.cell? ⟨b, 0, none⟩ = some (.string x) ∧ w.cell? ⟨b, 1, none⟩ = some (.bool d) ∧ w.cell? ⟨b, 2, none⟩ = some bv) (hb : Below w.heap.size w w') :
    Below W.heap.size W w' ∧ w'.cell? ⟨b, 0, none⟩ = some (.string x) ∧ w'.cell? ⟨b, 1, none⟩ = some (.bool d) ∧ w'.cell? ⟨b, 2, none⟩ = some bv := ⟨below_keep hb h.1, cell_keep hb h.2.1, cell_keep hb h.2.2.1, cell_keep hb h.2.2.2⟩
end Go.Proofs.Ytgnhpjbkbefgpaa.tre
