/-
  What Same of the reference of layer 6 returns for two slices of the same tokens; comparing a token with itself. No condition.
-/
import Derived.Test.YtcohjleolidngaaDoorLexEq
import Derived.Laws.StructEq
import Derived.Deep.QuietTactic
namespace Go.Proofs.YtcohjleolidngaaDoor
open Go.RowKit lex

theorem below_drewT (w : World) (n : Nat) : Below w.heap.size w (w.drewN n) := ⟨rfl, rfl, rfl, Nat.le_refl _, fun _ _ => rfl⟩
end Go.Proofs.YtcohjleolidngaaDoor
