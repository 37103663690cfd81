/-
  The landed code of layer 6 answers as its plain functions say. No condition.
-/
import Derived.Test.YtcohjleolidngaaDoorLexOk
import Derived.Test.YtcohjleolidngaaDoorLexH
import Derived.Test.YtcohjleolidngaaDoorLexI
import Derived.Test.YtcohjleolidngaaDoorLexJ
namespace Go.Proofs.YtcohjleolidngaaDoor
open Go.RowKit lex

theorem lexOk : LexOk where
  name := isname_any
  kw := fun s w _ => (iskw_any s w).mono fun _ _ h => ⟨h.1, by rw [← h.2]; exact Below.refl _ _⟩
  quote := quote_any
  tokenize := tokenize_any
  join := join_any
end Go.Proofs.YtcohjleolidngaaDoor
