/-
  What every statement of layer 6 needs of its row. No condition.
-/
import Derived.Test.YtcohjleolidngaaLexAwake
import Derived.Test.YtcohjleolidngaaRows
import Derived.ProofKit
import Derived.OpenShut
import Derived.ShutString
import Derived.Lib.SmallJoins
namespace Go.Proofs.Ytcohjleolidngaa
open Go.ChangeShapes Go.WideShapes Go.ChangeAt Go.RowKit

theorem own : ownKnob Try.prog.godebug = none := by kernel_rfl
end Go.Proofs.Ytcohjleolidngaa
