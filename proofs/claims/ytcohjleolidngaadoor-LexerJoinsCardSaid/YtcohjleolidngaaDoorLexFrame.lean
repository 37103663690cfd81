/-
  What every statement of layer 6 needs of its row. No condition.
-/
import Derived.Test.YtcohjleolidngaaDoorLexAwake
import Derived.Test.YtcohjleolidngaaDoorRows
import Derived.ProofKit
import Derived.OpenShut
import Derived.ShutString
import Derived.Lib.SmallJoins
namespace Go.Proofs.YtcohjleolidngaaDoor
open Go.ChangeShapes Go.WideShapes Go.ChangeAt Go.RowKit

theorem own : ownKnob Tryd.prog.godebug = none := by kernel_rfl
end Go.Proofs.YtcohjleolidngaaDoor
