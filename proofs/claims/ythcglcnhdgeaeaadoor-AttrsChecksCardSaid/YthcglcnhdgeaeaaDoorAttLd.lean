/-
  What the statements of layer 10 need of their rows: a world in which the listed variables are laid, and that the library's variable MaxLen holds a number. No condition.
-/
import Derived.Test.YthcglcnhdgeaeaaDoorMAf
import Derived.Test.YthcglcnhdgeaeaaDoorShelf
import Derived.Test.YthcglcnhdgeaeaaDoorCards
import Derived.Test.YthcglcnhdgeaeaaDoorTie
import Derived.Test.YthcglcnhdgeaeaaDoorRows
import Derived.ProofKit
import Derived.OpenShut
import Derived.ShutString
import Derived.Lib.SmallJoins
import Derived.JoinedCond
import Derived.Deep.DeepHandedRow
import Derived.Lib.LaidTab
import Derived.LaidMore
import Derived.Lay
import Derived.SevenTiedAt
import Derived.Stop.Joined
namespace Go.Proofs.YthcglcnhdgeaeaaDoor.att
open Go.ChangeShapes Go.WideShapes Go.ChangeAt Go.RowKit

/-- The list of every row of this seat. -/
def laidS : List (String × DataW Unit) := Rows.attrsPortsRow.laid
theorem mx_of {W : World} (h : W.ShapedOpen Tryd.prog) : Mx W := Tryd.laysM143.s1_3 W h
end Go.Proofs.YthcglcnhdgeaeaaDoor.att
