/-
  What the statements of layer 12 need of their rows: a world in which the listed variables are laid, that the library's variable MaxLen holds a number, and how a tree and options come in. No condition.
-/
import Derived.Test.YtcdoicgbjoikkaaGreatDoorMcf
import Derived.Test.YtcdoicgbjoikkaaGreatDoorMpa
import Derived.Test.YtcdoicgbjoikkaaGreatDoorShelf
import Derived.Test.YtcdoicgbjoikkaaGreatDoorCards
import Derived.Test.YtcdoicgbjoikkaaGreatDoorTie
import Derived.Test.YtcdoicgbjoikkaaGreatDoorRows
import Derived.ProofKit
import Derived.OpenShut
import Derived.ShutString
import Derived.Lib.SmallJoins
import Derived.JoinedCond
import Derived.Deep.DeepHandedRow
import Derived.Lib.LaidTab
import Derived.LaidMore
import Derived.Lay
import Derived.SevenTiedAt
import Derived.Stop.Joined
namespace Go.Proofs.YtcdoicgbjoikkaaGreatDoor.nor
open Go.ChangeShapes Go.WideShapes Go.ChangeAt Go.RowKit Go.Joins lex tre att

/-- The list of every row of this seat. -/
def laidS : List (String × DataW Unit) := Rows.normalizeBuildsRow.laid
theorem mx_of {W : World} (h : W.ShapedOpen Tryz.prog) : Mx W := Tryz.laysM143.s1_3 W h
section
variable {H : Type} {enc : TypeId × Value → H} {w : World} {base : Nat} {spare : Nat → Bool} {held : Bool}
end
end Go.Proofs.YtcdoicgbjoikkaaGreatDoor.nor
