/-
  What Format of layer 1 and of its reference return: both the same text, for every int. Conditions: the table of powers of ten holds what the library lays.
-/
import Derived.Test.YtmpjdlhigmofdaaText
namespace Go.Proofs.Ytmpjdlhigmofdaa
open Go.RowKit Go.Sort

/-- The text of n thousandths. -/
def fmtL (n : Int) : List UInt8 :=
  (if n < 0 then [45] else []) ++ Lib.decDigits (n.natAbs / 1000) ++ (if n.natAbs % 1000 = 0 then [] else 46 :: Lib.trimRightB ((Lib.decDigits (1000 + n.natAbs % 1000)).drop 1) 48)

end Go.Proofs.Ytmpjdlhigmofdaa
