/-
  What the small functions of layer 3 and of its reference return: corners, Valid, hasInterior, isSize, middle, Point, Down. Conditions: arguments are ints; no other.
-/
import Derived.Test.YtllhdalfhhjigaaGeoApi
import Derived.Test.YtllhdalfhhjigaaBoxPlain
import Derived.Laws.StructEq
namespace Go.Proofs.Ytllhdalfhhjigaa
open Go.RowKit






theorem tdiv2 (n : Int) (h : n < 0) : n.tdiv 2 = -((-n) / 2) := by
  rw [show n = -(-n) by omega, Int.neg_tdiv, Int.tdiv_eq_ediv_of_nonneg (by omega)]; omega
theorem tmod2 (n : Int) (h : n < 0) : n.tmod 2 = -((-n) % 2) := by
  rw [show n = -(-n) by omega, Int.neg_tmod, Int.tmod_eq_emod_of_nonneg (by omega)]; omega
end Go.Proofs.Ytllhdalfhhjigaa
