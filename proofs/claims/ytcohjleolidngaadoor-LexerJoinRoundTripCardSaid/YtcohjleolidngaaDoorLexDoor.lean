/-
  What the statements of layer 6 that read Go's tables need of their rows: that the table of powers of ten reads as the library lays it, and a world in which all listed variables are laid. No condition.
-/
import Derived.Test.YtcohjleolidngaaDoorCards
import Derived.Test.YtcohjleolidngaaDoorTie
import Derived.Test.YtcohjleolidngaaDoorLexFrame
import Derived.LaidMore
import Derived.Lay
import Derived.SevenTiedAt
import Derived.Stop.Joined
namespace Go.Proofs.YtcohjleolidngaaDoor
open Go.ChangeShapes Go.WideShapes Go.ChangeAt Go.RowKit

/-- The list of every row of this seat. -/
def laid5 : List (String × DataW Unit) := Rows.lexerJoinsRow.laid

theorem tab_is {W : World} (h : laidMetH Tryd.prog laid5 W) : Tab W := by
  rw [MakeChecks.laidMetH_plain _ _ _ (by kernel_rfl)] at h
  obtain ⟨ps, ⟨g0, t0, cs0, fuel0, p0, q0, _, _, _, _, ⟨g1, t1, cs1, fuel1, p1, q1, _, _, _, _, ⟨g, t, cs, fuel, p, q, hg, ht, hv, hd, _, _⟩, _⟩, _⟩, _, _⟩ := h
  obtain rfl := Option.some.inj ((show Tryd.prog.globalNamed "internal/strconv.uint64pow10" = some 0 by kernel_rfl).symm.trans hg)
  obtain rfl := Option.some.inj ((show (Tryd.prog.globals[0]?).map (·.type) = some 81 by kernel_rfl).symm.trans ht)
  have e : (Rows.laid_internal_strconv_uint64pow10 : DataW Unit) = Lib.tabData .u64 Lib.pow10Tab := by kernel_rfl
  rw [e] at hd
  unfold Tab Lib.TabIs
  rw [hv, ← Lib.cells_of_tab Tryd.underlying81 Tryd.underlying47 (by kernel_rfl) (by kernel_rfl) hd]
end Go.Proofs.YtcohjleolidngaaDoor
