/-
  What the statements of layer 9 need of their rows: that the table of powers of ten reads as the library lays it, and a world in which all listed variables are laid. No condition.
-/
import Derived.Test.YtgccheiemnpaoaaGreatDoorCards
import Derived.Test.YtgccheiemnpaoaaGreatDoorTie
import Derived.Test.YtgccheiemnpaoaaGreatDoorMLv
import Derived.Test.YtgccheiemnpaoaaGreatDoorMNc
import Derived.Test.YtgccheiemnpaoaaGreatDoorRows
import Derived.ProofKit
import Derived.OpenShut
import Derived.ShutString
import Derived.Lib.SmallJoins
import Derived.LaidMore
import Derived.Lay
import Derived.SevenTiedAt
import Derived.Stop.Joined
namespace Go.Proofs.YtgccheiemnpaoaaGreatDoor
open Go.ChangeShapes Go.WideShapes Go.ChangeAt Go.RowKit

/-- The list of every row of this seat. -/
def laid5 : List (String × DataW Unit) := Rows.parserValidRow.laid

theorem tab_is {W : World} (h : laidMetH Tryz.prog laid5 W) : Tab W := by
  rw [MakeChecks.laidMetH_plain _ _ _ (by kernel_rfl)] at h
  obtain ⟨ps, ⟨g0, t0, cs0, fuel0, p0, q0, _, _, _, _, ⟨g1, t1, cs1, fuel1, p1, q1, _, _, _, _, ⟨g, t, cs, fuel, p, q, hg, ht, hv, hd, _, _⟩, _⟩, _⟩, _, _⟩ := h
  obtain rfl := Option.some.inj ((show Tryz.prog.globalNamed "internal/strconv.uint64pow10" = some 0 by kernel_rfl).symm.trans hg)
  obtain rfl := Option.some.inj ((show (Tryz.prog.globals[0]?).map (·.type) = some 143 by kernel_rfl).symm.trans ht)
  have e : (Rows.laid_internal_strconv_uint64pow10 : DataW Unit) = Lib.tabData .u64 Lib.pow10Tab := by kernel_rfl
  rw [e] at hd
  unfold Tab Lib.TabIs
  rw [hv, ← Lib.cells_of_tab Tryz.underlying143 Tryz.underlying114 (by kernel_rfl) (by kernel_rfl) hd]
end Go.Proofs.YtgccheiemnpaoaaGreatDoor
