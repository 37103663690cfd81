/-
  NARROWER THAN 'FOR EVERY INPUT', by the rows' own cells (each row's printed sentence says how): AttrsChecks: laid · AttrsMerges: laid · AttrsNumbers: laid · AttrsPorts: laid · AttrsJoins: laid · AttrsAccepted: laid.
  DERIVED. THE GIVEN ROWS OF THIS SEAT. 6 by the template 'for every input the law returns true; each argument reads behind the call as it read before'; 0 by the template 'total and deterministic' (their statements: YthcglcnhdgeaeaaDoorTotals.lean).
  GIVEN WITH THE SEED: the statements are not yours to turn. If you find one false, say at which input.
  Laid BY PROGRAM, IN A SANDBOX (cutbox-rows.mjs): the forced cells as the released guide's own fill.sh prints them over the translation 503379b902eaf847… (all of the seat's roots in one cut). By AI agents, Wed Nov 11 2026. No macro, syntax, notation, axiom, sorry.
-/
import Derived.Test.YthcglcnhdgeaeaaDoorChecked
import GoSem.PinnedTables
import GoSem.Claim
import GoSem.ClaimJoined
import GoSem.ClaimMapViews
import Derived.JoinedTies
import Derived.KernelRfl
namespace Go.Proofs.YthcglcnhdgeaeaaDoor
/- THE CELL 'sum', in the pinned program and in every row, IS THE sha256 OF THE DUMP (.gsa) THAT YthcglcnhdgeaeaaDoorProg.lean LOADS. Nothing in Lean hashes anything: it is a label: what it is worth is what the hold of that sum in a sandbox is worth. -/
noncomputable def Tryd.pinned : Pinned := { name := "ythcglcnhdgeaeaadoor", sum := "503379b902eaf847a0caaf8c443369c70f0a9c8283c1514839bff6f38001f51f", checked := Tryd.checked }
namespace Rows
def none {H : Type} : Left H := { results := [], args := [] }

/- WHAT THE LISTED PACKAGE-LEVEL VARIABLES READ AS WHEN THE CALL BEGINS. Each datum BY PROGRAM (the guide's laid-datum.mjs) off the statement by which the dump's own 'gosem.cut.vars' lays the variable. In a bare row this is a premise. The card (YthcglcnhdgeaeaaDoorCards.lean) ties it to the program's text. -/
def laid_unicode_utf8_acceptRanges {H : Type} : DataW H := .agg [.agg [.lit (.int .u8 128), .lit (.int .u8 191)], .agg [.lit (.int .u8 160), .lit (.int .u8 191)], .agg [.lit (.int .u8 128), .lit (.int .u8 159)], .agg [.lit (.int .u8 144), .lit (.int .u8 191)], .agg [.lit (.int .u8 128), .lit (.int .u8 143)], .agg [.lit (.int .u8 0), .lit (.int .u8 0)], .agg [.lit (.int .u8 0), .lit (.int .u8 0)], .agg [.lit (.int .u8 0), .lit (.int .u8 0)], .agg [.lit (.int .u8 0), .lit (.int .u8 0)], .agg [.lit (.int .u8 0), .lit (.int .u8 0)], .agg [.lit (.int .u8 0), .lit (.int .u8 0)], .agg [.lit (.int .u8 0), .lit (.int .u8 0)], .agg [.lit (.int .u8 0), .lit (.int .u8 0)], .agg [.lit (.int .u8 0), .lit (.int .u8 0)], .agg [.lit (.int .u8 0), .lit (.int .u8 0)], .agg [.lit (.int .u8 0), .lit (.int .u8 0)]]
/-- One of Go's own tables, pinned by name: the form's constant. -/
def laid_unicode_utf8_first : DataW Unit := Go.Pinned.utf8First

/-- 'layoutlaw10.AttrsChecks': WHATEVER THE INPUT: true; the input reads as it did. -/
def attrsChecksSpec : ChangeSpec := { name := "attrsChecks", fn := fun _ => fun
  | [d1, d2] => { results := [.lit (.bool true)], args := [d1, d2] }
  | _ => none }
def attrsChecksRow : OpenClaim := { program := "ythcglcnhdgeaeaadoor", sum := "503379b902eaf847a0caaf8c443369c70f0a9c8283c1514839bff6f38001f51f", func := "layout/layoutlaw10.AttrsChecks", spec := "attrsChecks", inPlace := ["internal/bytealg.IndexByteString", "internal/bytealg.IndexString"], unfollowed := true, recurses := true, named := ["unicode/utf8.first", "unicode/utf8.acceptRanges", "internal/bytealg.MaxLen"], apart := false, laid := [("unicode/utf8.acceptRanges", laid_unicode_utf8_acceptRanges), ("unicode/utf8.first", laid_unicode_utf8_first)] }
def AttrsChecksSaid : Prop := attrsChecksRow.holds Tryd.pinned (OpenSpec.ofChange attrsChecksSpec)

/-- ITS FALSE NEIGHBOUR: 'it returns false'. Refute it at one input. -/
def attrsChecksWrong : ChangeSpec := { name := "attrsChecks", fn := fun _ => fun
  | [d1, d2] => { results := [.lit (.bool false)], args := [d1, d2] }
  | _ => none }
def AttrsChecksWrongFalsely : Prop := attrsChecksRow.holds Tryd.pinned (OpenSpec.ofChange attrsChecksWrong)

/-- 'layoutlaw10.AttrsMerges': WHATEVER THE INPUT: true; the input reads as it did. -/
def attrsMergesSpec : ChangeSpec := { name := "attrsMerges", fn := fun _ => fun
  | [d1, d2, d3] => { results := [.lit (.bool true)], args := [d1, d2, d3] }
  | _ => none }
def attrsMergesRow : OpenClaim := { program := "ythcglcnhdgeaeaadoor", sum := "503379b902eaf847a0caaf8c443369c70f0a9c8283c1514839bff6f38001f51f", func := "layout/layoutlaw10.AttrsMerges", spec := "attrsMerges", inPlace := ["internal/bytealg.IndexByteString", "internal/bytealg.IndexString"], unfollowed := true, recurses := true, named := ["unicode/utf8.first", "unicode/utf8.acceptRanges", "internal/bytealg.MaxLen"], apart := false, laid := [("unicode/utf8.acceptRanges", laid_unicode_utf8_acceptRanges), ("unicode/utf8.first", laid_unicode_utf8_first)] }
def AttrsMergesSaid : Prop := attrsMergesRow.holds Tryd.pinned (OpenSpec.ofChange attrsMergesSpec)

/-- ITS FALSE NEIGHBOUR: 'it returns false'. Refute it at one input. -/
def attrsMergesWrong : ChangeSpec := { name := "attrsMerges", fn := fun _ => fun
  | [d1, d2, d3] => { results := [.lit (.bool false)], args := [d1, d2, d3] }
  | _ => none }
def AttrsMergesWrongFalsely : Prop := attrsMergesRow.holds Tryd.pinned (OpenSpec.ofChange attrsMergesWrong)

/-- 'layoutlaw10.AttrsNumbers': WHATEVER THE INPUT: true; the input reads as it did. -/
def attrsNumbersSpec : ChangeSpec := { name := "attrsNumbers", fn := fun _ => fun
  | [d1, d2, d3] => { results := [.lit (.bool true)], args := [d1, d2, d3] }
  | _ => none }
def attrsNumbersRow : OpenClaim := { program := "ythcglcnhdgeaeaadoor", sum := "503379b902eaf847a0caaf8c443369c70f0a9c8283c1514839bff6f38001f51f", func := "layout/layoutlaw10.AttrsNumbers", spec := "attrsNumbers", inPlace := ["internal/bytealg.IndexByteString", "internal/bytealg.IndexString"], unfollowed := true, recurses := true, named := ["unicode/utf8.first", "unicode/utf8.acceptRanges", "internal/bytealg.MaxLen"], apart := false, laid := [("unicode/utf8.acceptRanges", laid_unicode_utf8_acceptRanges), ("unicode/utf8.first", laid_unicode_utf8_first)] }
def AttrsNumbersSaid : Prop := attrsNumbersRow.holds Tryd.pinned (OpenSpec.ofChange attrsNumbersSpec)

/-- ITS FALSE NEIGHBOUR: 'it returns false'. Refute it at one input. -/
def attrsNumbersWrong : ChangeSpec := { name := "attrsNumbers", fn := fun _ => fun
  | [d1, d2, d3] => { results := [.lit (.bool false)], args := [d1, d2, d3] }
  | _ => none }
def AttrsNumbersWrongFalsely : Prop := attrsNumbersRow.holds Tryd.pinned (OpenSpec.ofChange attrsNumbersWrong)

/-- 'layoutlaw10.AttrsPorts': WHATEVER THE INPUT: true; the input reads as it did. -/
def attrsPortsSpec : ChangeSpec := { name := "attrsPorts", fn := fun _ => fun
  | [d] => { results := [.lit (.bool true)], args := [d] }
  | _ => none }
def attrsPortsRow : OpenClaim := { program := "ythcglcnhdgeaeaadoor", sum := "503379b902eaf847a0caaf8c443369c70f0a9c8283c1514839bff6f38001f51f", func := "layout/layoutlaw10.AttrsPorts", spec := "attrsPorts", inPlace := ["internal/bytealg.IndexByteString", "internal/bytealg.IndexString"], unfollowed := true, recurses := true, named := ["unicode/utf8.first", "unicode/utf8.acceptRanges", "internal/bytealg.MaxLen"], apart := false, laid := [("unicode/utf8.acceptRanges", laid_unicode_utf8_acceptRanges), ("unicode/utf8.first", laid_unicode_utf8_first)] }
def AttrsPortsSaid : Prop := attrsPortsRow.holds Tryd.pinned (OpenSpec.ofChange attrsPortsSpec)

/-- ITS FALSE NEIGHBOUR: 'it returns false'. Refute it at one input. -/
def attrsPortsWrong : ChangeSpec := { name := "attrsPorts", fn := fun _ => fun
  | [d] => { results := [.lit (.bool false)], args := [d] }
  | _ => none }
def AttrsPortsWrongFalsely : Prop := attrsPortsRow.holds Tryd.pinned (OpenSpec.ofChange attrsPortsWrong)

/-- 'layoutlaw10.AttrsJoins': WHATEVER THE INPUT: true; the input reads as it did. -/
def attrsJoinsSpec : ChangeSpec := { name := "attrsJoins", fn := fun _ => fun
  | [d1, d2, d3] => { results := [.lit (.bool true)], args := [d1, d2, d3] }
  | _ => none }
def attrsJoinsRow : OpenClaim := { program := "ythcglcnhdgeaeaadoor", sum := "503379b902eaf847a0caaf8c443369c70f0a9c8283c1514839bff6f38001f51f", func := "layout/layoutlaw10.AttrsJoins", spec := "attrsJoins", inPlace := ["internal/bytealg.IndexByteString", "internal/bytealg.IndexString"], unfollowed := true, recurses := true, named := ["unicode/utf8.first", "unicode/utf8.acceptRanges", "internal/bytealg.MaxLen"], apart := false, laid := [("unicode/utf8.acceptRanges", laid_unicode_utf8_acceptRanges), ("unicode/utf8.first", laid_unicode_utf8_first)] }
def AttrsJoinsSaid : Prop := attrsJoinsRow.holds Tryd.pinned (OpenSpec.ofChange attrsJoinsSpec)

/-- ITS FALSE NEIGHBOUR: 'it returns false'. Refute it at one input. -/
def attrsJoinsWrong : ChangeSpec := { name := "attrsJoins", fn := fun _ => fun
  | [d1, d2, d3] => { results := [.lit (.bool false)], args := [d1, d2, d3] }
  | _ => none }
def AttrsJoinsWrongFalsely : Prop := attrsJoinsRow.holds Tryd.pinned (OpenSpec.ofChange attrsJoinsWrong)

/-- 'layoutlaw10.AttrsAccepted': WHATEVER THE INPUT: true; the input reads as it did. -/
def attrsAcceptedSpec : ChangeSpec := { name := "attrsAccepted", fn := fun _ => fun
  | [d1, d2, d3] => { results := [.lit (.bool true)], args := [d1, d2, d3] }
  | _ => none }
def attrsAcceptedRow : OpenClaim := { program := "ythcglcnhdgeaeaadoor", sum := "503379b902eaf847a0caaf8c443369c70f0a9c8283c1514839bff6f38001f51f", func := "layout/layoutlaw10.AttrsAccepted", spec := "attrsAccepted", inPlace := ["internal/bytealg.IndexByteString", "internal/bytealg.IndexString"], unfollowed := true, recurses := true, named := ["unicode/utf8.first", "unicode/utf8.acceptRanges", "internal/bytealg.MaxLen"], apart := false, laid := [("unicode/utf8.acceptRanges", laid_unicode_utf8_acceptRanges), ("unicode/utf8.first", laid_unicode_utf8_first)] }
def AttrsAcceptedSaid : Prop := attrsAcceptedRow.holds Tryd.pinned (OpenSpec.ofChange attrsAcceptedSpec)

/-- ITS FALSE NEIGHBOUR: 'it returns false'. Refute it at one input. -/
def attrsAcceptedWrong : ChangeSpec := { name := "attrsAccepted", fn := fun _ => fun
  | [d1, d2, d3] => { results := [.lit (.bool false)], args := [d1, d2, d3] }
  | _ => none }
def AttrsAcceptedWrongFalsely : Prop := attrsAcceptedRow.holds Tryd.pinned (OpenSpec.ofChange attrsAcceptedWrong)

/- THE SECOND FORM. 'bulk': how many values and letters a reading holds, each counted each time it is reached (what is shared counts as often as it is met; a slice's spare places count too). A statement '..UptoSaid' is the law's where the arguments, and the package variables that the reading takes, are together of bulk at most 1048576: NARROWER than '..Said'. Prove '..Said' where nothing that the law and all that it calls make is longer than what came in: it says more and counts as full. Else prove '..UptoSaid'. A law counts once. -/
mutual
def uptoBulk {H : Type} : DataW H → Nat
  | .lit (.string bytes) => bytes.length + 1
  | .lit _ => 1
  | .nil => 1
  | .ptr d => uptoBulk d + 1
  | .slice elems spare => uptoBulkAll elems + uptoBulkAll spare + 1
  | .agg parts => uptoBulkAll parts + 1
  | .iface _ d => uptoBulk d + 1
  | .map entries => uptoBulkEntries entries + 1
  | .held _ => 1
def uptoBulkAll {H : Type} : List (DataW H) → Nat
  | [] => 0
  | d :: r => uptoBulk d + uptoBulkAll r
def uptoBulkEntries {H : Type} : List (Lit × DataW H) → Nat
  | [] => 0
  | x :: r => uptoBulkEntry x + uptoBulkEntries r
def uptoBulkEntry {H : Type} : Lit × DataW H → Nat
  | (.string bytes, d) => bytes.length + uptoBulk d + 1
  | (_, d) => uptoBulk d + 1
 end
def uptoSmall : (H : Type) → List (DataW H) → Bool := fun _ ds => decide (uptoBulkAll ds ≤ 1048576)
def OpenSpec.upto (s : _root_.Go.ChangeSpec) : _root_.Go.OpenSpec := { _root_.Go.OpenSpec.ofChange s with cond := some uptoSmall }

/-- 'layoutlaw10.AttrsChecks', WHERE WHAT IT READS IS OF BULK AT MOST 1048576: true; the input reads as it did. -/
def attrsChecksUptoRow : OpenClaim := { program := "ythcglcnhdgeaeaadoor", sum := "503379b902eaf847a0caaf8c443369c70f0a9c8283c1514839bff6f38001f51f", func := "layout/layoutlaw10.AttrsChecks", spec := "attrsChecks", inPlace := ["internal/bytealg.IndexByteString", "internal/bytealg.IndexString"], unfollowed := true, recurses := true, named := ["unicode/utf8.first", "unicode/utf8.acceptRanges", "internal/bytealg.MaxLen"], apart := false, laid := [("unicode/utf8.acceptRanges", laid_unicode_utf8_acceptRanges), ("unicode/utf8.first", laid_unicode_utf8_first)], narrowed := true }
def AttrsChecksUptoSaid : Prop := attrsChecksUptoRow.holds Tryd.pinned (OpenSpec.upto attrsChecksSpec)

/-- 'layoutlaw10.AttrsMerges', WHERE WHAT IT READS IS OF BULK AT MOST 1048576: true; the input reads as it did. -/
def attrsMergesUptoRow : OpenClaim := { program := "ythcglcnhdgeaeaadoor", sum := "503379b902eaf847a0caaf8c443369c70f0a9c8283c1514839bff6f38001f51f", func := "layout/layoutlaw10.AttrsMerges", spec := "attrsMerges", inPlace := ["internal/bytealg.IndexByteString", "internal/bytealg.IndexString"], unfollowed := true, recurses := true, named := ["unicode/utf8.first", "unicode/utf8.acceptRanges", "internal/bytealg.MaxLen"], apart := false, laid := [("unicode/utf8.acceptRanges", laid_unicode_utf8_acceptRanges), ("unicode/utf8.first", laid_unicode_utf8_first)], narrowed := true }
def AttrsMergesUptoSaid : Prop := attrsMergesUptoRow.holds Tryd.pinned (OpenSpec.upto attrsMergesSpec)

/-- 'layoutlaw10.AttrsNumbers', WHERE WHAT IT READS IS OF BULK AT MOST 1048576: true; the input reads as it did. -/
def attrsNumbersUptoRow : OpenClaim := { program := "ythcglcnhdgeaeaadoor", sum := "503379b902eaf847a0caaf8c443369c70f0a9c8283c1514839bff6f38001f51f", func := "layout/layoutlaw10.AttrsNumbers", spec := "attrsNumbers", inPlace := ["internal/bytealg.IndexByteString", "internal/bytealg.IndexString"], unfollowed := true, recurses := true, named := ["unicode/utf8.first", "unicode/utf8.acceptRanges", "internal/bytealg.MaxLen"], apart := false, laid := [("unicode/utf8.acceptRanges", laid_unicode_utf8_acceptRanges), ("unicode/utf8.first", laid_unicode_utf8_first)], narrowed := true }
def AttrsNumbersUptoSaid : Prop := attrsNumbersUptoRow.holds Tryd.pinned (OpenSpec.upto attrsNumbersSpec)

/-- 'layoutlaw10.AttrsPorts', WHERE WHAT IT READS IS OF BULK AT MOST 1048576: true; the input reads as it did. -/
def attrsPortsUptoRow : OpenClaim := { program := "ythcglcnhdgeaeaadoor", sum := "503379b902eaf847a0caaf8c443369c70f0a9c8283c1514839bff6f38001f51f", func := "layout/layoutlaw10.AttrsPorts", spec := "attrsPorts", inPlace := ["internal/bytealg.IndexByteString", "internal/bytealg.IndexString"], unfollowed := true, recurses := true, named := ["unicode/utf8.first", "unicode/utf8.acceptRanges", "internal/bytealg.MaxLen"], apart := false, laid := [("unicode/utf8.acceptRanges", laid_unicode_utf8_acceptRanges), ("unicode/utf8.first", laid_unicode_utf8_first)], narrowed := true }
def AttrsPortsUptoSaid : Prop := attrsPortsUptoRow.holds Tryd.pinned (OpenSpec.upto attrsPortsSpec)

/-- 'layoutlaw10.AttrsJoins', WHERE WHAT IT READS IS OF BULK AT MOST 1048576: true; the input reads as it did. -/
def attrsJoinsUptoRow : OpenClaim := { program := "ythcglcnhdgeaeaadoor", sum := "503379b902eaf847a0caaf8c443369c70f0a9c8283c1514839bff6f38001f51f", func := "layout/layoutlaw10.AttrsJoins", spec := "attrsJoins", inPlace := ["internal/bytealg.IndexByteString", "internal/bytealg.IndexString"], unfollowed := true, recurses := true, named := ["unicode/utf8.first", "unicode/utf8.acceptRanges", "internal/bytealg.MaxLen"], apart := false, laid := [("unicode/utf8.acceptRanges", laid_unicode_utf8_acceptRanges), ("unicode/utf8.first", laid_unicode_utf8_first)], narrowed := true }
def AttrsJoinsUptoSaid : Prop := attrsJoinsUptoRow.holds Tryd.pinned (OpenSpec.upto attrsJoinsSpec)

/-- 'layoutlaw10.AttrsAccepted', WHERE WHAT IT READS IS OF BULK AT MOST 1048576: true; the input reads as it did. -/
def attrsAcceptedUptoRow : OpenClaim := { program := "ythcglcnhdgeaeaadoor", sum := "503379b902eaf847a0caaf8c443369c70f0a9c8283c1514839bff6f38001f51f", func := "layout/layoutlaw10.AttrsAccepted", spec := "attrsAccepted", inPlace := ["internal/bytealg.IndexByteString", "internal/bytealg.IndexString"], unfollowed := true, recurses := true, named := ["unicode/utf8.first", "unicode/utf8.acceptRanges", "internal/bytealg.MaxLen"], apart := false, laid := [("unicode/utf8.acceptRanges", laid_unicode_utf8_acceptRanges), ("unicode/utf8.first", laid_unicode_utf8_first)], narrowed := true }
def AttrsAcceptedUptoSaid : Prop := attrsAcceptedUptoRow.holds Tryd.pinned (OpenSpec.upto attrsAcceptedSpec)

end Rows
end Go.Proofs.YthcglcnhdgeaeaaDoor
