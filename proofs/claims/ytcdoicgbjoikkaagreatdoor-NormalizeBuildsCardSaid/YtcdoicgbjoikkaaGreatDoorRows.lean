/-
  NARROWER THAN 'FOR EVERY INPUT', by the rows' own cells (each row's printed sentence says how): NormalizeBuilds: loops, laid · NormalizeOptions: loops, laid · NormalizeValid: laid · NormalizeNames: loops, laid · NormalizeIgnores: loops, laid.
  DERIVED. THE GIVEN ROWS OF THIS SEAT. 5 by the template 'for every input the law returns true; each argument reads behind the call as it read before'; 0 by the template 'total and deterministic' (their statements: YtcdoicgbjoikkaaGreatDoorTotals.lean).
  GIVEN WITH THE SEED: the statements are not yours to turn. If you find one false, say at which input.
  Laid BY PROGRAM, IN A SANDBOX (cutbox-rows.mjs): the forced cells as the released guide's own fill.sh prints them over the translation bdc3de742f2fbb44… (all of the seat's roots in one cut). By AI agents, Wed Nov 11 2026. No macro, syntax, notation, axiom, sorry.
-/
import Derived.Test.YtcdoicgbjoikkaaGreatDoorChecked
import GoSem.PinnedTables
import GoSem.Claim
import GoSem.ClaimJoined
import GoSem.ClaimMapViews
import Derived.JoinedTies
import Derived.KernelRfl
namespace Go.Proofs.YtcdoicgbjoikkaaGreatDoor
/- THE CELL 'sum', in the pinned program and in every row, IS THE sha256 OF THE DUMP (.gsa) THAT YtcdoicgbjoikkaaGreatDoorProg.lean LOADS. Nothing in Lean hashes anything: it is a label: what it is worth is what the hold of that sum in a sandbox is worth. -/
noncomputable def Tryz.pinned : Pinned := { name := "ytcdoicgbjoikkaagreatdoor", sum := "bdc3de742f2fbb44a33163902b6b0e7c05017bc35ce2ad6b88fdfd1d56ddc1e4", checked := Tryz.checked }
namespace Rows
def none {H : Type} : Left H := { results := [], args := [] }

/- WHAT THE LISTED PACKAGE-LEVEL VARIABLES READ AS WHEN THE CALL BEGINS. Each datum BY PROGRAM (the guide's laid-datum.mjs) off the statement by which the dump's own 'gosem.cut.vars' lays the variable. In a bare row this is a premise. The card (YtcdoicgbjoikkaaGreatDoorCards.lean) ties it to the program's text. -/
def laid_unicode_utf8_acceptRanges {H : Type} : DataW H := .agg [.agg [.lit (.int .u8 128), .lit (.int .u8 191)], .agg [.lit (.int .u8 160), .lit (.int .u8 191)], .agg [.lit (.int .u8 128), .lit (.int .u8 159)], .agg [.lit (.int .u8 144), .lit (.int .u8 191)], .agg [.lit (.int .u8 128), .lit (.int .u8 143)], .agg [.lit (.int .u8 0), .lit (.int .u8 0)], .agg [.lit (.int .u8 0), .lit (.int .u8 0)], .agg [.lit (.int .u8 0), .lit (.int .u8 0)], .agg [.lit (.int .u8 0), .lit (.int .u8 0)], .agg [.lit (.int .u8 0), .lit (.int .u8 0)], .agg [.lit (.int .u8 0), .lit (.int .u8 0)], .agg [.lit (.int .u8 0), .lit (.int .u8 0)], .agg [.lit (.int .u8 0), .lit (.int .u8 0)], .agg [.lit (.int .u8 0), .lit (.int .u8 0)], .agg [.lit (.int .u8 0), .lit (.int .u8 0)], .agg [.lit (.int .u8 0), .lit (.int .u8 0)]]
/-- One of Go's own tables, pinned by name: the form's constant. -/
def laid_unicode_utf8_first : DataW Unit := Go.Pinned.utf8First

/-- 'layoutlaw12.NormalizeBuilds': WHATEVER THE INPUT: true; the input reads as it did. -/
def normalizeBuildsSpec : ChangeSpec := { name := "normalizeBuilds", fn := fun _ => fun
  | [d] => { results := [.lit (.bool true)], args := [d] }
  | _ => none }
def normalizeBuildsRow : OpenClaim := { program := "ytcdoicgbjoikkaagreatdoor", sum := "bdc3de742f2fbb44a33163902b6b0e7c05017bc35ce2ad6b88fdfd1d56ddc1e4", func := "layout/layoutlaw12.NormalizeBuilds", spec := "normalizeBuilds", inPlace := ["internal/bytealg.IndexByteString", "internal/bytealg.IndexString"], unfollowed := true, recurses := true, named := ["unicode/utf8.first", "unicode/utf8.acceptRanges", "internal/bytealg.MaxLen"], loops := true, plainKeys := false, apart := false, laid := [("unicode/utf8.acceptRanges", laid_unicode_utf8_acceptRanges), ("unicode/utf8.first", laid_unicode_utf8_first)] }
def NormalizeBuildsSaid : Prop := normalizeBuildsRow.holds Tryz.pinned (OpenSpec.ofChange normalizeBuildsSpec)

/-- ITS FALSE NEIGHBOUR: 'it returns false'. Refute it at one input. -/
def normalizeBuildsWrong : ChangeSpec := { name := "normalizeBuilds", fn := fun _ => fun
  | [d] => { results := [.lit (.bool false)], args := [d] }
  | _ => none }
def NormalizeBuildsWrongFalsely : Prop := normalizeBuildsRow.holds Tryz.pinned (OpenSpec.ofChange normalizeBuildsWrong)

/-- 'layoutlaw12.NormalizeOptions': WHATEVER THE INPUT: true; the input reads as it did. -/
def normalizeOptionsSpec : ChangeSpec := { name := "normalizeOptions", fn := fun _ => fun
  | [d] => { results := [.lit (.bool true)], args := [d] }
  | _ => none }
def normalizeOptionsRow : OpenClaim := { program := "ytcdoicgbjoikkaagreatdoor", sum := "bdc3de742f2fbb44a33163902b6b0e7c05017bc35ce2ad6b88fdfd1d56ddc1e4", func := "layout/layoutlaw12.NormalizeOptions", spec := "normalizeOptions", inPlace := ["internal/bytealg.IndexByteString", "internal/bytealg.IndexString"], unfollowed := true, recurses := true, named := ["unicode/utf8.first", "unicode/utf8.acceptRanges", "internal/bytealg.MaxLen"], loops := true, plainKeys := false, apart := false, laid := [("unicode/utf8.acceptRanges", laid_unicode_utf8_acceptRanges), ("unicode/utf8.first", laid_unicode_utf8_first)] }
def NormalizeOptionsSaid : Prop := normalizeOptionsRow.holds Tryz.pinned (OpenSpec.ofChange normalizeOptionsSpec)

/-- ITS FALSE NEIGHBOUR: 'it returns false'. Refute it at one input. -/
def normalizeOptionsWrong : ChangeSpec := { name := "normalizeOptions", fn := fun _ => fun
  | [d] => { results := [.lit (.bool false)], args := [d] }
  | _ => none }
def NormalizeOptionsWrongFalsely : Prop := normalizeOptionsRow.holds Tryz.pinned (OpenSpec.ofChange normalizeOptionsWrong)

/-- 'layoutlaw12.NormalizeValid': WHATEVER THE INPUT: true; the input reads as it did. -/
def normalizeValidSpec : ChangeSpec := { name := "normalizeValid", fn := fun _ => fun
  | [d] => { results := [.lit (.bool true)], args := [d] }
  | _ => none }
def normalizeValidRow : OpenClaim := { program := "ytcdoicgbjoikkaagreatdoor", sum := "bdc3de742f2fbb44a33163902b6b0e7c05017bc35ce2ad6b88fdfd1d56ddc1e4", func := "layout/layoutlaw12.NormalizeValid", spec := "normalizeValid", inPlace := ["internal/bytealg.IndexByteString", "internal/bytealg.IndexString"], unfollowed := true, recurses := true, named := ["unicode/utf8.first", "unicode/utf8.acceptRanges", "internal/bytealg.MaxLen"], plainKeys := false, apart := false, laid := [("unicode/utf8.acceptRanges", laid_unicode_utf8_acceptRanges), ("unicode/utf8.first", laid_unicode_utf8_first)] }
def NormalizeValidSaid : Prop := normalizeValidRow.holds Tryz.pinned (OpenSpec.ofChange normalizeValidSpec)

/-- ITS FALSE NEIGHBOUR: 'it returns false'. Refute it at one input. -/
def normalizeValidWrong : ChangeSpec := { name := "normalizeValid", fn := fun _ => fun
  | [d] => { results := [.lit (.bool false)], args := [d] }
  | _ => none }
def NormalizeValidWrongFalsely : Prop := normalizeValidRow.holds Tryz.pinned (OpenSpec.ofChange normalizeValidWrong)

/-- 'layoutlaw12.NormalizeNames': WHATEVER THE INPUT: true; the input reads as it did. -/
def normalizeNamesSpec : ChangeSpec := { name := "normalizeNames", fn := fun _ => fun
  | [d] => { results := [.lit (.bool true)], args := [d] }
  | _ => none }
def normalizeNamesRow : OpenClaim := { program := "ytcdoicgbjoikkaagreatdoor", sum := "bdc3de742f2fbb44a33163902b6b0e7c05017bc35ce2ad6b88fdfd1d56ddc1e4", func := "layout/layoutlaw12.NormalizeNames", spec := "normalizeNames", inPlace := ["internal/bytealg.IndexByteString", "internal/bytealg.IndexString"], unfollowed := true, recurses := true, named := ["unicode/utf8.first", "unicode/utf8.acceptRanges", "internal/bytealg.MaxLen"], loops := true, plainKeys := false, apart := false, laid := [("unicode/utf8.acceptRanges", laid_unicode_utf8_acceptRanges), ("unicode/utf8.first", laid_unicode_utf8_first)] }
def NormalizeNamesSaid : Prop := normalizeNamesRow.holds Tryz.pinned (OpenSpec.ofChange normalizeNamesSpec)

/-- ITS FALSE NEIGHBOUR: 'it returns false'. Refute it at one input. -/
def normalizeNamesWrong : ChangeSpec := { name := "normalizeNames", fn := fun _ => fun
  | [d] => { results := [.lit (.bool false)], args := [d] }
  | _ => none }
def NormalizeNamesWrongFalsely : Prop := normalizeNamesRow.holds Tryz.pinned (OpenSpec.ofChange normalizeNamesWrong)

/-- 'layoutlaw12.NormalizeIgnores': WHATEVER THE INPUT: true; the input reads as it did. -/
def normalizeIgnoresSpec : ChangeSpec := { name := "normalizeIgnores", fn := fun _ => fun
  | [d] => { results := [.lit (.bool true)], args := [d] }
  | _ => none }
def normalizeIgnoresRow : OpenClaim := { program := "ytcdoicgbjoikkaagreatdoor", sum := "bdc3de742f2fbb44a33163902b6b0e7c05017bc35ce2ad6b88fdfd1d56ddc1e4", func := "layout/layoutlaw12.NormalizeIgnores", spec := "normalizeIgnores", inPlace := ["internal/bytealg.IndexByteString", "internal/bytealg.IndexString"], unfollowed := true, recurses := true, named := ["unicode/utf8.first", "unicode/utf8.acceptRanges", "internal/bytealg.MaxLen"], loops := true, plainKeys := false, apart := false, laid := [("unicode/utf8.acceptRanges", laid_unicode_utf8_acceptRanges), ("unicode/utf8.first", laid_unicode_utf8_first)] }
def NormalizeIgnoresSaid : Prop := normalizeIgnoresRow.holds Tryz.pinned (OpenSpec.ofChange normalizeIgnoresSpec)

/-- ITS FALSE NEIGHBOUR: 'it returns false'. Refute it at one input. -/
def normalizeIgnoresWrong : ChangeSpec := { name := "normalizeIgnores", fn := fun _ => fun
  | [d] => { results := [.lit (.bool false)], args := [d] }
  | _ => none }
def NormalizeIgnoresWrongFalsely : Prop := normalizeIgnoresRow.holds Tryz.pinned (OpenSpec.ofChange normalizeIgnoresWrong)

/- THE SECOND FORM. 'bulk': how many values and letters a reading holds, each counted each time it is reached (what is shared counts as often as it is met; a slice's spare places count too). A statement '..UptoSaid' is the law's where the arguments, and the package variables that the reading takes, are together of bulk at most 1048576: NARROWER than '..Said'. Prove '..Said' where nothing that the law and all that it calls make is longer than what came in: it says more and counts as full. Else prove '..UptoSaid'. A law counts once. -/
mutual
def uptoBulk {H : Type} : DataW H → Nat
  | .lit (.string bytes) => bytes.length + 1
  | .lit _ => 1
  | .nil => 1
  | .ptr d => uptoBulk d + 1
  | .slice elems spare => uptoBulkAll elems + uptoBulkAll spare + 1
  | .agg parts => uptoBulkAll parts + 1
  | .iface _ d => uptoBulk d + 1
  | .map entries => uptoBulkEntries entries + 1
  | .held _ => 1
def uptoBulkAll {H : Type} : List (DataW H) → Nat
  | [] => 0
  | d :: r => uptoBulk d + uptoBulkAll r
def uptoBulkEntries {H : Type} : List (Lit × DataW H) → Nat
  | [] => 0
  | x :: r => uptoBulkEntry x + uptoBulkEntries r
def uptoBulkEntry {H : Type} : Lit × DataW H → Nat
  | (.string bytes, d) => bytes.length + uptoBulk d + 1
  | (_, d) => uptoBulk d + 1
 end
def uptoSmall : (H : Type) → List (DataW H) → Bool := fun _ ds => decide (uptoBulkAll ds ≤ 1048576)
def OpenSpec.upto (s : _root_.Go.ChangeSpec) : _root_.Go.OpenSpec := { _root_.Go.OpenSpec.ofChange s with cond := some uptoSmall }

/-- 'layoutlaw12.NormalizeBuilds', WHERE WHAT IT READS IS OF BULK AT MOST 1048576: true; the input reads as it did. -/
def normalizeBuildsUptoRow : OpenClaim := { program := "ytcdoicgbjoikkaagreatdoor", sum := "bdc3de742f2fbb44a33163902b6b0e7c05017bc35ce2ad6b88fdfd1d56ddc1e4", func := "layout/layoutlaw12.NormalizeBuilds", spec := "normalizeBuilds", inPlace := ["internal/bytealg.IndexByteString", "internal/bytealg.IndexString"], unfollowed := true, recurses := true, named := ["unicode/utf8.first", "unicode/utf8.acceptRanges", "internal/bytealg.MaxLen"], loops := true, plainKeys := false, apart := false, laid := [("unicode/utf8.acceptRanges", laid_unicode_utf8_acceptRanges), ("unicode/utf8.first", laid_unicode_utf8_first)], narrowed := true }
def NormalizeBuildsUptoSaid : Prop := normalizeBuildsUptoRow.holds Tryz.pinned (OpenSpec.upto normalizeBuildsSpec)

/-- 'layoutlaw12.NormalizeOptions', WHERE WHAT IT READS IS OF BULK AT MOST 1048576: true; the input reads as it did. -/
def normalizeOptionsUptoRow : OpenClaim := { program := "ytcdoicgbjoikkaagreatdoor", sum := "bdc3de742f2fbb44a33163902b6b0e7c05017bc35ce2ad6b88fdfd1d56ddc1e4", func := "layout/layoutlaw12.NormalizeOptions", spec := "normalizeOptions", inPlace := ["internal/bytealg.IndexByteString", "internal/bytealg.IndexString"], unfollowed := true, recurses := true, named := ["unicode/utf8.first", "unicode/utf8.acceptRanges", "internal/bytealg.MaxLen"], loops := true, plainKeys := false, apart := false, laid := [("unicode/utf8.acceptRanges", laid_unicode_utf8_acceptRanges), ("unicode/utf8.first", laid_unicode_utf8_first)], narrowed := true }
def NormalizeOptionsUptoSaid : Prop := normalizeOptionsUptoRow.holds Tryz.pinned (OpenSpec.upto normalizeOptionsSpec)

/-- 'layoutlaw12.NormalizeValid', WHERE WHAT IT READS IS OF BULK AT MOST 1048576: true; the input reads as it did. -/
def normalizeValidUptoRow : OpenClaim := { program := "ytcdoicgbjoikkaagreatdoor", sum := "bdc3de742f2fbb44a33163902b6b0e7c05017bc35ce2ad6b88fdfd1d56ddc1e4", func := "layout/layoutlaw12.NormalizeValid", spec := "normalizeValid", inPlace := ["internal/bytealg.IndexByteString", "internal/bytealg.IndexString"], unfollowed := true, recurses := true, named := ["unicode/utf8.first", "unicode/utf8.acceptRanges", "internal/bytealg.MaxLen"], plainKeys := false, apart := false, laid := [("unicode/utf8.acceptRanges", laid_unicode_utf8_acceptRanges), ("unicode/utf8.first", laid_unicode_utf8_first)], narrowed := true }
def NormalizeValidUptoSaid : Prop := normalizeValidUptoRow.holds Tryz.pinned (OpenSpec.upto normalizeValidSpec)

/-- 'layoutlaw12.NormalizeNames', WHERE WHAT IT READS IS OF BULK AT MOST 1048576: true; the input reads as it did. -/
def normalizeNamesUptoRow : OpenClaim := { program := "ytcdoicgbjoikkaagreatdoor", sum := "bdc3de742f2fbb44a33163902b6b0e7c05017bc35ce2ad6b88fdfd1d56ddc1e4", func := "layout/layoutlaw12.NormalizeNames", spec := "normalizeNames", inPlace := ["internal/bytealg.IndexByteString", "internal/bytealg.IndexString"], unfollowed := true, recurses := true, named := ["unicode/utf8.first", "unicode/utf8.acceptRanges", "internal/bytealg.MaxLen"], loops := true, plainKeys := false, apart := false, laid := [("unicode/utf8.acceptRanges", laid_unicode_utf8_acceptRanges), ("unicode/utf8.first", laid_unicode_utf8_first)], narrowed := true }
def NormalizeNamesUptoSaid : Prop := normalizeNamesUptoRow.holds Tryz.pinned (OpenSpec.upto normalizeNamesSpec)

/-- 'layoutlaw12.NormalizeIgnores', WHERE WHAT IT READS IS OF BULK AT MOST 1048576: true; the input reads as it did. -/
def normalizeIgnoresUptoRow : OpenClaim := { program := "ytcdoicgbjoikkaagreatdoor", sum := "bdc3de742f2fbb44a33163902b6b0e7c05017bc35ce2ad6b88fdfd1d56ddc1e4", func := "layout/layoutlaw12.NormalizeIgnores", spec := "normalizeIgnores", inPlace := ["internal/bytealg.IndexByteString", "internal/bytealg.IndexString"], unfollowed := true, recurses := true, named := ["unicode/utf8.first", "unicode/utf8.acceptRanges", "internal/bytealg.MaxLen"], loops := true, plainKeys := false, apart := false, laid := [("unicode/utf8.acceptRanges", laid_unicode_utf8_acceptRanges), ("unicode/utf8.first", laid_unicode_utf8_first)], narrowed := true }
def NormalizeIgnoresUptoSaid : Prop := normalizeIgnoresUptoRow.holds Tryz.pinned (OpenSpec.upto normalizeIgnoresSpec)

end Rows
end Go.Proofs.YtcdoicgbjoikkaaGreatDoor
