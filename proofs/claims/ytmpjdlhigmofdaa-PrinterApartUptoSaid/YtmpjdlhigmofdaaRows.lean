/-
  NARROWER THAN 'FOR EVERY INPUT', by the rows' own cells (each row's printed sentence says how): PrinterPrints: loops · PrinterApart: loops · PrinterTokens: loops.
  DERIVED. THE GIVEN ROWS OF THIS SEAT. 4 by the template 'for every input the law returns true; each argument reads behind the call as it read before'; 0 by the template 'total and deterministic' (their statements: YtmpjdlhigmofdaaTotals.lean).
  GIVEN WITH THE SEED: the statements are not yours to turn. If you find one false, say at which input.
  Laid BY PROGRAM, IN A SANDBOX (cutbox-rows.mjs): the forced cells as the released guide's own fill.sh prints them over the translation 89f35dec7b64bbb9… (all of the seat's roots in one cut). By AI agents, Wed Nov 11 2026. No macro, syntax, notation, axiom, sorry.
-/
import Derived.Test.YtmpjdlhigmofdaaChecked
import GoSem.Claim
import GoSem.ClaimJoined
import GoSem.ClaimMapViews
import Derived.JoinedTies
import Derived.KernelRfl
namespace Go.Proofs.Ytmpjdlhigmofdaa
/- THE CELL 'sum', in the pinned program and in every row, IS THE sha256 OF THE DUMP (.gsa) THAT YtmpjdlhigmofdaaProg.lean LOADS. Nothing in Lean hashes anything: it is a label: what it is worth is what the hold of that sum in a sandbox is worth. -/
noncomputable def Try.pinned : Pinned := { name := "ytmpjdlhigmofdaa", sum := "89f35dec7b64bbb983ebef14f36cd0eb6e2384474cd7efe911a29517463e2661", checked := Try.checked }
namespace Rows
def none {H : Type} : Left H := { results := [], args := [] }

/-- 'layoutlaw08.PrinterPrints': WHATEVER THE INPUT: true; the input reads as it did. -/
def printerPrintsSpec : ChangeSpec := { name := "printerPrints", fn := fun _ => fun
  | [d] => { results := [.lit (.bool true)], args := [d] }
  | _ => none }
def printerPrintsRow : OpenClaim := { program := "ytmpjdlhigmofdaa", sum := "89f35dec7b64bbb983ebef14f36cd0eb6e2384474cd7efe911a29517463e2661", func := "layout/layoutlaw08.PrinterPrints", spec := "printerPrints", inPlace := ["internal/abi.NoEscape", "internal/bytealg.MakeNoZero"], unfollowed := true, recurses := true, loops := true, apart := false }
def PrinterPrintsSaid : Prop := printerPrintsRow.holds Try.pinned (OpenSpec.ofChange printerPrintsSpec)

/-- ITS FALSE NEIGHBOUR: 'it returns false'. Refute it at one input. -/
def printerPrintsWrong : ChangeSpec := { name := "printerPrints", fn := fun _ => fun
  | [d] => { results := [.lit (.bool false)], args := [d] }
  | _ => none }
def PrinterPrintsWrongFalsely : Prop := printerPrintsRow.holds Try.pinned (OpenSpec.ofChange printerPrintsWrong)

/-- 'layoutlaw08.PrinterAttrs': WHATEVER THE INPUT: true; the input reads as it did. -/
def printerAttrsSpec : ChangeSpec := { name := "printerAttrs", fn := fun _ => fun
  | [d] => { results := [.lit (.bool true)], args := [d] }
  | _ => none }
def printerAttrsRow : OpenClaim := { program := "ytmpjdlhigmofdaa", sum := "89f35dec7b64bbb983ebef14f36cd0eb6e2384474cd7efe911a29517463e2661", func := "layout/layoutlaw08.PrinterAttrs", spec := "printerAttrs", inPlace := ["internal/abi.NoEscape", "internal/bytealg.MakeNoZero"], unfollowed := true, recurses := true, apart := false }
def PrinterAttrsSaid : Prop := printerAttrsRow.holds Try.pinned (OpenSpec.ofChange printerAttrsSpec)

/-- ITS FALSE NEIGHBOUR: 'it returns false'. Refute it at one input. -/
def printerAttrsWrong : ChangeSpec := { name := "printerAttrs", fn := fun _ => fun
  | [d] => { results := [.lit (.bool false)], args := [d] }
  | _ => none }
def PrinterAttrsWrongFalsely : Prop := printerAttrsRow.holds Try.pinned (OpenSpec.ofChange printerAttrsWrong)

/-- 'layoutlaw08.PrinterApart': WHATEVER THE INPUT: true; the input reads as it did. -/
def printerApartSpec : ChangeSpec := { name := "printerApart", fn := fun _ => fun
  | [d1, d2] => { results := [.lit (.bool true)], args := [d1, d2] }
  | _ => none }
def printerApartRow : OpenClaim := { program := "ytmpjdlhigmofdaa", sum := "89f35dec7b64bbb983ebef14f36cd0eb6e2384474cd7efe911a29517463e2661", func := "layout/layoutlaw08.PrinterApart", spec := "printerApart", inPlace := ["internal/abi.NoEscape", "internal/bytealg.MakeNoZero"], unfollowed := true, recurses := true, loops := true, apart := false }
def PrinterApartSaid : Prop := printerApartRow.holds Try.pinned (OpenSpec.ofChange printerApartSpec)

/-- ITS FALSE NEIGHBOUR: 'it returns false'. Refute it at one input. -/
def printerApartWrong : ChangeSpec := { name := "printerApart", fn := fun _ => fun
  | [d1, d2] => { results := [.lit (.bool false)], args := [d1, d2] }
  | _ => none }
def PrinterApartWrongFalsely : Prop := printerApartRow.holds Try.pinned (OpenSpec.ofChange printerApartWrong)

/-- 'layoutlaw08.PrinterTokens': WHATEVER THE INPUT: true; the input reads as it did. -/
def printerTokensSpec : ChangeSpec := { name := "printerTokens", fn := fun _ => fun
  | [d] => { results := [.lit (.bool true)], args := [d] }
  | _ => none }
def printerTokensRow : OpenClaim := { program := "ytmpjdlhigmofdaa", sum := "89f35dec7b64bbb983ebef14f36cd0eb6e2384474cd7efe911a29517463e2661", func := "layout/layoutlaw08.PrinterTokens", spec := "printerTokens", inPlace := ["internal/abi.NoEscape", "internal/bytealg.MakeNoZero"], unfollowed := true, recurses := true, loops := true, apart := false }
def PrinterTokensSaid : Prop := printerTokensRow.holds Try.pinned (OpenSpec.ofChange printerTokensSpec)

/-- ITS FALSE NEIGHBOUR: 'it returns false'. Refute it at one input. -/
def printerTokensWrong : ChangeSpec := { name := "printerTokens", fn := fun _ => fun
  | [d] => { results := [.lit (.bool false)], args := [d] }
  | _ => none }
def PrinterTokensWrongFalsely : Prop := printerTokensRow.holds Try.pinned (OpenSpec.ofChange printerTokensWrong)

/- THE SECOND FORM. 'bulk': how many values and letters a reading holds, each counted each time it is reached (what is shared counts as often as it is met; a slice's spare places count too). A statement '..UptoSaid' is the law's where the arguments, and the package variables that the reading takes, are together of bulk at most 1048576: NARROWER than '..Said'. Prove '..Said' where nothing that the law and all that it calls make is longer than what came in: it says more and counts as full. Else prove '..UptoSaid'. A law counts once. -/
mutual
def uptoBulk {H : Type} : DataW H → Nat
  | .lit (.string bytes) => bytes.length + 1
  | .lit _ => 1
  | .nil => 1
  | .ptr d => uptoBulk d + 1
  | .slice elems spare => uptoBulkAll elems + uptoBulkAll spare + 1
  | .agg parts => uptoBulkAll parts + 1
  | .iface _ d => uptoBulk d + 1
  | .map entries => uptoBulkEntries entries + 1
  | .held _ => 1
def uptoBulkAll {H : Type} : List (DataW H) → Nat
  | [] => 0
  | d :: r => uptoBulk d + uptoBulkAll r
def uptoBulkEntries {H : Type} : List (Lit × DataW H) → Nat
  | [] => 0
  | x :: r => uptoBulkEntry x + uptoBulkEntries r
def uptoBulkEntry {H : Type} : Lit × DataW H → Nat
  | (.string bytes, d) => bytes.length + uptoBulk d + 1
  | (_, d) => uptoBulk d + 1
 end
def uptoSmall : (H : Type) → List (DataW H) → Bool := fun _ ds => decide (uptoBulkAll ds ≤ 1048576)
def OpenSpec.upto (s : _root_.Go.ChangeSpec) : _root_.Go.OpenSpec := { _root_.Go.OpenSpec.ofChange s with cond := some uptoSmall }

/-- 'layoutlaw08.PrinterPrints', WHERE WHAT IT READS IS OF BULK AT MOST 1048576: true; the input reads as it did. -/
def printerPrintsUptoRow : OpenClaim := { program := "ytmpjdlhigmofdaa", sum := "89f35dec7b64bbb983ebef14f36cd0eb6e2384474cd7efe911a29517463e2661", func := "layout/layoutlaw08.PrinterPrints", spec := "printerPrints", inPlace := ["internal/abi.NoEscape", "internal/bytealg.MakeNoZero"], unfollowed := true, recurses := true, loops := true, apart := false, narrowed := true }
def PrinterPrintsUptoSaid : Prop := printerPrintsUptoRow.holds Try.pinned (OpenSpec.upto printerPrintsSpec)

/-- 'layoutlaw08.PrinterAttrs', WHERE WHAT IT READS IS OF BULK AT MOST 1048576: true; the input reads as it did. -/
def printerAttrsUptoRow : OpenClaim := { program := "ytmpjdlhigmofdaa", sum := "89f35dec7b64bbb983ebef14f36cd0eb6e2384474cd7efe911a29517463e2661", func := "layout/layoutlaw08.PrinterAttrs", spec := "printerAttrs", inPlace := ["internal/abi.NoEscape", "internal/bytealg.MakeNoZero"], unfollowed := true, recurses := true, apart := false, narrowed := true }
def PrinterAttrsUptoSaid : Prop := printerAttrsUptoRow.holds Try.pinned (OpenSpec.upto printerAttrsSpec)

/-- 'layoutlaw08.PrinterApart', WHERE WHAT IT READS IS OF BULK AT MOST 1048576: true; the input reads as it did. -/
def printerApartUptoRow : OpenClaim := { program := "ytmpjdlhigmofdaa", sum := "89f35dec7b64bbb983ebef14f36cd0eb6e2384474cd7efe911a29517463e2661", func := "layout/layoutlaw08.PrinterApart", spec := "printerApart", inPlace := ["internal/abi.NoEscape", "internal/bytealg.MakeNoZero"], unfollowed := true, recurses := true, loops := true, apart := false, narrowed := true }
def PrinterApartUptoSaid : Prop := printerApartUptoRow.holds Try.pinned (OpenSpec.upto printerApartSpec)

/-- 'layoutlaw08.PrinterTokens', WHERE WHAT IT READS IS OF BULK AT MOST 1048576: true; the input reads as it did. -/
def printerTokensUptoRow : OpenClaim := { program := "ytmpjdlhigmofdaa", sum := "89f35dec7b64bbb983ebef14f36cd0eb6e2384474cd7efe911a29517463e2661", func := "layout/layoutlaw08.PrinterTokens", spec := "printerTokens", inPlace := ["internal/abi.NoEscape", "internal/bytealg.MakeNoZero"], unfollowed := true, recurses := true, loops := true, apart := false, narrowed := true }
def PrinterTokensUptoSaid : Prop := printerTokensUptoRow.holds Try.pinned (OpenSpec.upto printerTokensSpec)

end Rows
end Go.Proofs.Ytmpjdlhigmofdaa
