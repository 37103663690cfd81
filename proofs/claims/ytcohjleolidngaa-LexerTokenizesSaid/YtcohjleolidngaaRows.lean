/-
  No cell of these rows narrows 'for every input' (looked for: loops, veiled, ifaces, maps, wideKeys, modest, calm, conditions, laid).
  DERIVED. THE GIVEN ROWS OF THIS SEAT. 5 by the template 'for every input the law returns true; each argument reads behind the call as it read before'; 0 by the template 'total and deterministic' (their statements: YtcohjleolidngaaTotals.lean).
  GIVEN WITH THE SEED: the statements are not yours to turn. If you find one false, say at which input.
  Laid BY PROGRAM, IN A SANDBOX (cutbox-rows.mjs): the forced cells as the released guide's own fill.sh prints them over the translation 05598e29f3979034… (all of the seat's roots in one cut). By AI agents, Wed Nov 11 2026. No macro, syntax, notation, axiom, sorry.
-/
import Derived.Test.YtcohjleolidngaaChecked
import GoSem.Claim
import GoSem.ClaimJoined
import GoSem.ClaimMapViews
import Derived.JoinedTies
import Derived.KernelRfl
namespace Go.Proofs.Ytcohjleolidngaa
/- THE CELL 'sum', in the pinned program and in every row, IS THE sha256 OF THE DUMP (.gsa) THAT YtcohjleolidngaaProg.lean LOADS. Nothing in Lean hashes anything: it is a label: what it is worth is what the hold of that sum in a sandbox is worth. -/
noncomputable def Try.pinned : Pinned := { name := "ytcohjleolidngaa", sum := "05598e29f397903461718c8cbb7da548c47db8be5644a93509a5c3d0b3470960", checked := Try.checked }
namespace Rows
def none {H : Type} : Left H := { results := [], args := [] }

/-- 'layoutlaw06.LexerNames': WHATEVER THE INPUT: true; the input reads as it did. -/
def lexerNamesSpec : ChangeSpec := { name := "lexerNames", fn := fun _ => fun
  | [d] => { results := [.lit (.bool true)], args := [d] }
  | _ => none }
def lexerNamesRow : OpenClaim := { program := "ytcohjleolidngaa", sum := "05598e29f397903461718c8cbb7da548c47db8be5644a93509a5c3d0b3470960", func := "layout/layoutlaw06.LexerNames", spec := "lexerNames", unfollowed := true, recurses := true, apart := false }
def LexerNamesSaid : Prop := lexerNamesRow.holds Try.pinned (OpenSpec.ofChange lexerNamesSpec)

/-- ITS FALSE NEIGHBOUR: 'it returns false'. Refute it at one input. -/
def lexerNamesWrong : ChangeSpec := { name := "lexerNames", fn := fun _ => fun
  | [d] => { results := [.lit (.bool false)], args := [d] }
  | _ => none }
def LexerNamesWrongFalsely : Prop := lexerNamesRow.holds Try.pinned (OpenSpec.ofChange lexerNamesWrong)

/-- 'layoutlaw06.LexerQuotes': WHATEVER THE INPUT: true; the input reads as it did. -/
def lexerQuotesSpec : ChangeSpec := { name := "lexerQuotes", fn := fun _ => fun
  | [d] => { results := [.lit (.bool true)], args := [d] }
  | _ => none }
def lexerQuotesRow : OpenClaim := { program := "ytcohjleolidngaa", sum := "05598e29f397903461718c8cbb7da548c47db8be5644a93509a5c3d0b3470960", func := "layout/layoutlaw06.LexerQuotes", spec := "lexerQuotes", unfollowed := true, recurses := true, apart := false }
def LexerQuotesSaid : Prop := lexerQuotesRow.holds Try.pinned (OpenSpec.ofChange lexerQuotesSpec)

/-- ITS FALSE NEIGHBOUR: 'it returns false'. Refute it at one input. -/
def lexerQuotesWrong : ChangeSpec := { name := "lexerQuotes", fn := fun _ => fun
  | [d] => { results := [.lit (.bool false)], args := [d] }
  | _ => none }
def LexerQuotesWrongFalsely : Prop := lexerQuotesRow.holds Try.pinned (OpenSpec.ofChange lexerQuotesWrong)

/-- 'layoutlaw06.LexerTokenizes': WHATEVER THE INPUT: true; the input reads as it did. -/
def lexerTokenizesSpec : ChangeSpec := { name := "lexerTokenizes", fn := fun _ => fun
  | [d] => { results := [.lit (.bool true)], args := [d] }
  | _ => none }
def lexerTokenizesRow : OpenClaim := { program := "ytcohjleolidngaa", sum := "05598e29f397903461718c8cbb7da548c47db8be5644a93509a5c3d0b3470960", func := "layout/layoutlaw06.LexerTokenizes", spec := "lexerTokenizes", unfollowed := true, recurses := true, apart := false }
def LexerTokenizesSaid : Prop := lexerTokenizesRow.holds Try.pinned (OpenSpec.ofChange lexerTokenizesSpec)

/-- ITS FALSE NEIGHBOUR: 'it returns false'. Refute it at one input. -/
def lexerTokenizesWrong : ChangeSpec := { name := "lexerTokenizes", fn := fun _ => fun
  | [d] => { results := [.lit (.bool false)], args := [d] }
  | _ => none }
def LexerTokenizesWrongFalsely : Prop := lexerTokenizesRow.holds Try.pinned (OpenSpec.ofChange lexerTokenizesWrong)

/-- 'layoutlaw06.LexerLong': WHATEVER THE INPUT: true; the input reads as it did. -/
def lexerLongSpec : ChangeSpec := { name := "lexerLong", fn := fun _ => fun
  | [d] => { results := [.lit (.bool true)], args := [d] }
  | _ => none }
def lexerLongRow : OpenClaim := { program := "ytcohjleolidngaa", sum := "05598e29f397903461718c8cbb7da548c47db8be5644a93509a5c3d0b3470960", func := "layout/layoutlaw06.LexerLong", spec := "lexerLong", unfollowed := true, recurses := true, apart := false }
def LexerLongSaid : Prop := lexerLongRow.holds Try.pinned (OpenSpec.ofChange lexerLongSpec)

/-- ITS FALSE NEIGHBOUR: 'it returns false'. Refute it at one input. -/
def lexerLongWrong : ChangeSpec := { name := "lexerLong", fn := fun _ => fun
  | [d] => { results := [.lit (.bool false)], args := [d] }
  | _ => none }
def LexerLongWrongFalsely : Prop := lexerLongRow.holds Try.pinned (OpenSpec.ofChange lexerLongWrong)

/-- 'layoutlaw06.LexerSkips': WHATEVER THE INPUT: true; the input reads as it did. -/
def lexerSkipsSpec : ChangeSpec := { name := "lexerSkips", fn := fun _ => fun
  | [d] => { results := [.lit (.bool true)], args := [d] }
  | _ => none }
def lexerSkipsRow : OpenClaim := { program := "ytcohjleolidngaa", sum := "05598e29f397903461718c8cbb7da548c47db8be5644a93509a5c3d0b3470960", func := "layout/layoutlaw06.LexerSkips", spec := "lexerSkips", unfollowed := true, recurses := true, apart := false }
def LexerSkipsSaid : Prop := lexerSkipsRow.holds Try.pinned (OpenSpec.ofChange lexerSkipsSpec)

/-- ITS FALSE NEIGHBOUR: 'it returns false'. Refute it at one input. -/
def lexerSkipsWrong : ChangeSpec := { name := "lexerSkips", fn := fun _ => fun
  | [d] => { results := [.lit (.bool false)], args := [d] }
  | _ => none }
def LexerSkipsWrongFalsely : Prop := lexerSkipsRow.holds Try.pinned (OpenSpec.ofChange lexerSkipsWrong)

/- THE SECOND FORM. 'bulk': how many values and letters a reading holds, each counted each time it is reached (what is shared counts as often as it is met; a slice's spare places count too). A statement '..UptoSaid' is the law's where the arguments, and the package variables that the reading takes, are together of bulk at most 1048576: NARROWER than '..Said'. Prove '..Said' where nothing that the law and all that it calls make is longer than what came in: it says more and counts as full. Else prove '..UptoSaid'. A law counts once. -/
mutual
def uptoBulk {H : Type} : DataW H → Nat
  | .lit (.string bytes) => bytes.length + 1
  | .lit _ => 1
  | .nil => 1
  | .ptr d => uptoBulk d + 1
  | .slice elems spare => uptoBulkAll elems + uptoBulkAll spare + 1
  | .agg parts => uptoBulkAll parts + 1
  | .iface _ d => uptoBulk d + 1
  | .map entries => uptoBulkEntries entries + 1
  | .held _ => 1
def uptoBulkAll {H : Type} : List (DataW H) → Nat
  | [] => 0
  | d :: r => uptoBulk d + uptoBulkAll r
def uptoBulkEntries {H : Type} : List (Lit × DataW H) → Nat
  | [] => 0
  | x :: r => uptoBulkEntry x + uptoBulkEntries r
def uptoBulkEntry {H : Type} : Lit × DataW H → Nat
  | (.string bytes, d) => bytes.length + uptoBulk d + 1
  | (_, d) => uptoBulk d + 1
 end
def uptoSmall : (H : Type) → List (DataW H) → Bool := fun _ ds => decide (uptoBulkAll ds ≤ 1048576)
def OpenSpec.upto (s : _root_.Go.ChangeSpec) : _root_.Go.OpenSpec := { _root_.Go.OpenSpec.ofChange s with cond := some uptoSmall }

/-- 'layoutlaw06.LexerNames', WHERE WHAT IT READS IS OF BULK AT MOST 1048576: true; the input reads as it did. -/
def lexerNamesUptoRow : OpenClaim := { program := "ytcohjleolidngaa", sum := "05598e29f397903461718c8cbb7da548c47db8be5644a93509a5c3d0b3470960", func := "layout/layoutlaw06.LexerNames", spec := "lexerNames", unfollowed := true, recurses := true, apart := false, narrowed := true }
def LexerNamesUptoSaid : Prop := lexerNamesUptoRow.holds Try.pinned (OpenSpec.upto lexerNamesSpec)

/-- 'layoutlaw06.LexerQuotes', WHERE WHAT IT READS IS OF BULK AT MOST 1048576: true; the input reads as it did. -/
def lexerQuotesUptoRow : OpenClaim := { program := "ytcohjleolidngaa", sum := "05598e29f397903461718c8cbb7da548c47db8be5644a93509a5c3d0b3470960", func := "layout/layoutlaw06.LexerQuotes", spec := "lexerQuotes", unfollowed := true, recurses := true, apart := false, narrowed := true }
def LexerQuotesUptoSaid : Prop := lexerQuotesUptoRow.holds Try.pinned (OpenSpec.upto lexerQuotesSpec)

/-- 'layoutlaw06.LexerTokenizes', WHERE WHAT IT READS IS OF BULK AT MOST 1048576: true; the input reads as it did. -/
def lexerTokenizesUptoRow : OpenClaim := { program := "ytcohjleolidngaa", sum := "05598e29f397903461718c8cbb7da548c47db8be5644a93509a5c3d0b3470960", func := "layout/layoutlaw06.LexerTokenizes", spec := "lexerTokenizes", unfollowed := true, recurses := true, apart := false, narrowed := true }
def LexerTokenizesUptoSaid : Prop := lexerTokenizesUptoRow.holds Try.pinned (OpenSpec.upto lexerTokenizesSpec)

/-- 'layoutlaw06.LexerLong', WHERE WHAT IT READS IS OF BULK AT MOST 1048576: true; the input reads as it did. -/
def lexerLongUptoRow : OpenClaim := { program := "ytcohjleolidngaa", sum := "05598e29f397903461718c8cbb7da548c47db8be5644a93509a5c3d0b3470960", func := "layout/layoutlaw06.LexerLong", spec := "lexerLong", unfollowed := true, recurses := true, apart := false, narrowed := true }
def LexerLongUptoSaid : Prop := lexerLongUptoRow.holds Try.pinned (OpenSpec.upto lexerLongSpec)

/-- 'layoutlaw06.LexerSkips', WHERE WHAT IT READS IS OF BULK AT MOST 1048576: true; the input reads as it did. -/
def lexerSkipsUptoRow : OpenClaim := { program := "ytcohjleolidngaa", sum := "05598e29f397903461718c8cbb7da548c47db8be5644a93509a5c3d0b3470960", func := "layout/layoutlaw06.LexerSkips", spec := "lexerSkips", unfollowed := true, recurses := true, apart := false, narrowed := true }
def LexerSkipsUptoSaid : Prop := lexerSkipsUptoRow.holds Try.pinned (OpenSpec.upto lexerSkipsSpec)

end Rows
end Go.Proofs.Ytcohjleolidngaa
