/-
  No cell of these rows narrows 'for every input' (looked for: loops, veiled, ifaces, maps, wideKeys, modest, calm, conditions, laid).
  DERIVED. THE GIVEN ROWS OF THIS SEAT. 6 by the template 'for every input the law returns true; each argument reads behind the call as it read before'; 0 by the template 'total and deterministic' (their statements: YtkmamdlhpbobhaaTotals.lean).
  GIVEN WITH THE SEED: the statements are not yours to turn. If you find one false, say at which input.
  Laid BY PROGRAM, IN A SANDBOX (cutbox-rows.mjs): the forced cells as the released guide's own fill.sh prints them over the translation 9b2ef8131c81ccb5… (all of the seat's roots in one cut). By AI agents, Wed Nov 11 2026. No macro, syntax, notation, axiom, sorry.
-/
import Derived.Test.YtkmamdlhpbobhaaChecked
import GoSem.Claim
import GoSem.ClaimJoined
import GoSem.ClaimMapViews
import Derived.JoinedTies
import Derived.KernelRfl
namespace Go.Proofs.Ytkmamdlhpbobhaa
/- THE CELL 'sum', in the pinned program and in every row, IS THE sha256 OF THE DUMP (.gsa) THAT YtkmamdlhpbobhaaProg.lean LOADS. Nothing in Lean hashes anything: it is a label: what it is worth is what the hold of that sum in a sandbox is worth. -/
noncomputable def Try.pinned : Pinned := { name := "ytkmamdlhpbobhaa", sum := "9b2ef8131c81ccb51f066e1df57aebefa88da74aeb13b573c2b7d5ecb0275d7e", checked := Try.checked }
namespace Rows
def none {H : Type} : Left H := { results := [], args := [] }

/-- 'layoutlaw14.DigraphValid': WHATEVER THE INPUT: true; the input reads as it did. -/
def digraphValidSpec : ChangeSpec := { name := "digraphValid", fn := fun _ => fun
  | [d1, d2] => { results := [.lit (.bool true)], args := [d1, d2] }
  | _ => none }
def digraphValidRow : OpenClaim := { program := "ytkmamdlhpbobhaa", sum := "9b2ef8131c81ccb51f066e1df57aebefa88da74aeb13b573c2b7d5ecb0275d7e", func := "layout/layoutlaw14.DigraphValid", spec := "digraphValid", unfollowed := true, recurses := true, apart := false }
def DigraphValidSaid : Prop := digraphValidRow.holds Try.pinned (OpenSpec.ofChange digraphValidSpec)

/-- ITS FALSE NEIGHBOUR: 'it returns false'. Refute it at one input. -/
def digraphValidWrong : ChangeSpec := { name := "digraphValid", fn := fun _ => fun
  | [d1, d2] => { results := [.lit (.bool false)], args := [d1, d2] }
  | _ => none }
def DigraphValidWrongFalsely : Prop := digraphValidRow.holds Try.pinned (OpenSpec.ofChange digraphValidWrong)

/-- 'layoutlaw14.DigraphNear': WHATEVER THE INPUT: true; the input reads as it did. -/
def digraphNearSpec : ChangeSpec := { name := "digraphNear", fn := fun _ => fun
  | [d1, d2] => { results := [.lit (.bool true)], args := [d1, d2] }
  | _ => none }
def digraphNearRow : OpenClaim := { program := "ytkmamdlhpbobhaa", sum := "9b2ef8131c81ccb51f066e1df57aebefa88da74aeb13b573c2b7d5ecb0275d7e", func := "layout/layoutlaw14.DigraphNear", spec := "digraphNear", unfollowed := true, recurses := true, apart := false }
def DigraphNearSaid : Prop := digraphNearRow.holds Try.pinned (OpenSpec.ofChange digraphNearSpec)

/-- ITS FALSE NEIGHBOUR: 'it returns false'. Refute it at one input. -/
def digraphNearWrong : ChangeSpec := { name := "digraphNear", fn := fun _ => fun
  | [d1, d2] => { results := [.lit (.bool false)], args := [d1, d2] }
  | _ => none }
def DigraphNearWrongFalsely : Prop := digraphNearRow.holds Try.pinned (OpenSpec.ofChange digraphNearWrong)

/-- 'layoutlaw14.DigraphFlips': WHATEVER THE INPUT: true; the input reads as it did. -/
def digraphFlipsSpec : ChangeSpec := { name := "digraphFlips", fn := fun _ => fun
  | [d1, d2] => { results := [.lit (.bool true)], args := [d1, d2] }
  | _ => none }
def digraphFlipsRow : OpenClaim := { program := "ytkmamdlhpbobhaa", sum := "9b2ef8131c81ccb51f066e1df57aebefa88da74aeb13b573c2b7d5ecb0275d7e", func := "layout/layoutlaw14.DigraphFlips", spec := "digraphFlips", unfollowed := true, recurses := true, apart := false }
def DigraphFlipsSaid : Prop := digraphFlipsRow.holds Try.pinned (OpenSpec.ofChange digraphFlipsSpec)

/-- ITS FALSE NEIGHBOUR: 'it returns false'. Refute it at one input. -/
def digraphFlipsWrong : ChangeSpec := { name := "digraphFlips", fn := fun _ => fun
  | [d1, d2] => { results := [.lit (.bool false)], args := [d1, d2] }
  | _ => none }
def DigraphFlipsWrongFalsely : Prop := digraphFlipsRow.holds Try.pinned (OpenSpec.ofChange digraphFlipsWrong)

/-- 'layoutlaw14.DigraphSimple': WHATEVER THE INPUT: true; the input reads as it did. -/
def digraphSimpleSpec : ChangeSpec := { name := "digraphSimple", fn := fun _ => fun
  | [d] => { results := [.lit (.bool true)], args := [d] }
  | _ => none }
def digraphSimpleRow : OpenClaim := { program := "ytkmamdlhpbobhaa", sum := "9b2ef8131c81ccb51f066e1df57aebefa88da74aeb13b573c2b7d5ecb0275d7e", func := "layout/layoutlaw14.DigraphSimple", spec := "digraphSimple", unfollowed := true, recurses := true, apart := false }
def DigraphSimpleSaid : Prop := digraphSimpleRow.holds Try.pinned (OpenSpec.ofChange digraphSimpleSpec)

/-- ITS FALSE NEIGHBOUR: 'it returns false'. Refute it at one input. -/
def digraphSimpleWrong : ChangeSpec := { name := "digraphSimple", fn := fun _ => fun
  | [d] => { results := [.lit (.bool false)], args := [d] }
  | _ => none }
def DigraphSimpleWrongFalsely : Prop := digraphSimpleRow.holds Try.pinned (OpenSpec.ofChange digraphSimpleWrong)

/-- 'layoutlaw14.DigraphInduced': WHATEVER THE INPUT: true; the input reads as it did. -/
def digraphInducedSpec : ChangeSpec := { name := "digraphInduced", fn := fun _ => fun
  | [d1, d2] => { results := [.lit (.bool true)], args := [d1, d2] }
  | _ => none }
def digraphInducedRow : OpenClaim := { program := "ytkmamdlhpbobhaa", sum := "9b2ef8131c81ccb51f066e1df57aebefa88da74aeb13b573c2b7d5ecb0275d7e", func := "layout/layoutlaw14.DigraphInduced", spec := "digraphInduced", unfollowed := true, recurses := true, apart := false }
def DigraphInducedSaid : Prop := digraphInducedRow.holds Try.pinned (OpenSpec.ofChange digraphInducedSpec)

/-- ITS FALSE NEIGHBOUR: 'it returns false'. Refute it at one input. -/
def digraphInducedWrong : ChangeSpec := { name := "digraphInduced", fn := fun _ => fun
  | [d1, d2] => { results := [.lit (.bool false)], args := [d1, d2] }
  | _ => none }
def DigraphInducedWrongFalsely : Prop := digraphInducedRow.holds Try.pinned (OpenSpec.ofChange digraphInducedWrong)

/-- 'layoutlaw14.DigraphCounts': WHATEVER THE INPUT: true; the input reads as it did. -/
def digraphCountsSpec : ChangeSpec := { name := "digraphCounts", fn := fun _ => fun
  | [d] => { results := [.lit (.bool true)], args := [d] }
  | _ => none }
def digraphCountsRow : OpenClaim := { program := "ytkmamdlhpbobhaa", sum := "9b2ef8131c81ccb51f066e1df57aebefa88da74aeb13b573c2b7d5ecb0275d7e", func := "layout/layoutlaw14.DigraphCounts", spec := "digraphCounts", unfollowed := true, recurses := true, apart := false }
def DigraphCountsSaid : Prop := digraphCountsRow.holds Try.pinned (OpenSpec.ofChange digraphCountsSpec)

/-- ITS FALSE NEIGHBOUR: 'it returns false'. Refute it at one input. -/
def digraphCountsWrong : ChangeSpec := { name := "digraphCounts", fn := fun _ => fun
  | [d] => { results := [.lit (.bool false)], args := [d] }
  | _ => none }
def DigraphCountsWrongFalsely : Prop := digraphCountsRow.holds Try.pinned (OpenSpec.ofChange digraphCountsWrong)

/- THE SECOND FORM. 'bulk': how many values and letters a reading holds, each counted each time it is reached (what is shared counts as often as it is met; a slice's spare places count too). A statement '..UptoSaid' is the law's where the arguments, and the package variables that the reading takes, are together of bulk at most 1048576: NARROWER than '..Said'. Prove '..Said' where nothing that the law and all that it calls make is longer than what came in: it says more and counts as full. Else prove '..UptoSaid'. A law counts once. -/
mutual
def uptoBulk {H : Type} : DataW H → Nat
  | .lit (.string bytes) => bytes.length + 1
  | .lit _ => 1
  | .nil => 1
  | .ptr d => uptoBulk d + 1
  | .slice elems spare => uptoBulkAll elems + uptoBulkAll spare + 1
  | .agg parts => uptoBulkAll parts + 1
  | .iface _ d => uptoBulk d + 1
  | .map entries => uptoBulkEntries entries + 1
  | .held _ => 1
def uptoBulkAll {H : Type} : List (DataW H) → Nat
  | [] => 0
  | d :: r => uptoBulk d + uptoBulkAll r
def uptoBulkEntries {H : Type} : List (Lit × DataW H) → Nat
  | [] => 0
  | x :: r => uptoBulkEntry x + uptoBulkEntries r
def uptoBulkEntry {H : Type} : Lit × DataW H → Nat
  | (.string bytes, d) => bytes.length + uptoBulk d + 1
  | (_, d) => uptoBulk d + 1
 end
def uptoSmall : (H : Type) → List (DataW H) → Bool := fun _ ds => decide (uptoBulkAll ds ≤ 1048576)
def OpenSpec.upto (s : _root_.Go.ChangeSpec) : _root_.Go.OpenSpec := { _root_.Go.OpenSpec.ofChange s with cond := some uptoSmall }

/-- 'layoutlaw14.DigraphValid', WHERE WHAT IT READS IS OF BULK AT MOST 1048576: true; the input reads as it did. -/
def digraphValidUptoRow : OpenClaim := { program := "ytkmamdlhpbobhaa", sum := "9b2ef8131c81ccb51f066e1df57aebefa88da74aeb13b573c2b7d5ecb0275d7e", func := "layout/layoutlaw14.DigraphValid", spec := "digraphValid", unfollowed := true, recurses := true, apart := false, narrowed := true }
def DigraphValidUptoSaid : Prop := digraphValidUptoRow.holds Try.pinned (OpenSpec.upto digraphValidSpec)

/-- 'layoutlaw14.DigraphNear', WHERE WHAT IT READS IS OF BULK AT MOST 1048576: true; the input reads as it did. -/
def digraphNearUptoRow : OpenClaim := { program := "ytkmamdlhpbobhaa", sum := "9b2ef8131c81ccb51f066e1df57aebefa88da74aeb13b573c2b7d5ecb0275d7e", func := "layout/layoutlaw14.DigraphNear", spec := "digraphNear", unfollowed := true, recurses := true, apart := false, narrowed := true }
def DigraphNearUptoSaid : Prop := digraphNearUptoRow.holds Try.pinned (OpenSpec.upto digraphNearSpec)

/-- 'layoutlaw14.DigraphFlips', WHERE WHAT IT READS IS OF BULK AT MOST 1048576: true; the input reads as it did. -/
def digraphFlipsUptoRow : OpenClaim := { program := "ytkmamdlhpbobhaa", sum := "9b2ef8131c81ccb51f066e1df57aebefa88da74aeb13b573c2b7d5ecb0275d7e", func := "layout/layoutlaw14.DigraphFlips", spec := "digraphFlips", unfollowed := true, recurses := true, apart := false, narrowed := true }
def DigraphFlipsUptoSaid : Prop := digraphFlipsUptoRow.holds Try.pinned (OpenSpec.upto digraphFlipsSpec)

/-- 'layoutlaw14.DigraphSimple', WHERE WHAT IT READS IS OF BULK AT MOST 1048576: true; the input reads as it did. -/
def digraphSimpleUptoRow : OpenClaim := { program := "ytkmamdlhpbobhaa", sum := "9b2ef8131c81ccb51f066e1df57aebefa88da74aeb13b573c2b7d5ecb0275d7e", func := "layout/layoutlaw14.DigraphSimple", spec := "digraphSimple", unfollowed := true, recurses := true, apart := false, narrowed := true }
def DigraphSimpleUptoSaid : Prop := digraphSimpleUptoRow.holds Try.pinned (OpenSpec.upto digraphSimpleSpec)

/-- 'layoutlaw14.DigraphInduced', WHERE WHAT IT READS IS OF BULK AT MOST 1048576: true; the input reads as it did. -/
def digraphInducedUptoRow : OpenClaim := { program := "ytkmamdlhpbobhaa", sum := "9b2ef8131c81ccb51f066e1df57aebefa88da74aeb13b573c2b7d5ecb0275d7e", func := "layout/layoutlaw14.DigraphInduced", spec := "digraphInduced", unfollowed := true, recurses := true, apart := false, narrowed := true }
def DigraphInducedUptoSaid : Prop := digraphInducedUptoRow.holds Try.pinned (OpenSpec.upto digraphInducedSpec)

/-- 'layoutlaw14.DigraphCounts', WHERE WHAT IT READS IS OF BULK AT MOST 1048576: true; the input reads as it did. -/
def digraphCountsUptoRow : OpenClaim := { program := "ytkmamdlhpbobhaa", sum := "9b2ef8131c81ccb51f066e1df57aebefa88da74aeb13b573c2b7d5ecb0275d7e", func := "layout/layoutlaw14.DigraphCounts", spec := "digraphCounts", unfollowed := true, recurses := true, apart := false, narrowed := true }
def DigraphCountsUptoSaid : Prop := digraphCountsUptoRow.holds Try.pinned (OpenSpec.upto digraphCountsSpec)

end Rows
end Go.Proofs.Ytkmamdlhpbobhaa
