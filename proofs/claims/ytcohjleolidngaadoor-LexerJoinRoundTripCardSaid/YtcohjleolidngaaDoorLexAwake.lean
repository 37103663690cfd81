/-
  The examples of the chapter of layer 6 come out as it says: awake returns true. Premise: the code answers as its plain functions say.
-/
import Derived.Test.YtcohjleolidngaaDoorLexOk
import Derived.Test.YtcohjleolidngaaDoorLexEq
namespace Go.Proofs.YtcohjleolidngaaDoor
open Go.RowKit lex

set_option maxHeartbeats 4000000 in
theorem awake_any (C : LexOk) (w : World) :
    Calls Tryd.prog 6 #[] w fun e w' => e = .returned (.bool true) ∧ Below w.heap.size w w' := by
  have q1 := eql_tok 1 0 1 ⟨#[120]⟩
  have q2 := eql_tok 3 (-1500) 1 ⟨#[]⟩
  have hg := guard_tok
  go_enter Tryd.func6, Tryd.ntmps6
  go_wp2_with fail
  refine (C.tokenize _ exL 0 0 _ (by decide) (Lib.hid ex_tok)).mono ?_
  rintro e w1 ⟨v, rfl, hT, hb1⟩
  obtain ⟨ao, cap, rfl, hcap, hA⟩ := hT
  obtain ⟨A, rfl, hc⟩ := hA (by decide)
  clear hA
  obtain ⟨a0, a1, a2, a3⟩ := hc 0 (by decide)
  obtain ⟨b0, b1, b2, b3⟩ := hc 2 (by decide)
  clear hc
  have eA : A.add (0 * 4) = A := by unfold Addr.add; rfl
  have eB : A.add (2 * 4) = ⟨A.block, A.off + 8, none⟩ := add_one_of A 8 (by decide)
  rw [eA] at a0 a1 a2 a3
  rw [eB] at b1 b2 b3
  have c0 : w1.cell? A = some (.int .i64 1) := a0
  have c1 : w1.cell? ⟨A.block, A.off + 1, none⟩ = some (.string ⟨#[120]⟩) := a1
  have c2 : w1.cell? ⟨A.block, A.off + 2, none⟩ = some (.int .i64 0) := a2
  have c3 : w1.cell? ⟨A.block, A.off + 3, none⟩ = some (.int .i64 1) := a3
  have d0 : w1.cell? (A.add 8) = some (.int .i64 3) := b0
  have d0' : w1.cell? ⟨A.block, A.off + 8, none⟩ = some (.int .i64 3) := by rw [← eB]; exact b0
  have d1 : w1.cell? ⟨A.block, A.off + 8 + 1, none⟩ = some (.string ⟨#[]⟩) := b1
  have d2 : w1.cell? ⟨A.block, A.off + 8 + 2, none⟩ = some (.int .i64 (-1500)) := b2
  have d3 : w1.cell? ⟨A.block, A.off + 8 + 3, none⟩ = some (.int .i64 1) := b3
  have e8 : A.add 8 = ⟨A.block, A.off + 8, none⟩ := eB
  have z0 : exL.length = 4 := rfl
  clear a0 a1 a2 a3 b0 b1 b2 b3 eA eB
  go_wp2_with fail
  refine (C.name_of _ _ _ (by decide) (Lib.hid ex_name)).mono ?_
  rintro e w2 ⟨rfl, hb2⟩
  have hb2 := below_keep hb2 hb1
  clear hb1
  go_wp2_with fail
  refine (C.name_of _ _ _ (by decide) (Lib.hid ex_node)).mono ?_
  rintro e w3 ⟨rfl, hb3⟩
  have hb3 := below_keep hb3 hb2
  clear hb2
  go_wp2
  go_ret
  exact ⟨rfl, hb3⟩
end Go.Proofs.YtcohjleolidngaaDoor
