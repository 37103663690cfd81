/-
  The statement DigraphFlips of layer 14: Flip returns what the chapter says, and twice gives the digraph back. No condition.
-/
import Derived.Test.YtkmamdlhpbobhaaDigSays
namespace Go.Proofs.Ytkmamdlhpbobhaa.dig.ldigraphflips
open Go.RowKit Go.ChangeShapes Go.WideShapes Go.ChangeAt Go.Joins dig

theorem own : ownKnob Try.prog.godebug = none := by kernel_rfl
theorem top (v : Value) (g : Int × List Ar) (v2 : Value) (l : List Int) (W : World) (s : DgV W v g.1 g.2) (s2 : Ins W v2 l) :
    Calls Try.prog 5 #[v, v2] W fun e W' => e = .returned (.bool true) ∧ Below W.heap.size W W' := wflips sAwake sFlip v v2 g.1 g.2 l W (Lib.hid s) (Lib.hid s2)

set_option maxRecDepth 100000 in
theorem lifted (os : Os) (started : os.Started) (H : Type) (enc : TypeId × Value → H) :
    ReturnsInHanded {} Try.checked os 5 .any (Rows.digraphFlipsSpec.pre6 enc Try.prog Try.f5 Rows.digraphFlipsRow.domain false) (Rows.digraphFlipsSpec.post enc Try.prog Try.f5 false true false false) := by
  refine returnsInHanded_of_change (C := Try.checked) own started (by kernel_rfl) Try.func5
    (ChangeSpec.witness6 (enc := enc) (C := Try.checked) false ⟨#[], #[.agg #[.int .i64 0, .slice none 0 0], .slice none 0 0], []⟩ 8 (by kernel_rfl) (by kernel_rfl) (by kernel_rfl) (by kernel_rfl)) ?_
  intro W base args ds gs before hval0 hW _ _
  have hval : ∀ (j : Nat) t v, Try.f5.params[j]? = some t → args[j]? = some v → Value.okWide Try.prog W .any base t v := hval0
  have hW' := hW
  obtain ⟨p, q, hA0, hV, rfl, hfz, hnd⟩ := hW
  have hA : DataW.TrodAll enc Try.prog W 0 (fun _ => true) true Try.f5.params.toList args.toList ds p := hA0
  rw [Try.params5] at hA hval
  obtain ⟨v0, v1, d0, d1, p0, p1, rfl, rfl, rfl, h0, h1⟩ := trodAll_two hA
  obtain ⟨rfl, rfl⟩ := trodVars_none hV
  obtain ⟨l0, s0, -⟩ := open_digraph (hval 0 24 v0 rfl rfl) h0
  obtain ⟨l1, s1⟩ := open_nums (hval 1 30 v1 rfl rfl) h1
  clear hA0 hval0
  simp only [List.append_nil] at hW'
  have hlt0 : ∀ x ∈ p0, x.block < W.heap.size := fun x hx => by simpa using hW'.lt x (by simp [hx])
  have hlt1 : ∀ x ∈ p1, x.block < W.heap.size := fun x hx => by simpa using hW'.lt x (by simp [hx])
  refine (top v0 l0 v1 l1 W s0 s1).mono fun e W' ⟨he, hb⟩ => ?_
  subst he
  exact ⟨_, rfl, _, _, _, [], (p0 ++ (p1)), [], hW', trodAll_mk1 (shut_bool Try.underlying4 _), (by have h := trodAll_mk2 (Below.trod laidOut (by kernel_rfl) (of_decide_eq_true (by kernel_rfl)) h0 hb hlt0) (Below.trod laidOut (by kernel_rfl) (of_decide_eq_true (by kernel_rfl)) h1 hb hlt1); first | (simp only [List.append_nil] at h; exact h) | exact h), rfl, hb.frame _, fun h => by cases h⟩

/-- The statement. -/
theorem holds : Rows.DigraphFlipsSaid :=
  OpenClaim.holds_of_wide 5 Try.f5 rfl rfl rfl rfl rfl rfl rfl ⟨rfl, rfl, rfl, rfl, rfl⟩ rfl rfl rfl rfl rfl (by kernel_rfl) Try.func5 (by kernel_rfl)
    (of_decide_eq_true (by kernel_rfl)) (by unfold Func.isWrapper; first | (rw [if_pos (by decide +kernel)]; kernel_rfl) | (rw [if_neg (by decide +kernel)]; exact ⟨rfl, rfl⟩))
    (fun os started H enc _ => lifted os started H enc)
#print axioms holds
end Go.Proofs.Ytkmamdlhpbobhaa.dig.ldigraphflips
