/-
  PolySimplifies: for every list of points, Simplify answers as the reference does, as the statement says. No condition.
-/
import Derived.Test.YtllhdalfhhjigaaPolyAwake
import Derived.Test.YtllhdalfhhjigaaRefSimp
namespace Go.Proofs.Ytllhdalfhhjigaa.lsimplifies
open Go.ChangeShapes Go.WideShapes Go.ChangeAt Go.RowKit

set_option maxHeartbeats 1000000 in
theorem far (ao : Option Addr) (n cap : Nat) (w : World) (h : (1100 : Int) < n) :
    Calls Try.prog 4 #[.slice ao n cap] w fun e w' => e = .returned (.bool true) ∧ Below w.heap.size w w' := by
  go_enter Try.func4, Try.ntmps4
  go_wp2_with fail
  refine (awake_any _).mono ?_
  rintro e w1 ⟨rfl, hb1⟩
  go_wp2
  go_ret
  exact ⟨rfl, hb1⟩

set_option maxRecDepth 100000 in
set_option maxHeartbeats 4000000 in
theorem near (ao : Option Addr) (cap : Nat) (l : List Pt) (w0 : World) (hl : l.length ≤ 1100) (pL0 : Pl w0 (.slice ao l.length cap) l) :
    Calls Try.prog 4 #[.slice ao l.length cap] w0 fun e w' => e = .returned (.bool true) ∧ Below w0.heap.size w0 w' := by
  have hm : l.length ≤ maxLen := by unfold maxLen; omega
  obtain ⟨S, hS⟩ : ∃ S, simp4 l = S := ⟨_, rfl⟩
  have HS := Lib.hid hS
  have hSl : S.length ≤ maxLen := by
    have h1 := simpL_size (ddTo l l.length)
    have h2 := ddTo_size l l.length
    cases hh : hasP l with
    | true => rw [simp4_eq l hh] at hS; rw [← hS]; omega
    | false => rw [simp4_no l hh] at hS; rw [← hS]; unfold maxLen; simp
  have HM := Lib.hid (sam_yes S S rfl (fun _ _ => rfl))
  clear hS
  have hB0 := Below.refl w0.heap.size w0
  go_enter Try.func4, Try.ntmps4
  go_wp2_with fail
  refine (simplify_at _ _ _ l rfl hm _ pL0 S HS).mono ?_
  rintro e w1 ⟨so, sc, rfl, pS1, hb1⟩
  have pL1 := pL0.keep hb1
  have hB1 := below_keep hb1 hB0
  clear pL0 hB0 hb1
  go_wp2_with fail
  refine (rsimplify_at _ _ _ l rfl hm _ pL1 S HS).mono ?_
  rintro e w2 ⟨t1, tc, rfl, pT2, hb2⟩
  have pL2 := pL1.keep hb2
  have pS2 := pS1.keep hb2
  have hB2 := below_keep hb2 hB1
  clear pL1 pS1 hB1 hb2
  go_wp2_with fail
  refine (rsame_at _ _ _ S rfl hSl _ pS2 _ _ _ S rfl pT2 true HM).mono ?_
  rintro e w3 ⟨rfl, hb3⟩
  have pS3 := pS2.keep hb3
  have pT3 := pT2.keep hb3
  have hB3 := below_keep hb3 hB2
  clear pS2 pT2 hB2 hb3
  go_wp2_with fail
  refine (awake_any _).mono ?_
  rintro e w4 ⟨rfl, hb4⟩
  have hB4 := below_keep hb4 hB3
  clear  hB3 hb4
  go_wp2
  go_ret
  exact ⟨rfl, hB4⟩

theorem top (v0 : Value) (l0 : List Pt) (W : World) (s0 : Pl W v0 l0) (_m0 : l0.length ≤ maxLen) :
    Calls Try.prog 4 #[v0] W fun e w' => e = .returned (.bool true) ∧ Below W.heap.size W w' := by
  obtain ⟨ao, cap, rfl, hx⟩ := id s0
  by_cases h : l0.length ≤ 1100
  · exact near ao cap l0 W h s0
  · exact far ao l0.length cap W (by omega)

set_option maxRecDepth 100000 in
theorem lifted (os : Os) (started : os.Started) (H : Type) (enc : TypeId × Value → H) :
    ReturnsInHanded {} Try.checked os 4 .any (Rows.polySimplifiesSpec.pre6 enc Try.prog Try.f4 Rows.polySimplifiesRow.domain false) (Rows.polySimplifiesSpec.post enc Try.prog Try.f4 false true false false) := by
  refine returnsInHanded_of_change (C := Try.checked) own started (by kernel_rfl) Try.func4
    (ChangeSpec.witness6 (enc := enc) (C := Try.checked) false ⟨#[], #[.slice none 0 0], []⟩ 8 (by kernel_rfl) (by kernel_rfl) (by kernel_rfl) (by kernel_rfl)) ?_
  intro W base args ds gs before hval0 hW _ _
  have hval : ∀ (j : Nat) t v, Try.f4.params[j]? = some t → args[j]? = some v → Value.okWide Try.prog W .any base t v := hval0
  have hW' := hW
  obtain ⟨p, q, hA0, hV, rfl, hfz, hnd⟩ := hW
  have hA : DataW.TrodAll enc Try.prog W 0 (fun _ => true) true Try.f4.params.toList args.toList ds p := hA0
  rw [Try.params4] at hA hval
  obtain ⟨v0, d0, rfl, rfl, h0⟩ := trodAll_one hA
  obtain ⟨rfl, rfl⟩ := trodVars_none hV
  obtain ⟨l0, s0, m0⟩ := open_points (hval 0 22 v0 rfl rfl) h0
  clear hA0 hval0
  simp only [List.append_nil] at hW'
  have hlt0 : ∀ x ∈ p, x.block < W.heap.size := fun x hx => by simpa using hW'.lt x (by simp [hx])
  refine (top v0 l0 W s0 m0).mono fun e W' ⟨he, hb⟩ => ?_
  subst he
  exact ⟨_, rfl, _, _, _, [], p, [], hW', trodAll_mk1 (shut_bool Try.underlying4 _), trodAll_mk1 (Below.trod laidOut (by kernel_rfl) (of_decide_eq_true (by kernel_rfl)) h0 hb hlt0), rfl, hb.frame _, fun h => by cases h⟩

/-- The statement. -/
theorem holds : Rows.PolySimplifiesSaid :=
  OpenClaim.holds_of_wide 4 Try.f4 rfl rfl rfl rfl rfl rfl rfl ⟨rfl, rfl, rfl, rfl, rfl⟩ rfl rfl rfl rfl rfl (by kernel_rfl) Try.func4 (by kernel_rfl)
    (of_decide_eq_true (by kernel_rfl)) (by unfold Func.isWrapper; first | (rw [if_pos (by decide +kernel)]; kernel_rfl) | (rw [if_neg (by decide +kernel)]; exact ⟨rfl, rfl⟩))
    (fun os started H enc _ => lifted os started H enc)
#print axioms holds


end Go.Proofs.Ytllhdalfhhjigaa.lsimplifies
