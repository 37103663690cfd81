/-
  TrigAngles: for every angle, Sin and Cos answer as the reference does, as the statement says. No condition.
-/
import Derived.Test.YtfdhnjoiklhiaaaTrigAwake
import Derived.Test.YtfdhnjoiklhiaaaTrigRef
namespace Go.Proofs.Ytfdhnjoiklhiaaa.langles
open Go.ChangeShapes Go.WideShapes Go.ChangeAt Go.RowKit

set_option maxHeartbeats 2000000 in
theorem top (d : Int) (_h0 : -9223372036854775808 ≤ d) (_h1 : d ≤ 9223372036854775807) (w : World) :
    Calls Try.prog 3 #[.int .i64 d] w fun e w' => e = .returned (.bool true) ∧ Below w.heap.size w w' := by
  obtain ⟨s, hs⟩ : ∃ v, sinD d = v := ⟨_, rfl⟩
  obtain ⟨c, hc⟩ : ∃ v, cosD d = v := ⟨_, rfl⟩
  have HS := Lib.hid hs
  have HC := Lib.hid hc
  clear hs hc
  go_enter Try.func3, Try.ntmps3
  go_wp2_with fail
  refine (sin_of _ _ _ HS).mono ?_
  rintro e w1 ⟨rfl, hb1⟩
  go_wp2_with fail
  refine (refSin_of _ _ _ HS).mono ?_
  rintro e w2 ⟨rfl, hb2⟩
  have hb2 := below_keep hb2 hb1
  clear hb1
  go_wp2_with fail
  refine (cos_of _ _ _ HC).mono ?_
  rintro e w3 ⟨rfl, hb3⟩
  have hb3 := below_keep hb3 hb2
  clear hb2
  go_wp2_with fail
  refine (refCos_of _ _ _ HC).mono ?_
  rintro e w4 ⟨rfl, hb4⟩
  have hb4 := below_keep hb4 hb3
  clear hb3
  go_wp2_with fail
  refine (awake_any _).mono ?_
  rintro e w5 ⟨rfl, hb5⟩
  have hb5 := below_keep hb5 hb4
  clear hb4
  go_wp2
  go_ret
  exact ⟨ret_bool (by simp), hb5⟩

set_option maxRecDepth 100000 in
theorem lifted (os : Os) (started : os.Started) (H : Type) (enc : TypeId × Value → H) :
    ReturnsInHanded {} Try.checked os 3 .any (Rows.trigAnglesSpec.pre6 enc Try.prog Try.f3 Rows.trigAnglesRow.domain false) (Rows.trigAnglesSpec.post enc Try.prog Try.f3 false true false false) := by
  refine returnsInHanded_of_change (C := Try.checked) own started (by kernel_rfl) Try.func3
    (ChangeSpec.witness6 (enc := enc) (C := Try.checked) false ⟨#[], #[.int .i64 0], []⟩ 8 (by kernel_rfl) (by kernel_rfl) (by kernel_rfl) (by kernel_rfl)) ?_
  intro W base args ds gs before hval0 hW _ _
  have hval : ∀ (j : Nat) t v, Try.f3.params[j]? = some t → args[j]? = some v → Value.okWide Try.prog W .any base t v := hval0
  have hW' := hW
  obtain ⟨p, q, hA0, hV, rfl, hfz, hnd⟩ := hW
  have hA : DataW.TrodAll enc Try.prog W 0 (fun _ => true) true Try.f3.params.toList args.toList ds p := hA0
  rw [Try.params3] at hA hval
  obtain ⟨v0, d0, rfl, rfl, h0⟩ := trodAll_one hA
  obtain ⟨rfl, rfl⟩ := trodVars_none hV
  obtain ⟨x0, rfl, rfl, rfl, wx0⟩ := open_int Try.underlying3 (hval 0 3 v0 rfl rfl) h0
  have bx0 := bounds_i64 wx0
  clear hA0 hval0
  simp only [List.append_nil] at hW'
  refine (top x0 bx0.1 bx0.2 W).mono fun e W' ⟨he, hb⟩ => ?_
  subst he
  exact ⟨_, rfl, _, _, _, [], [], [], hW', trodAll_mk1 (shut_bool Try.underlying4 _), trodAll_mk1 (shut_int Try.underlying3 wx0), rfl, hb.frame _, fun h => by cases h⟩

/-- The statement. -/
theorem holds : Rows.TrigAnglesSaid :=
  OpenClaim.holds_of_wide 3 Try.f3 rfl rfl rfl rfl rfl rfl rfl ⟨rfl, rfl, rfl, rfl, rfl⟩ rfl rfl rfl rfl rfl (by kernel_rfl) Try.func3 (by kernel_rfl)
    (of_decide_eq_true (by kernel_rfl)) (by unfold Func.isWrapper; first | (rw [if_pos (by decide +kernel)]; kernel_rfl) | (rw [if_neg (by decide +kernel)]; exact ⟨rfl, rfl⟩))
    (fun os started H enc _ => lifted os started H enc)
#print axioms holds

end Go.Proofs.Ytfdhnjoiklhiaaa.langles
