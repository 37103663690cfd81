/-
  TrigPolar: for every center, radius and angle, Polar answers as the reference does, as the statement says. No condition.
-/
import Derived.Test.YtfdhnjoiklhiaaaTrigAwake
namespace Go.Proofs.Ytfdhnjoiklhiaaa.lpolar
open Go.ChangeShapes Go.WideShapes Go.ChangeAt Go.RowKit

set_option maxHeartbeats 8000000 in
theorem top (c1 c2 r d : Int) (_h0 : -9223372036854775808 ≤ r) (_h1 : r ≤ 9223372036854775807) (_h2 : -9223372036854775808 ≤ d) (_h3 : d ≤ 9223372036854775807) (w : World) :
    Calls Try.prog 4 #[.agg #[.int .i64 c1, .int .i64 c2], .int .i64 r, .int .i64 d] w fun e w' => e = .returned (.bool true) ∧ Below w.heap.size w w' := by
  obtain ⟨x, hx⟩ : ∃ v, polX c1 c2 r d = v := ⟨_, rfl⟩
  obtain ⟨y, hy⟩ : ∃ v, polY c1 c2 r d = v := ⟨_, rfl⟩
  have HX := Lib.hid hx
  have HY := Lib.hid hy
  clear hx hy
  have q := eql_pt (Lib.hid ((eq2_iff x y x y).2 ⟨rfl, rfl⟩))
  have hg := guard_pt
  have base : Below w.heap.size w (w.alloc (.cells #[.int .i64 c1, .int .i64 c2] 26)) := al1 ..
  go_enter Try.func4, Try.ntmps4
  go_wp2_with fail
  go_region_held3 (fun w' => Below (w.alloc (.cells #[.int .i64 c1, .int .i64 c2] 26)).heap.size (w.alloc (.cells #[.int .i64 c1, .int .i64 c2] 26)) w' ∧ w'.cell? ⟨w.heap.size, 0, none⟩ = some (.int .i64 c1) ∧ w'.cell? ⟨w.heap.size, 1, none⟩ = some (.int .i64 c2))
    (first
      | exact ⟨(Below.refl _ _).drew, by go_simp, by go_simp⟩
      | (go_split_ands
         exact ⟨below_keep (by assumption) (by assumption), cell_keep (by assumption) (by assumption), cell_keep (by assumption) (by assumption)⟩))
    (first
      | (go_at_call 13; (with_reducible refine (pol_of _ _ _ _ _ _ _ HX HY).mono ?_); rintro e w1 ⟨rfl, hb1⟩)
      | (go_at_call 14; (with_reducible refine (refPol_of _ _ _ _ _ _ _ HX HY).mono ?_); rintro e w1 ⟨rfl, hb1⟩)
      | (go_at_call 12; (with_reducible refine (awake_any _).mono ?_); rintro e w1 ⟨rfl, hb1⟩))
  all_goals go_wp2
  all_goals go_ret
  all_goals (go_split_ands; exact ⟨ret_bool (by simp), base.trans (Below.mono (by assumption) base.size)⟩)


set_option maxRecDepth 100000 in
theorem lifted (os : Os) (started : os.Started) (H : Type) (enc : TypeId × Value → H) :
    ReturnsInHanded {} Try.checked os 4 .any (Rows.trigPolarSpec.pre6 enc Try.prog Try.f4 Rows.trigPolarRow.domain false) (Rows.trigPolarSpec.post enc Try.prog Try.f4 false true false false) := by
  refine returnsInHanded_of_change (C := Try.checked) own started (by kernel_rfl) Try.func4
    (ChangeSpec.witness6 (enc := enc) (C := Try.checked) false ⟨#[], #[.agg #[.int .i64 0, .int .i64 0], .int .i64 0, .int .i64 0], []⟩ 8 (by kernel_rfl) (by kernel_rfl) (by kernel_rfl) (by kernel_rfl)) ?_
  intro W base args ds gs before hval0 hW _ _
  have hval : ∀ (j : Nat) t v, Try.f4.params[j]? = some t → args[j]? = some v → Value.okWide Try.prog W .any base t v := hval0
  have hW' := hW
  obtain ⟨p, q, hA0, hV, rfl, hfz, hnd⟩ := hW
  have hA : DataW.TrodAll enc Try.prog W 0 (fun _ => true) true Try.f4.params.toList args.toList ds p := hA0
  rw [Try.params4] at hA hval
  obtain ⟨v0, v1, v2, d0, d1, d2, p0, p1, p2, rfl, rfl, rfl, h0, h1, h2⟩ := trodAll_three hA
  obtain ⟨rfl, rfl⟩ := trodVars_none hV
  obtain ⟨x0, y0, rfl, rfl, rfl, wx0, wy0⟩ := open_pt (hval 0 26 v0 rfl rfl) h0
  obtain ⟨x1, rfl, rfl, rfl, wx1⟩ := open_int Try.underlying3 (hval 1 3 v1 rfl rfl) h1
  have bx1 := bounds_i64 wx1
  obtain ⟨x2, rfl, rfl, rfl, wx2⟩ := open_int Try.underlying3 (hval 2 3 v2 rfl rfl) h2
  have bx2 := bounds_i64 wx2
  clear hA0 hval0
  simp only [List.append_nil] at hW'
  refine (top x0 y0 x1 x2 bx1.1 bx1.2 bx2.1 bx2.2 W).mono fun e W' ⟨he, hb⟩ => ?_
  subst he
  exact ⟨_, rfl, _, _, _, [], [], [], hW', trodAll_mk1 (shut_bool Try.underlying4 _), trodAll_mk3 (shut_pt wx0 wy0) (shut_int Try.underlying3 wx1) (shut_int Try.underlying3 wx2), rfl, hb.frame _, fun h => by cases h⟩

/-- The statement. -/
theorem holds : Rows.TrigPolarSaid :=
  OpenClaim.holds_of_wide 4 Try.f4 rfl rfl rfl rfl rfl rfl rfl ⟨rfl, rfl, rfl, rfl, rfl⟩ rfl rfl rfl rfl rfl (by kernel_rfl) Try.func4 (by kernel_rfl)
    (of_decide_eq_true (by kernel_rfl)) (by unfold Func.isWrapper; first | (rw [if_pos (by decide +kernel)]; kernel_rfl) | (rw [if_neg (by decide +kernel)]; exact ⟨rfl, rfl⟩))
    (fun os started H enc _ => lifted os started H enc)
#print axioms holds

end Go.Proofs.Ytfdhnjoiklhiaaa.lpolar
