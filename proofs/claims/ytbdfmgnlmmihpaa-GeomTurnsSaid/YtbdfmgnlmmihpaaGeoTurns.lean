/-
  GeomTurns: for every three points the orientation is the same after a rotation of the three, and the opposite after an exchange of two, as the statement says. No condition.
-/
import Derived.Test.YtbdfmgnlmmihpaaGeoFrame
import Derived.Test.YtbdfmgnlmmihpaaGeoAwake
namespace Go.Proofs.Ytbdfmgnlmmihpaa.turns
open Go.ChangeShapes Go.WideShapes Go.ChangeAt Go.RowKit

theorem top (a1 a2 b1 b2 c1 c2 : Int) (w : World) :
    Calls Try.prog 6 #[.agg #[.int .i64 a1, .int .i64 a2], .agg #[.int .i64 b1, .int .i64 b2], .agg #[.int .i64 c1, .int .i64 c2]] w fun e w' => e = .returned (.bool true) ∧ Below w.heap.size w w' := by
  obtain ⟨o, ho⟩ : ∃ o, orient a1 a2 b1 b2 c1 c2 = o := ⟨_, rfl⟩
  obtain ⟨o0, o1⟩ := orient_range a1 a2 b1 b2 c1 c2
  rw [ho] at o0 o1
  have H1 := Lib.hid ho
  have H2 : Hid (orient b1 b2 c1 c2 a1 a2 = o) := Lib.hid (by rw [orient_turn, ho])
  have H3 : Hid (orient b1 b2 a1 a2 c1 c2 = -o) := Lib.hid (by rw [orient_swap, ho])
  clear ho
  have base : Below w.heap.size w (((w.alloc (.cells #[.int .i64 a1, .int .i64 a2] 23)).alloc (.cells #[.int .i64 b1, .int .i64 b2] 23)).alloc (.cells #[.int .i64 c1, .int .i64 c2] 23)) :=
    (((Below.refl _ _).alloc (Nat.le_refl _) _).alloc (by simp) _).alloc (by simp; omega) _
  go_enter Try.func6, Try.ntmps6
  go_wp2_with fail
  refine (orient_of _ _ _ _ _ _ _ _ H1).mono ?_
  rintro e w1 ⟨rfl, hb1⟩
  obtain ⟨hc1, hf1⟩ := bcell hb1
  go_wp2_with fail
  refine (orient_of _ _ _ _ _ _ _ _ H2).mono ?_
  rintro e w2 ⟨rfl, hb2⟩
  have hb2 := below_keep hb2 hb1
  obtain ⟨hc2, hf2⟩ := bcell hb2
  go_wp2_with fail
  refine (orient_of _ _ _ _ _ _ _ _ H3).mono ?_
  rintro e w3 ⟨rfl, hb3⟩
  have hb3 := below_keep hb3 hb2
  go_wp2_with fail
  refine (awake_any _).mono ?_
  rintro e w4 ⟨rfl, hb4⟩
  have hb4 := below_keep hb4 hb3
  go_wp2
  go_ret
  exact ⟨rfl, base.trans (hb4.mono (by simp; omega))⟩

set_option maxRecDepth 100000 in
theorem lifted (os : Os) (started : os.Started) (H : Type) (enc : TypeId × Value → H) :
    ReturnsInHanded {} Try.checked os 6 .any (Rows.geomTurnsSpec.pre6 enc Try.prog Try.f6 Rows.geomTurnsRow.domain false) (Rows.geomTurnsSpec.post enc Try.prog Try.f6 false true false false) := by
  refine returnsInHanded_of_change (C := Try.checked) own started (by kernel_rfl) Try.func6
    (ChangeSpec.witness6 (enc := enc) (C := Try.checked) false ⟨#[], #[.agg #[.int .i64 0, .int .i64 0], .agg #[.int .i64 0, .int .i64 0], .agg #[.int .i64 0, .int .i64 0]], []⟩ 8 (by kernel_rfl) (by kernel_rfl) (by kernel_rfl) (by kernel_rfl)) ?_
  intro W base args ds gs before hval0 hW _ _
  have hval : ∀ (j : Nat) t v, Try.f6.params[j]? = some t → args[j]? = some v → Value.okWide Try.prog W .any base t v := hval0
  have hW' := hW
  obtain ⟨p, q, hA0, hV, rfl, hfz, hnd⟩ := hW
  have hA : DataW.TrodAll enc Try.prog W 0 (fun _ => true) true Try.f6.params.toList args.toList ds p := hA0
  rw [Try.params6] at hA hval
  obtain ⟨v0, v1, v2, d0, d1, d2, p0, p1, p2, rfl, rfl, rfl, h0, h1, h2⟩ := trodAll_three hA
  obtain ⟨rfl, rfl⟩ := trodVars_none hV
  obtain ⟨x0, y0, rfl, rfl, rfl, wx0, wy0⟩ := open_pt (hval 0 23 v0 rfl rfl) h0
  obtain ⟨x1, y1, rfl, rfl, rfl, wx1, wy1⟩ := open_pt (hval 1 23 v1 rfl rfl) h1
  obtain ⟨x2, y2, rfl, rfl, rfl, wx2, wy2⟩ := open_pt (hval 2 23 v2 rfl rfl) h2
  clear hA0 hval0
  simp only [List.append_nil] at hW'
  refine (top x0 y0 x1 y1 x2 y2  W).mono fun e W' ⟨he, hb⟩ => ?_
  subst he
  exact ⟨_, rfl, _, _, _, [], [], [], hW', trodAll_mk1 (shut_bool Try.underlying4 _), trodAll_mk3 (shut_pt wx0 wy0) (shut_pt wx1 wy1) (shut_pt wx2 wy2), rfl, hb.frame _, fun h => by cases h⟩

/-- The statement. -/
theorem holds : Rows.GeomTurnsSaid :=
  OpenClaim.holds_of_wide 6 Try.f6 rfl rfl rfl rfl rfl rfl rfl ⟨rfl, rfl, rfl, rfl, rfl⟩ rfl rfl rfl rfl rfl (by kernel_rfl) Try.func6 (by kernel_rfl)
    (of_decide_eq_true (by kernel_rfl)) (by unfold Func.isWrapper; first | (rw [if_pos (by decide +kernel)]; kernel_rfl) | (rw [if_neg (by decide +kernel)]; exact ⟨rfl, rfl⟩))
    (fun os started H enc _ => lifted os started H enc)
#print axioms holds

end Go.Proofs.Ytbdfmgnlmmihpaa.turns
