/-
  GeomSymmetric: for every two segments Meet and Cross do not depend on the order of the segments or of their ends, and segments that cross meet, as the statement says. No condition.
-/
import Derived.Test.YtbdfmgnlmmihpaaGeoFrame
import Derived.Test.YtbdfmgnlmmihpaaGeoAwake
import Derived.Test.YtbdfmgnlmmihpaaGeoRefs
import Derived.Deep.RegionHeld3
namespace Go.Proofs.Ytbdfmgnlmmihpaa.symmetric
open Go.ChangeShapes Go.WideShapes Go.ChangeAt Go.RowKit

set_option maxHeartbeats 8000000 in
theorem top (a1 a2 b1 b2 c1 c2 d1 d2 : Int) (w : World) :
    Calls Try.prog 7 #[.agg #[.int .i64 a1, .int .i64 a2, .int .i64 b1, .int .i64 b2], .agg #[.int .i64 c1, .int .i64 c2, .int .i64 d1, .int .i64 d2]] w fun e w' => e = .returned (.bool true) ∧ Below w.heap.size w w' := by
  obtain ⟨m, hm⟩ : ∃ v, meet a1 a2 b1 b2 c1 c2 d1 d2 = v := ⟨_, rfl⟩
  obtain ⟨x, hx⟩ : ∃ v, cross a1 a2 b1 b2 c1 c2 d1 d2 = v := ⟨_, rfl⟩
  have HM := Lib.hid hm
  have HX := Lib.hid hx
  have HM2 : Hid (meet c1 c2 d1 d2 a1 a2 b1 b2 = m) := Lib.hid (by rw [meet_comm, hm])
  have HX2 : Hid (cross c1 c2 d1 d2 a1 a2 b1 b2 = x) := Lib.hid (by rw [cross_comm, hx])
  have HM3 : Hid (meet b1 b2 a1 a2 c1 c2 d1 d2 = m) := Lib.hid (by rw [meet_back, hm])
  have HX3 : Hid (cross b1 b2 a1 a2 c1 c2 d1 d2 = x) := Lib.hid (by rw [cross_back, hx])
  have HI : Hid (x = true → m = true) := Lib.hid (fun h => by rw [← hm]; exact cross_meet _ _ _ _ _ _ _ _ (by rw [hx, h]))
  clear hm hx
  have base : Below w.heap.size w (((w.alloc (.cells #[.int .i64 a1, .int .i64 a2, .int .i64 b1, .int .i64 b2] 30)).alloc (.cells #[.int .i64 c1, .int .i64 c2, .int .i64 d1, .int .i64 d2] 30)).alloc (.cells #[.int .i64 b1, .int .i64 b2, .int .i64 a1, .int .i64 a2] 30)) :=
    (((Below.refl _ _).alloc (Nat.le_refl _) _).alloc (by simp) _).alloc (by simp; omega) _
  go_enter Try.func7, Try.ntmps7
  go_wp2_with fail
  go_region_held3 (fun w' => Below (((w.alloc (.cells #[.int .i64 a1, .int .i64 a2, .int .i64 b1, .int .i64 b2] 30)).alloc (.cells #[.int .i64 c1, .int .i64 c2, .int .i64 d1, .int .i64 d2] 30)).alloc (.cells #[.int .i64 b1, .int .i64 b2, .int .i64 a1, .int .i64 a2] 30)).heap.size (((w.alloc (.cells #[.int .i64 a1, .int .i64 a2, .int .i64 b1, .int .i64 b2] 30)).alloc (.cells #[.int .i64 c1, .int .i64 c2, .int .i64 d1, .int .i64 d2] 30)).alloc (.cells #[.int .i64 b1, .int .i64 b2, .int .i64 a1, .int .i64 a2] 30)) w' ∧ w'.cell? ⟨w.heap.size, 0, none⟩ = some (.int .i64 a1) ∧ w'.cell? ⟨w.heap.size, 1, none⟩ = some (.int .i64 a2) ∧ w'.cell? ⟨w.heap.size, 2, none⟩ = some (.int .i64 b1) ∧ w'.cell? ⟨w.heap.size, 3, none⟩ = some (.int .i64 b2) ∧ w'.cell? ⟨w.heap.size + 1, 0, none⟩ = some (.int .i64 c1) ∧ w'.cell? ⟨w.heap.size + 1, 1, none⟩ = some (.int .i64 c2) ∧ w'.cell? ⟨w.heap.size + 1, 2, none⟩ = some (.int .i64 d1) ∧ w'.cell? ⟨w.heap.size + 1, 3, none⟩ = some (.int .i64 d2) ∧ w'.cell? ⟨w.heap.size + 2, 0, none⟩ = some (.int .i64 b1) ∧ w'.cell? ⟨w.heap.size + 2, 1, none⟩ = some (.int .i64 b2) ∧ w'.cell? ⟨w.heap.size + 2, 2, none⟩ = some (.int .i64 a1) ∧ w'.cell? ⟨w.heap.size + 2, 3, none⟩ = some (.int .i64 a2))
    (first
      | exact ⟨(Below.refl _ _).drew, by go_simp, by go_simp, by go_simp, by go_simp, by go_simp, by go_simp, by go_simp, by go_simp, by go_simp, by go_simp, by go_simp, by go_simp⟩
      | (go_split_ands
         exact ⟨below_keep (by assumption) (by assumption), cell_keep (by assumption) (by assumption), cell_keep (by assumption) (by assumption), cell_keep (by assumption) (by assumption), cell_keep (by assumption) (by assumption), cell_keep (by assumption) (by assumption), cell_keep (by assumption) (by assumption), cell_keep (by assumption) (by assumption), cell_keep (by assumption) (by assumption), cell_keep (by assumption) (by assumption), cell_keep (by assumption) (by assumption), cell_keep (by assumption) (by assumption), cell_keep (by assumption) (by assumption)⟩))
    (first
      | (go_at_call 18; (with_reducible refine (meet_of _ _ _ _ _ _ _ _ _ _ HM).mono ?_); rintro e w1 ⟨rfl, hb1⟩)
      | (go_at_call 20; (with_reducible refine (cross_of _ _ _ _ _ _ _ _ _ _ HX).mono ?_); rintro e w1 ⟨rfl, hb1⟩))
  all_goals go_split_ands
  have hB : Below (((w.alloc (.cells #[.int .i64 a1, .int .i64 a2, .int .i64 b1, .int .i64 b2] 30)).alloc (.cells #[.int .i64 c1, .int .i64 c2, .int .i64 d1, .int .i64 d2] 30)).alloc (.cells #[.int .i64 b1, .int .i64 b2, .int .i64 a1, .int .i64 a2] 30)).heap.size (((w.alloc (.cells #[.int .i64 a1, .int .i64 a2, .int .i64 b1, .int .i64 b2] 30)).alloc (.cells #[.int .i64 c1, .int .i64 c2, .int .i64 d1, .int .i64 d2] 30)).alloc (.cells #[.int .i64 b1, .int .i64 b2, .int .i64 a1, .int .i64 a2] 30)) w1 := by assumption
  have hz0 : w.heap.size < w1.heap.size := by have := hB.size; simp at this; omega
  have hz1 : w.heap.size + 1 < w1.heap.size := by have := hB.size; simp at this; omega
  have hz2 : w.heap.size + 2 < w1.heap.size := by have := hB.size; simp at this; omega
  clear hb1
  go_wp2_with fail
  refine (meet_of _ _ _ _ _ _ _ _ _ _ HM2).mono ?_
  rintro e w2 ⟨rfl, hb2⟩
  obtain ⟨hc2, hf2⟩ := bcell hb2
  go_wp2_with fail
  refine (cross_of _ _ _ _ _ _ _ _ _ _ HX2).mono ?_
  rintro e w3 ⟨rfl, hb3⟩
  have hb3 := below_keep hb3 hb2
  obtain ⟨hc3, hf3⟩ := bcell hb3
  go_wp2_with fail
  refine (meet_of _ _ _ _ _ _ _ _ _ _ HM3).mono ?_
  rintro e w4 ⟨rfl, hb4⟩
  have hb4 := below_keep hb4 hb3
  obtain ⟨hc4, hf4⟩ := bcell hb4
  go_wp2_with fail
  refine (cross_of _ _ _ _ _ _ _ _ _ _ HX3).mono ?_
  rintro e w5 ⟨rfl, hb5⟩
  have hb5 := below_keep hb5 hb4
  have hI := HI.out
  cases x
  · clear hI
    go_wp2_with fail
    refine (awake_any _).mono ?_
    rintro e w6 ⟨rfl, hb6⟩
    have hb6 := below_keep hb6 hb5
    go_wp2
    go_ret
    exact ⟨ret_bool (by simp), base.trans (Below.mono (below_keep hb6 hB) base.size)⟩
  · obtain rfl : m = true := hI rfl
    clear hI
    go_wp2_with fail
    refine (awake_any _).mono ?_
    rintro e w6 ⟨rfl, hb6⟩
    have hb6 := below_keep hb6 hb5
    go_wp2
    go_ret
    exact ⟨ret_bool (by simp), base.trans (Below.mono (below_keep hb6 hB) base.size)⟩

set_option maxRecDepth 100000 in
theorem lifted (os : Os) (started : os.Started) (H : Type) (enc : TypeId × Value → H) :
    ReturnsInHanded {} Try.checked os 7 .any (Rows.geomSymmetricSpec.pre6 enc Try.prog Try.f7 Rows.geomSymmetricRow.domain false) (Rows.geomSymmetricSpec.post enc Try.prog Try.f7 false true false false) := by
  refine returnsInHanded_of_change (C := Try.checked) own started (by kernel_rfl) Try.func7
    (ChangeSpec.witness6 (enc := enc) (C := Try.checked) false ⟨#[], #[.agg #[.int .i64 0, .int .i64 0, .int .i64 0, .int .i64 0], .agg #[.int .i64 0, .int .i64 0, .int .i64 0, .int .i64 0]], []⟩ 8 (by kernel_rfl) (by kernel_rfl) (by kernel_rfl) (by kernel_rfl)) ?_
  intro W base args ds gs before hval0 hW _ _
  have hval : ∀ (j : Nat) t v, Try.f7.params[j]? = some t → args[j]? = some v → Value.okWide Try.prog W .any base t v := hval0
  have hW' := hW
  obtain ⟨p, q, hA0, hV, rfl, hfz, hnd⟩ := hW
  have hA : DataW.TrodAll enc Try.prog W 0 (fun _ => true) true Try.f7.params.toList args.toList ds p := hA0
  rw [Try.params7] at hA hval
  obtain ⟨v0, v1, d0, d1, p0, p1, rfl, rfl, rfl, h0, h1⟩ := trodAll_two hA
  obtain ⟨rfl, rfl⟩ := trodVars_none hV
  obtain ⟨x0, y0, z0, u0, rfl, rfl, rfl, wx0, wy0, wz0, wu0⟩ := open_seg (hval 0 30 v0 rfl rfl) h0
  obtain ⟨x1, y1, z1, u1, rfl, rfl, rfl, wx1, wy1, wz1, wu1⟩ := open_seg (hval 1 30 v1 rfl rfl) h1
  clear hA0 hval0
  simp only [List.append_nil] at hW'
  refine (top x0 y0 z0 u0 x1 y1 z1 u1  W).mono fun e W' ⟨he, hb⟩ => ?_
  subst he
  exact ⟨_, rfl, _, _, _, [], [], [], hW', trodAll_mk1 (shut_bool Try.underlying4 _), trodAll_mk2 (shut_seg wx0 wy0 wz0 wu0) (shut_seg wx1 wy1 wz1 wu1), rfl, hb.frame _, fun h => by cases h⟩

/-- The statement. -/
theorem holds : Rows.GeomSymmetricSaid :=
  OpenClaim.holds_of_wide 7 Try.f7 rfl rfl rfl rfl rfl rfl rfl ⟨rfl, rfl, rfl, rfl, rfl⟩ rfl rfl rfl rfl rfl (by kernel_rfl) Try.func7 (by kernel_rfl)
    (of_decide_eq_true (by kernel_rfl)) (by unfold Func.isWrapper; first | (rw [if_pos (by decide +kernel)]; kernel_rfl) | (rw [if_neg (by decide +kernel)]; exact ⟨rfl, rfl⟩))
    (fun os started H enc _ => lifted os started H enc)
#print axioms holds

end Go.Proofs.Ytbdfmgnlmmihpaa.symmetric
