/-
  BoxHits: for every box and segment, Hits answers as the reference does, in both directions, as the statement says. No condition.
-/
import Derived.Test.YtifliljlacmmlaaBoxFrame
import Derived.Test.YtifliljlacmmlaaBoxAwake
import Derived.Deep.RegionHeld3
namespace Go.Proofs.Ytifliljlacmmlaa.lhits
open Go.ChangeShapes Go.WideShapes Go.ChangeAt Go.RowKit

set_option maxHeartbeats 2000000 in
theorem top (x y z u a1 a2 b1 b2 : Int) (w : World) :
    Calls Try.prog 7 #[.agg #[.int .i64 x, .int .i64 y, .int .i64 z, .int .i64 u], .agg #[.int .i64 a1, .int .i64 a2, .int .i64 b1, .int .i64 b2]] w fun e w' => e = .returned (.bool true) ∧ Below w.heap.size w w' := by
  obtain ⟨v, hv⟩ : ∃ v, hits x y z u a1 a2 b1 b2 = v := ⟨_, rfl⟩
  have HV := Lib.hid hv
  have HW : Hid (hits x y z u b1 b2 a1 a2 = v) := Lib.hid (by rw [hits_back, hv])
  clear hv
  have hvv : (v == v) = true := by simp
  go_enter Try.func7, Try.ntmps7
  go_wp2_with fail
  refine (rhits_of _ _ _ _ _ _ _ _ _ _ HV).mono ?_
  rintro e w1 ⟨rfl, hb1⟩
  have hq1 := below_keep hb1 (al2 ..)
  have f0_1 : at4 w1 (w.heap.size) x y z u := by simpa using at4_keep hb1 (at4_keep (al1 ..) (at4_new w x y z u 23))
  have f1_1 : at4 w1 (w.heap.size + 1) a1 a2 b1 b2 := by simpa using at4_keep hb1 (at4_new (w.alloc (.cells #[.int .i64 x, .int .i64 y, .int .i64 z, .int .i64 u] 23)) a1 a2 b1 b2 42)
  have g := f0_1; obtain ⟨c0_1_0, c0_1_1, c0_1_2, c0_1_3⟩ := g
  have g := f1_1; obtain ⟨c1_1_0, c1_1_1, c1_1_2, c1_1_3⟩ := g
  go_wp2_with fail
  refine (hits_of _ _ _ _ _ _ _ _ _ _ HV).mono ?_
  rintro e w2 ⟨rfl, hb2⟩
  have hq2 := below_keep hb2 (hq1)
  have f0_2 : at4 w2 (w.heap.size) x y z u := at4_keep hb2 (f0_1)
  have f1_2 : at4 w2 (w.heap.size + 1) a1 a2 b1 b2 := at4_keep hb2 (f1_1)
  clear f0_1 c0_1_0 c0_1_1 c0_1_2 c0_1_3
  clear f1_1 c1_1_0 c1_1_1 c1_1_2 c1_1_3
  have g := f0_2; obtain ⟨c0_2_0, c0_2_1, c0_2_2, c0_2_3⟩ := g
  have g := f1_2; obtain ⟨c1_2_0, c1_2_1, c1_2_2, c1_2_3⟩ := g
  go_wp2_with fail
  refine (hits_of _ _ _ _ _ _ _ _ _ _ HW).mono ?_
  rintro e w3 ⟨rfl, hb3⟩
  have hq3 := below_keep hb3 (hq2)
  have f0_3 : at4 w3 (w.heap.size) x y z u := at4_keep hb3 (f0_2)
  have f1_3 : at4 w3 (w.heap.size + 1) a1 a2 b1 b2 := at4_keep hb3 (f1_2)
  clear f0_2 c0_2_0 c0_2_1 c0_2_2 c0_2_3
  clear f1_2 c1_2_0 c1_2_1 c1_2_2 c1_2_3
  have g := f0_3; obtain ⟨c0_3_0, c0_3_1, c0_3_2, c0_3_3⟩ := g
  have g := f1_3; obtain ⟨c1_3_0, c1_3_1, c1_3_2, c1_3_3⟩ := g
  go_wp2_with fail
  refine (awake_any _).mono ?_
  rintro e w4 ⟨rfl, hb4⟩
  have hq4 := below_keep hb4 (hq3)
  have f0_4 : at4 w4 (w.heap.size) x y z u := at4_keep hb4 (f0_3)
  have f1_4 : at4 w4 (w.heap.size + 1) a1 a2 b1 b2 := at4_keep hb4 (f1_3)
  clear f0_3 c0_3_0 c0_3_1 c0_3_2 c0_3_3
  clear f1_3 c1_3_0 c1_3_1 c1_3_2 c1_3_3
  have g := f0_4; obtain ⟨c0_4_0, c0_4_1, c0_4_2, c0_4_3⟩ := g
  have g := f1_4; obtain ⟨c1_4_0, c1_4_1, c1_4_2, c1_4_3⟩ := g
  go_wp2
  go_ret
  exact ⟨rfl, hq4⟩

set_option maxRecDepth 100000 in
theorem lifted (os : Os) (started : os.Started) (H : Type) (enc : TypeId × Value → H) :
    ReturnsInHanded {} Try.checked os 7 .any (Rows.boxHitsSpec.pre6 enc Try.prog Try.f7 Rows.boxHitsRow.domain false) (Rows.boxHitsSpec.post enc Try.prog Try.f7 false true false false) := by
  refine returnsInHanded_of_change (C := Try.checked) own started (by kernel_rfl) Try.func7
    (ChangeSpec.witness6 (enc := enc) (C := Try.checked) false ⟨#[], #[.agg #[.int .i64 0, .int .i64 0, .int .i64 0, .int .i64 0], .agg #[.int .i64 0, .int .i64 0, .int .i64 0, .int .i64 0]], []⟩ 8 (by kernel_rfl) (by kernel_rfl) (by kernel_rfl) (by kernel_rfl)) ?_
  intro W base args ds gs before hval0 hW _ _
  have hval : ∀ (j : Nat) t v, Try.f7.params[j]? = some t → args[j]? = some v → Value.okWide Try.prog W .any base t v := hval0
  have hW' := hW
  obtain ⟨p, q, hA0, hV, rfl, hfz, hnd⟩ := hW
  have hA : DataW.TrodAll enc Try.prog W 0 (fun _ => true) true Try.f7.params.toList args.toList ds p := hA0
  rw [Try.params7] at hA hval
  obtain ⟨v0, v1, d0, d1, p0, p1, rfl, rfl, rfl, h0, h1⟩ := trodAll_two hA
  obtain ⟨rfl, rfl⟩ := trodVars_none hV
  obtain ⟨x0, y0, z0, u0, rfl, rfl, rfl, wx0, wy0, wz0, wu0⟩ := open_box (hval 0 23 v0 rfl rfl) h0
  obtain ⟨x1, y1, z1, u1, rfl, rfl, rfl, wx1, wy1, wz1, wu1⟩ := open_seg (hval 1 42 v1 rfl rfl) h1
  clear hA0 hval0
  simp only [List.append_nil] at hW'
  refine (top x0 y0 z0 u0 x1 y1 z1 u1  W).mono fun e W' ⟨he, hb⟩ => ?_
  subst he
  exact ⟨_, rfl, _, _, _, [], [], [], hW', trodAll_mk1 (shut_bool Try.underlying4 _), trodAll_mk2 (shut_box wx0 wy0 wz0 wu0) (shut_seg wx1 wy1 wz1 wu1), rfl, hb.frame _, fun h => by cases h⟩

/-- The statement. -/
theorem holds : Rows.BoxHitsSaid :=
  OpenClaim.holds_of_wide 7 Try.f7 rfl rfl rfl rfl rfl rfl rfl ⟨rfl, rfl, rfl, rfl, rfl⟩ rfl rfl rfl rfl rfl (by kernel_rfl) Try.func7 (by kernel_rfl)
    (of_decide_eq_true (by kernel_rfl)) (by unfold Func.isWrapper; first | (rw [if_pos (by decide +kernel)]; kernel_rfl) | (rw [if_neg (by decide +kernel)]; exact ⟨rfl, rfl⟩))
    (fun os started H enc _ => lifted os started H enc)
#print axioms holds

end Go.Proofs.Ytifliljlacmmlaa.lhits
