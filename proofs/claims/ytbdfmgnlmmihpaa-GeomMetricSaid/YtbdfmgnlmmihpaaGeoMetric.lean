/-
  GeomMetric: for every three points Distance is symmetric and satisfies the triangle inequality for valid points, and it is additive for a point on a segment, as the statement says. No condition.
-/
import Derived.Test.YtbdfmgnlmmihpaaGeoFrame
import Derived.Test.YtbdfmgnlmmihpaaGeoAwake
import Derived.Test.YtbdfmgnlmmihpaaGeoRefs
import Derived.Deep.RegionHeld3
namespace Go.Proofs.Ytbdfmgnlmmihpaa.metric
open Go.ChangeShapes Go.WideShapes Go.ChangeAt Go.RowKit

theorem dist_flip {a1 a2 b1 b2 d : Int} (h : dist a1 a2 b1 b2 = d) : dist b1 b2 a1 a2 = d := by rw [dist_comm]; exact h

set_option maxHeartbeats 8000000 in
theorem top (a1 a2 b1 b2 c1 c2 : Int) (w : World) :
    Calls Try.prog 8 #[.agg #[.int .i64 a1, .int .i64 a2], .agg #[.int .i64 b1, .int .i64 b2], .agg #[.int .i64 c1, .int .i64 c2]] w fun e w' => e = .returned (.bool true) ∧ Below w.heap.size w w' := by
  obtain ⟨d, hd⟩ : ∃ v, dist a1 a2 b1 b2 = v := ⟨_, rfl⟩
  obtain ⟨u, hu⟩ : ∃ v, dist b1 b2 c1 c2 = v := ⟨_, rfl⟩
  obtain ⟨f, hf⟩ : ∃ v, dist a1 a2 c1 c2 = v := ⟨_, rfl⟩
  obtain ⟨p, hp⟩ : ∃ v, vld a1 a2 = v := ⟨_, rfl⟩
  obtain ⟨q, hq⟩ : ∃ v, vld b1 b2 = v := ⟨_, rfl⟩
  obtain ⟨r, hr⟩ : ∃ v, vld c1 c2 = v := ⟨_, rfl⟩
  obtain ⟨o, ho⟩ : ∃ v, on b1 b2 a1 a2 c1 c2 = v := ⟨_, rfl⟩
  obtain ⟨d0, d1⟩ := dist_range a1 a2 b1 b2
  obtain ⟨u0, u1⟩ := dist_range b1 b2 c1 c2
  obtain ⟨f0, f1⟩ := dist_range a1 a2 c1 c2
  rw [hd] at d0 d1
  rw [hu] at u0 u1
  rw [hf] at f0 f1
  have HD := Lib.hid hd
  have HD2 := Lib.hid (dist_flip hd)
  have HU := Lib.hid hu
  have HF := Lib.hid hf
  have HP := Lib.hid hp
  have HQ := Lib.hid hq
  have HR := Lib.hid hr
  have HO := Lib.hid ho
  have HT : Hid (p = true → q = true → r = true → f ≤ d + u) := Lib.hid (fun h1 h2 h3 => by rw [← hd, ← hu, ← hf]; exact dist_three _ _ _ _ _ _ (by rw [hp, h1]) (by rw [hq, h2]) (by rw [hr, h3]))
  have HE : Hid (p = true → q = true → r = true → o = true → d + u = f) := Lib.hid (fun h1 h2 h3 h4 => by rw [← hd, ← hu, ← hf]; exact dist_on _ _ _ _ _ _ (by rw [hp, h1]) (by rw [hq, h2]) (by rw [hr, h3]) (by rw [ho, h4]))
  have HZ : Hid (p = true → q = true → (d = 0 ↔ a1 = b1 ∧ a2 = b2)) := Lib.hid (fun h1 h2 => by rw [← hd]; exact dist_zero _ _ _ _ (by rw [hp, h1]) (by rw [hq, h2]))
  clear hd hu hf hp hq hr ho
  have hdn : decide (d < 0) = false := by simpa using d0
  have base : Below w.heap.size w (((w.alloc (.cells #[.int .i64 a1, .int .i64 a2] 23)).alloc (.cells #[.int .i64 b1, .int .i64 b2] 23)).alloc (.cells #[.int .i64 c1, .int .i64 c2] 23)) :=
    (((Below.refl _ _).alloc (Nat.le_refl _) _).alloc (by simp) _).alloc (by simp; omega) _
  go_enter Try.func8, Try.ntmps8
  go_wp2_with fail
  go_region_held3 (fun w' => Below (((w.alloc (.cells #[.int .i64 a1, .int .i64 a2] 23)).alloc (.cells #[.int .i64 b1, .int .i64 b2] 23)).alloc (.cells #[.int .i64 c1, .int .i64 c2] 23)).heap.size (((w.alloc (.cells #[.int .i64 a1, .int .i64 a2] 23)).alloc (.cells #[.int .i64 b1, .int .i64 b2] 23)).alloc (.cells #[.int .i64 c1, .int .i64 c2] 23)) w' ∧ w'.cell? ⟨w.heap.size, 0, none⟩ = some (.int .i64 a1) ∧ w'.cell? ⟨w.heap.size, 1, none⟩ = some (.int .i64 a2) ∧ w'.cell? ⟨w.heap.size + 1, 0, none⟩ = some (.int .i64 b1) ∧ w'.cell? ⟨w.heap.size + 1, 1, none⟩ = some (.int .i64 b2) ∧ w'.cell? ⟨w.heap.size + 2, 0, none⟩ = some (.int .i64 c1) ∧ w'.cell? ⟨w.heap.size + 2, 1, none⟩ = some (.int .i64 c2))
    (first
      | exact ⟨(Below.refl _ _).drew, by go_simp, by go_simp, by go_simp, by go_simp, by go_simp, by go_simp⟩
      | (go_split_ands
         exact ⟨below_keep (by assumption) (by assumption), cell_keep (by assumption) (by assumption), cell_keep (by assumption) (by assumption), cell_keep (by assumption) (by assumption), cell_keep (by assumption) (by assumption), cell_keep (by assumption) (by assumption), cell_keep (by assumption) (by assumption)⟩))
    (first
      | (go_at_call 13; (with_reducible refine (distance_of _ _ _ _ _ _ HD).mono ?_); rintro e w1 ⟨rfl, hb1⟩)
      | (go_at_call 13; (with_reducible refine (distance_of _ _ _ _ _ _ HD2).mono ?_); rintro e w1 ⟨rfl, hb1⟩))
  clear hdn
  go_split_ands
  have hB : Below (((w.alloc (.cells #[.int .i64 a1, .int .i64 a2] 23)).alloc (.cells #[.int .i64 b1, .int .i64 b2] 23)).alloc (.cells #[.int .i64 c1, .int .i64 c2] 23)).heap.size (((w.alloc (.cells #[.int .i64 a1, .int .i64 a2] 23)).alloc (.cells #[.int .i64 b1, .int .i64 b2] 23)).alloc (.cells #[.int .i64 c1, .int .i64 c2] 23)) w1 := by assumption
  have hz0 : w.heap.size < w1.heap.size := by have := hB.size; simp at this; omega
  have hz1 : w.heap.size + 1 < w1.heap.size := by have := hB.size; simp at this; omega
  have hz2 : w.heap.size + 2 < w1.heap.size := by have := hB.size; simp at this; omega
  clear hb1
  go_wp2_with fail
  refine (refValid_of _ _ _ _ HP).mono ?_
  rintro e w2 ⟨rfl, hb2⟩
  obtain ⟨hc2, hf2⟩ := bcell hb2
  cases p
  · go_wp2_with fail
    refine (awake_any _).mono ?_
    rintro e w3 ⟨rfl, hb3⟩
    have hb3 := below_keep hb3 hb2
    go_wp2
    go_ret
    exact ⟨ret_bool (by simp), base.trans (Below.mono (below_keep hb3 hB) base.size)⟩
  go_wp2_with fail
  refine (refValid_of _ _ _ _ HQ).mono ?_
  rintro e w3 ⟨rfl, hb3⟩
  have hb3 := below_keep hb3 hb2
  obtain ⟨hc3, hf3⟩ := bcell hb3
  cases q
  · go_wp2_with fail
    refine (awake_any _).mono ?_
    rintro e w4 ⟨rfl, hb4⟩
    have hb4 := below_keep hb4 hb3
    go_wp2
    go_ret
    exact ⟨ret_bool (by simp), base.trans (Below.mono (below_keep hb4 hB) base.size)⟩
  go_wp2_with fail
  refine (refValid_of _ _ _ _ HR).mono ?_
  rintro e w4 ⟨rfl, hb4⟩
  have hb4 := below_keep hb4 hb3
  cases r
  · go_wp2_with fail
    refine (awake_any _).mono ?_
    rintro e w5 ⟨rfl, hb5⟩
    have hb5 := below_keep hb5 hb4
    go_wp2
    go_ret
    exact ⟨ret_bool (by simp), base.trans (Below.mono (below_keep hb5 hB) base.size)⟩
  have hT : f ≤ d + u := by simpa using HT.out
  have hZ : d = 0 ↔ a1 = b1 ∧ a2 = b2 := by simpa using HZ.out
  have hE : o = true → d + u = f := by simpa using HE.out
  have HZ' := Lib.hid hZ
  have HE' := Lib.hid hE
  clear hZ hE HZ HE HT
  have HB4 := Lib.hid (below_keep hb4 hB)
  have k0 : w4.cell? ⟨w.heap.size, 0, none⟩ = some (.int .i64 a1) := cell_keep hb4 (by assumption)
  have k1 : w4.cell? ⟨w.heap.size, 1, none⟩ = some (.int .i64 a2) := cell_keep hb4 (by assumption)
  have k2 : w4.cell? ⟨w.heap.size + 1, 0, none⟩ = some (.int .i64 b1) := cell_keep hb4 (by assumption)
  have k3 : w4.cell? ⟨w.heap.size + 1, 1, none⟩ = some (.int .i64 b2) := cell_keep hb4 (by assumption)
  have k4 : w4.cell? ⟨w.heap.size + 2, 0, none⟩ = some (.int .i64 c1) := cell_keep hb4 (by assumption)
  have k5 : w4.cell? ⟨w.heap.size + 2, 1, none⟩ = some (.int .i64 c2) := cell_keep hb4 (by assumption)
  clear hb2 hb3 hb4 hc2 hf2 hc3 hf3
  have HBB := Lib.hid hB
  clear hB
  go_wp2_with fail
  go_region_held3 (fun w' => Below w4.heap.size w4 w' ∧ w'.cell? ⟨w.heap.size, 0, none⟩ = some (.int .i64 a1) ∧ w'.cell? ⟨w.heap.size, 1, none⟩ = some (.int .i64 a2) ∧ w'.cell? ⟨w.heap.size + 1, 0, none⟩ = some (.int .i64 b1) ∧ w'.cell? ⟨w.heap.size + 1, 1, none⟩ = some (.int .i64 b2) ∧ w'.cell? ⟨w.heap.size + 2, 0, none⟩ = some (.int .i64 c1) ∧ w'.cell? ⟨w.heap.size + 2, 1, none⟩ = some (.int .i64 c2))
    (first
      | exact ⟨(Below.refl _ _).drew, k0, k1, k2, k3, k4, k5⟩
      | (go_split_ands
         exact ⟨below_keep (by assumption) (by assumption), cell_keep (by assumption) (by assumption), cell_keep (by assumption) (by assumption), cell_keep (by assumption) (by assumption), cell_keep (by assumption) (by assumption), cell_keep (by assumption) (by assumption), cell_keep (by assumption) (by assumption)⟩))
    (first
      | (go_at_call 13; (with_reducible refine (distance_of _ _ _ _ _ _ HD).mono ?_); rintro e w1 ⟨rfl, hb1⟩)
      | (go_at_call 13; (with_reducible refine (distance_of _ _ _ _ _ _ HU).mono ?_); rintro e w1 ⟨rfl, hb1⟩)
      | (go_at_call 13; (with_reducible refine (distance_of _ _ _ _ _ _ HF).mono ?_); rintro e w1 ⟨rfl, hb1⟩))
  go_split_ands
  have hC : Below w4.heap.size w4 w1 := by assumption
  clear hb1
  have HB0 := Lib.hid (base.trans (Below.mono HB4.out base.size))
  have hZ := HZ'.out
  clear HZ' HB4 HBB base
  by_cases h1 : a1 = b1
  · subst h1
    by_cases h2 : a2 = b2
    · subst h2
      obtain rfl : d = 0 := hZ.2 ⟨rfl, rfl⟩
      clear hZ
      go_wp2_with fail
      refine (on_of _ _ _ _ _ _ _ _ HO).mono ?_
      rintro e w2 ⟨rfl, hb2⟩
      cases o
      · go_wp2_with fail
        refine (awake_any _).mono ?_
        rintro e w3 ⟨rfl, hb3⟩
        have hb3 := below_keep hb3 hb2
        go_wp2
        go_ret
        exact ⟨ret_bool (by simp), HB0.out.trans (Below.mono (below_keep hb3 hC) HB0.out.size)⟩
      · have hE := HE'.out
        simp at hE
        subst hE
        go_wp2_with fail
        refine (awake_any _).mono ?_
        rintro e w3 ⟨rfl, hb3⟩
        have hb3 := below_keep hb3 hb2
        go_wp2
        go_ret
        exact ⟨ret_bool (by simp), HB0.out.trans (Below.mono (below_keep hb3 hC) HB0.out.size)⟩
    · have hdz : d ≠ 0 := fun h => h2 (hZ.1 h).2
      have e1 : (d == 0) = false := by simpa using hdz
      have e2 : decide (d = 0) = false := by simpa using hdz
      have e3 : (a2 == b2) = false := by simpa using h2
      have e4 : decide (a2 = b2) = false := by simpa using h2
      clear hZ
      go_wp2_with fail
      refine (on_of _ _ _ _ _ _ _ _ HO).mono ?_
      rintro e w2 ⟨rfl, hb2⟩
      cases o
      · go_wp2_with fail
        refine (awake_any _).mono ?_
        rintro e w3 ⟨rfl, hb3⟩
        have hb3 := below_keep hb3 hb2
        go_wp2
        go_ret
        exact ⟨ret_bool (by simp), HB0.out.trans (Below.mono (below_keep hb3 hC) HB0.out.size)⟩
      · have hE := HE'.out
        simp at hE
        subst hE
        go_wp2_with fail
        refine (awake_any _).mono ?_
        rintro e w3 ⟨rfl, hb3⟩
        have hb3 := below_keep hb3 hb2
        go_wp2
        go_ret
        exact ⟨ret_bool (by simp), HB0.out.trans (Below.mono (below_keep hb3 hC) HB0.out.size)⟩
  · have hdz : d ≠ 0 := fun h => h1 (hZ.1 h).1
    have e1 : (d == 0) = false := by simpa using hdz
    have e2 : decide (d = 0) = false := by simpa using hdz
    have e3 : (a1 == b1) = false := by simpa using h1
    have e4 : decide (a1 = b1) = false := by simpa using h1
    clear hZ
    go_wp2_with fail
    refine (on_of _ _ _ _ _ _ _ _ HO).mono ?_
    rintro e w2 ⟨rfl, hb2⟩
    cases o
    · go_wp2_with fail
      refine (awake_any _).mono ?_
      rintro e w3 ⟨rfl, hb3⟩
      have hb3 := below_keep hb3 hb2
      go_wp2
      go_ret
      exact ⟨ret_bool (by simp), HB0.out.trans (Below.mono (below_keep hb3 hC) HB0.out.size)⟩
    · have hE := HE'.out
      simp at hE
      subst hE
      go_wp2_with fail
      refine (awake_any _).mono ?_
      rintro e w3 ⟨rfl, hb3⟩
      have hb3 := below_keep hb3 hb2
      go_wp2
      go_ret
      exact ⟨ret_bool (by simp), HB0.out.trans (Below.mono (below_keep hb3 hC) HB0.out.size)⟩

set_option maxRecDepth 100000 in
theorem lifted (os : Os) (started : os.Started) (H : Type) (enc : TypeId × Value → H) :
    ReturnsInHanded {} Try.checked os 8 .any (Rows.geomMetricSpec.pre6 enc Try.prog Try.f8 Rows.geomMetricRow.domain false) (Rows.geomMetricSpec.post enc Try.prog Try.f8 false true false false) := by
  refine returnsInHanded_of_change (C := Try.checked) own started (by kernel_rfl) Try.func8
    (ChangeSpec.witness6 (enc := enc) (C := Try.checked) false ⟨#[], #[.agg #[.int .i64 0, .int .i64 0], .agg #[.int .i64 0, .int .i64 0], .agg #[.int .i64 0, .int .i64 0]], []⟩ 8 (by kernel_rfl) (by kernel_rfl) (by kernel_rfl) (by kernel_rfl)) ?_
  intro W base args ds gs before hval0 hW _ _
  have hval : ∀ (j : Nat) t v, Try.f8.params[j]? = some t → args[j]? = some v → Value.okWide Try.prog W .any base t v := hval0
  have hW' := hW
  obtain ⟨p, q, hA0, hV, rfl, hfz, hnd⟩ := hW
  have hA : DataW.TrodAll enc Try.prog W 0 (fun _ => true) true Try.f8.params.toList args.toList ds p := hA0
  rw [Try.params8] at hA hval
  obtain ⟨v0, v1, v2, d0, d1, d2, p0, p1, p2, rfl, rfl, rfl, h0, h1, h2⟩ := trodAll_three hA
  obtain ⟨rfl, rfl⟩ := trodVars_none hV
  obtain ⟨x0, y0, rfl, rfl, rfl, wx0, wy0⟩ := open_pt (hval 0 23 v0 rfl rfl) h0
  obtain ⟨x1, y1, rfl, rfl, rfl, wx1, wy1⟩ := open_pt (hval 1 23 v1 rfl rfl) h1
  obtain ⟨x2, y2, rfl, rfl, rfl, wx2, wy2⟩ := open_pt (hval 2 23 v2 rfl rfl) h2
  clear hA0 hval0
  simp only [List.append_nil] at hW'
  refine (top x0 y0 x1 y1 x2 y2  W).mono fun e W' ⟨he, hb⟩ => ?_
  subst he
  exact ⟨_, rfl, _, _, _, [], [], [], hW', trodAll_mk1 (shut_bool Try.underlying4 _), trodAll_mk3 (shut_pt wx0 wy0) (shut_pt wx1 wy1) (shut_pt wx2 wy2), rfl, hb.frame _, fun h => by cases h⟩

/-- The statement. -/
theorem holds : Rows.GeomMetricSaid :=
  OpenClaim.holds_of_wide 8 Try.f8 rfl rfl rfl rfl rfl rfl rfl ⟨rfl, rfl, rfl, rfl, rfl⟩ rfl rfl rfl rfl rfl (by kernel_rfl) Try.func8 (by kernel_rfl)
    (of_decide_eq_true (by kernel_rfl)) (by unfold Func.isWrapper; first | (rw [if_pos (by decide +kernel)]; kernel_rfl) | (rw [if_neg (by decide +kernel)]; exact ⟨rfl, rfl⟩))
    (fun os started H enc _ => lifted os started H enc)
#print axioms holds

end Go.Proofs.Ytbdfmgnlmmihpaa.metric
