/-
  TrigGrows: with a greater radius no coordinate of the point comes nearer to that of the center, as the statement says. No condition.
-/
import Derived.Test.YtfdhnjoiklhiaaaTrigAwake
import Derived.Test.YtfdhnjoiklhiaaaTrigAbs
import Derived.Test.YtfdhnjoiklhiaaaTwo
namespace Go.Proofs.Ytfdhnjoiklhiaaa.lgrows
open Go.ChangeShapes Go.WideShapes Go.ChangeAt Go.RowKit

/-- What the statement that lays both points leaves. -/
def TwoCut (W : World) (x y x' y' : Int) (s s' : Value) (wx : World) : Prop := ∃ b b' : Nat, s = .pointer (some ⟨b, 0, none⟩) ∧ s' = .pointer (some ⟨b', 0, none⟩) ∧ W.heap.size ≤ b ∧ W.heap.size ≤ b' ∧ ow2 wx b x y ∧ ow2 wx b' x' y' ∧ Below W.heap.size W wx

/-- The ways in which an argument is not what the statement speaks of, in the order in which it asks. -/
def Off (c1 c2 a b : Int) : Prop := c1 < -1048576 ∨ (-1048576 ≤ c1 ∧ (1048576 < c1 ∨ (c1 ≤ 1048576 ∧ (c2 < -1048576 ∨ (-1048576 ≤ c2 ∧ (1048576 < c2 ∨ (c2 ≤ 1048576 ∧ (a < 0 ∨ (0 ≤ a ∧ (b < a ∨ (a ≤ b ∧ 1048576 < b)))))))))))
set_option maxHeartbeats 8000000 in
theorem bad (c1 c2 a b d : Int) (w : World) (H : Off c1 c2 a b) :
    Calls Try.prog 7 #[.agg #[.int .i64 c1, .int .i64 c2], .int .i64 a, .int .i64 b, .int .i64 d] w fun e w' => e = .returned (.bool true) ∧ Below w.heap.size w w' := by
  have base : Below w.heap.size w (w.alloc (.cells #[.int .i64 c1, .int .i64 c2] 26)) := al1 ..
  unfold Off at H
  rcases H with h1 | ⟨g1, h2 | ⟨g2, h3 | ⟨g3, h4 | ⟨g4, h5 | ⟨g5, h6 | ⟨g6, h7⟩⟩⟩⟩⟩⟩
  all_goals
    go_enter Try.func7, Try.ntmps7
    go_wp2_with (go_at_call 12; (with_reducible refine (awake_any _).mono ?_); rintro e w1 ⟨rfl, hb1⟩)
    go_ret
    exact ⟨rfl, base.trans (hb1.mono base.size)⟩

set_option maxRecDepth 100000 in
set_option maxHeartbeats 64000000 in
theorem good (c1 c2 a b d : Int) (w : World) (h1 : -1048576 ≤ c1) (h2 : c1 ≤ 1048576) (h3 : -1048576 ≤ c2) (h4 : c2 ≤ 1048576) (h5 : 0 ≤ a) (h6 : a ≤ b) (h7 : b ≤ 1048576) :
    Calls Try.prog 7 #[.agg #[.int .i64 c1, .int .i64 c2], .int .i64 a, .int .i64 b, .int .i64 d] w fun e w' => e = .returned (.bool true) ∧ Below w.heap.size w w' := by
  have ho := pol_grows c1 c2 a b d h1 h2 h3 h4 h5 h6 h7
  have pr := pol_range c1 c2 a d
  have pr2 := pol_range c1 c2 b d
  obtain ⟨x, hx⟩ : ∃ v, polX c1 c2 a d = v := ⟨_, rfl⟩
  obtain ⟨y, hy⟩ : ∃ v, polY c1 c2 a d = v := ⟨_, rfl⟩
  obtain ⟨x', hx'⟩ : ∃ v, polX c1 c2 b d = v := ⟨_, rfl⟩
  obtain ⟨y', hy'⟩ : ∃ v, polY c1 c2 b d = v := ⟨_, rfl⟩
  rw [hx, hy, hx', hy'] at ho
  rw [hx, hy] at pr
  rw [hx', hy'] at pr2
  have HX := Lib.hid hx
  have HY := Lib.hid hy
  have HX2 := Lib.hid hx'
  have HY2 := Lib.hid hy'
  clear hx hy hx' hy'
  obtain ⟨px0, px1, py0, py1⟩ := pr
  obtain ⟨qx0, qx1, qy0, qy1⟩ := pr2
  obtain ⟨u1, eu1⟩ : ∃ v, x - c1 = v := ⟨_, rfl⟩
  obtain ⟨v1, ev1⟩ : ∃ v, x' - c1 = v := ⟨_, rfl⟩
  obtain ⟨u2, eu2⟩ : ∃ v, y - c2 = v := ⟨_, rfl⟩
  obtain ⟨v2, ev2⟩ : ∃ v, y' - c2 = v := ⟨_, rfl⟩
  rw [eu1, ev1, eu2, ev2] at ho
  have EU1 : Hid (IntKind.i64.wrap (x - c1) = u1) := Lib.hid (by rw [← eu1]; exact IntWalk.i64_in _ (by omega))
  have EV1 : Hid (IntKind.i64.wrap (x' - c1) = v1) := Lib.hid (by rw [← ev1]; exact IntWalk.i64_in _ (by omega))
  have EU2 : Hid (IntKind.i64.wrap (y - c2) = u2) := Lib.hid (by rw [← eu2]; exact IntWalk.i64_in _ (by omega))
  have EV2 : Hid (IntKind.i64.wrap (y' - c2) = v2) := Lib.hid (by rw [← ev2]; exact IntWalk.i64_in _ (by omega))
  have RU1 : Hid (-9223372036854775807 ≤ u1 ∧ u1 ≤ 9223372036854775807) := Lib.hid (by omega)
  have RV1 : Hid (-9223372036854775807 ≤ v1 ∧ v1 ≤ 9223372036854775807) := Lib.hid (by omega)
  have RU2 : Hid (-9223372036854775807 ≤ u2 ∧ u2 ≤ 9223372036854775807) := Lib.hid (by omega)
  have RV2 : Hid (-9223372036854775807 ≤ v2 ∧ v2 ≤ 9223372036854775807) := Lib.hid (by omega)
  clear eu1 ev1 eu2 ev2
  obtain ⟨U1, hU1⟩ : ∃ v, absI u1 = v := ⟨_, rfl⟩
  obtain ⟨V1, hV1⟩ : ∃ v, absI v1 = v := ⟨_, rfl⟩
  obtain ⟨U2, hU2⟩ : ∃ v, absI u2 = v := ⟨_, rfl⟩
  obtain ⟨V2, hV2⟩ : ∃ v, absI v2 = v := ⟨_, rfl⟩
  rw [hU1, hV1, hU2, hV2] at ho
  have HU1 := Lib.hid hU1
  have HV1 := Lib.hid hV1
  have HU2 := Lib.hid hU2
  have HV2 := Lib.hid hV2
  clear hU1 hV1 hU2 hV2
  obtain ⟨ho1, ho2, ho3, ho4⟩ := ho
  go_enter Try.func7, Try.ntmps7
  go_upto_region 3 with (fail)
  have hq0 : Below w.heap.size w (w.alloc (.cells #[.int .i64 c1, .int .i64 c2] 26)) := al1 ..
  have hc0 := at2_new w c1 c2 26
  have z0 : w.heap.size < (w.alloc (.cells #[.int .i64 c1, .int .i64 c2] 26)).heap.size := by simp
  generalize w.alloc (.cells #[.int .i64 c1, .int .i64 c2] 26) = W0 at hq0 hc0 z0 ⊢
  obtain ⟨d0, d1⟩ := hc0
  go_cut [9, 10] (fun s s' wx => TwoCut W0 x y x' y' s s' wx)
  case first =>
    have hP0 : Below W0.heap.size W0 W0 ∧ W0.cell? ⟨w.heap.size, 0, none⟩ = some (.int .i64 c1) ∧ W0.cell? ⟨w.heap.size, 1, none⟩ = some (.int .i64 c2) := k_refl d0 d1
    go_region_held3 (fun w' => Below W0.heap.size W0 w' ∧ w'.cell? ⟨w.heap.size, 0, none⟩ = some (.int .i64 c1) ∧ w'.cell? ⟨w.heap.size, 1, none⟩ = some (.int .i64 c2))
      ((repeat (first | (with_reducible assumption) | (with_reducible refine k_drew ?_) | (with_reducible refine k_alloc ?_) | (with_reducible refine k_set ?_ ?_ ?_) | omega)))
      (first
        | (go_at_call 13; (with_reducible refine (pol_of _ _ _ _ _ _ _ HX HY).mono ?_); rintro e w2 ⟨rfl, hb2⟩; have hP : Below W0.heap.size W0 w2 ∧ w2.cell? ⟨w.heap.size, 0, none⟩ = some (.int .i64 c1) ∧ w2.cell? ⟨w.heap.size, 1, none⟩ = some (.int .i64 c2) := (by refine k_call hb2 ?_; (repeat (first | (with_reducible assumption) | (with_reducible refine k_drew ?_) | (with_reducible refine k_alloc ?_) | (with_reducible refine k_set ?_ ?_ ?_) | omega))); have l2 := hb2.size; (try simp at l2); (try ((with_reducible have hk := ow2_keep hb2 (ow2_new _ 0 0 26)); (try simp only [World.size_alloc] at hk); have g0 := hk.1; have g1 := hk.2.1; have g2 := hk.2.2.1; have g3 := hk.2.2.2; have gl := ow2_lt hk; have gn := Nat.ne_of_lt gl; have gm := Nat.ne_of_gt gl)); (try ((with_reducible have hk := ow2_keep hb2 (ow2_drew (ow2_new _ 0 0 26))); (try simp only [World.size_alloc] at hk); have g0 := hk.1; have g1 := hk.2.1; have g2 := hk.2.2.1; have g3 := hk.2.2.2; have gl := ow2_lt hk; have gn := Nat.ne_of_lt gl; have gm := Nat.ne_of_gt gl)); (try ((with_reducible have hk := ow2_keep hb2 (ow2_keep (al1 ..) (ow2_new _ 0 0 26))); (try simp only [World.size_alloc] at hk); have g0 := hk.1; have g1 := hk.2.1; have g2 := hk.2.2.1; have g3 := hk.2.2.2; have gl := ow2_lt hk; have gn := Nat.ne_of_lt gl; have gm := Nat.ne_of_gt gl)); (try ((with_reducible have hk := ow2_keep hb2 (ow2_drew (ow2_keep (al1 ..) (ow2_new _ 0 0 26)))); (try simp only [World.size_alloc] at hk); have g0 := hk.1; have g1 := hk.2.1; have g2 := hk.2.2.1; have g3 := hk.2.2.2; have gl := ow2_lt hk; have gn := Nat.ne_of_lt gl; have gm := Nat.ne_of_gt gl)))
        | (go_at_call 13; (with_reducible refine (pol_of _ _ _ _ _ _ _ HX2 HY2).mono ?_); rintro e w2 ⟨rfl, hb2⟩; have hP : Below W0.heap.size W0 w2 ∧ w2.cell? ⟨w.heap.size, 0, none⟩ = some (.int .i64 c1) ∧ w2.cell? ⟨w.heap.size, 1, none⟩ = some (.int .i64 c2) := (by refine k_call hb2 ?_; (repeat (first | (with_reducible assumption) | (with_reducible refine k_drew ?_) | (with_reducible refine k_alloc ?_) | (with_reducible refine k_set ?_ ?_ ?_) | omega))); have l2 := hb2.size; (try simp at l2); (try ((with_reducible have hk := ow2_keep hb2 (ow2_new _ 0 0 26)); (try simp only [World.size_alloc] at hk); have g0 := hk.1; have g1 := hk.2.1; have g2 := hk.2.2.1; have g3 := hk.2.2.2; have gl := ow2_lt hk; have gn := Nat.ne_of_lt gl; have gm := Nat.ne_of_gt gl)); (try ((with_reducible have hk := ow2_keep hb2 (ow2_drew (ow2_new _ 0 0 26))); (try simp only [World.size_alloc] at hk); have g0 := hk.1; have g1 := hk.2.1; have g2 := hk.2.2.1; have g3 := hk.2.2.2; have gl := ow2_lt hk; have gn := Nat.ne_of_lt gl; have gm := Nat.ne_of_gt gl)); (try ((with_reducible have hk := ow2_keep hb2 (ow2_keep (al1 ..) (ow2_new _ 0 0 26))); (try simp only [World.size_alloc] at hk); have g0 := hk.1; have g1 := hk.2.1; have g2 := hk.2.2.1; have g3 := hk.2.2.2; have gl := ow2_lt hk; have gn := Nat.ne_of_lt gl; have gm := Nat.ne_of_gt gl)); (try ((with_reducible have hk := ow2_keep hb2 (ow2_drew (ow2_keep (al1 ..) (ow2_new _ 0 0 26)))); (try simp only [World.size_alloc] at hk); have g0 := hk.1; have g1 := hk.2.1; have g2 := hk.2.2.1; have g3 := hk.2.2.2; have gl := ow2_lt hk; have gn := Nat.ne_of_lt gl; have gm := Nat.ne_of_gt gl)); (try ((with_reducible have hk := ow2_keep hb2 ((by assumption : ow2 _ W0.heap.size 0 0))); (try simp only [World.size_alloc] at hk); have g0 := hk.1; have g1 := hk.2.1; have g2 := hk.2.2.1; have g3 := hk.2.2.2; have gl := ow2_lt hk; have gn := Nat.ne_of_lt gl; have gm := Nat.ne_of_gt gl)); (try ((with_reducible have hk := ow2_keep hb2 ((by assumption : ow2 _ (W0.heap.size + 1) 0 0))); (try simp only [World.size_alloc] at hk); have g0 := hk.1; have g1 := hk.2.1; have g2 := hk.2.2.1; have g3 := hk.2.2.2; have gl := ow2_lt hk; have gn := Nat.ne_of_lt gl; have gm := Nat.ne_of_gt gl)); (try ((with_reducible have hk := ow2_keep hb2 (ow2_keep (al1 ..) (by assumption : ow2 _ W0.heap.size 0 0))); (try simp only [World.size_alloc] at hk); have g0 := hk.1; have g1 := hk.2.1; have g2 := hk.2.2.1; have g3 := hk.2.2.2; have gl := ow2_lt hk; have gn := Nat.ne_of_lt gl; have gm := Nat.ne_of_gt gl))))
    all_goals
      go_split_ands
      go_wp2_with fail
      go_meet
      refine ⟨_, _, rfl, rfl, ?_, ?_, ?_, ?_, ?_⟩
      · omega
      · omega
      · (repeat (first | (with_reducible assumption) | (with_reducible exact ow2_new _ _ _ _) | (with_reducible refine ow2_set0 _ _ ?_) | (with_reducible refine ow2_far ?_ ?_) | (with_reducible refine ow2_here _ _ _ ?_; simp; done) | (with_reducible refine ow2_keep (al1 ..) ?_) | omega))
      · (repeat (first | (with_reducible assumption) | (with_reducible exact ow2_new _ _ _ _) | (with_reducible refine ow2_set0 _ _ ?_) | (with_reducible refine ow2_far ?_ ?_) | (with_reducible refine ow2_here _ _ _ ?_; simp; done) | (with_reducible refine ow2_keep (al1 ..) ?_) | omega))
      · (with_reducible assumption)
  case rest =>
    obtain ⟨g, g', rfl, rfl, hg, hg', o1, o2, hB⟩ := hcut
    have hc1 := cell_keep hB d0
    have hc2 := cell_keep hB d1
    have hq1 := below_keep hB hq0
    clear d0 d1 hq0 hB
    obtain ⟨o10, o11, -, -⟩ := o1
    obtain ⟨o20, o21, -, -⟩ := o2
    have e1 := EU1.out
    have e2 := EV1.out
    have e3 := EU2.out
    have e4 := EV2.out
    go_wp2_with fail
    go_region_held3 (fun w' => Below wc.heap.size wc w' ∧ w'.cell? ⟨w.heap.size, 0, none⟩ = some (.int .i64 c1) ∧ w'.cell? ⟨w.heap.size, 1, none⟩ = some (.int .i64 c2) ∧ w'.cell? ⟨g, 0, none⟩ = some (.int .i64 x) ∧ w'.cell? ⟨g, 1, none⟩ = some (.int .i64 y) ∧ w'.cell? ⟨g', 0, none⟩ = some (.int .i64 x') ∧ w'.cell? ⟨g', 1, none⟩ = some (.int .i64 y'))
      (first
        | exact ⟨(Below.refl _ _).drew, by go_simp, by go_simp, by go_simp, by go_simp, by go_simp, by go_simp⟩
        | (with_reducible assumption)
        | (go_split_ands; with_reducible exact ⟨below_keep (by assumption) (by assumption), cell_keep (by assumption) (by assumption), cell_keep (by assumption) (by assumption), cell_keep (by assumption) (by assumption), cell_keep (by assumption) (by assumption), cell_keep (by assumption) (by assumption), cell_keep (by assumption) (by assumption)⟩))
      (first
        | (go_at_call 15; (with_reducible refine (labs_of _ _ _ RU1 HU1).mono ?_); rintro e w5 ⟨rfl, rfl⟩)
        | (go_at_call 15; (with_reducible refine (labs_of _ _ _ RV1 HV1).mono ?_); rintro e w5 ⟨rfl, rfl⟩)
        | (go_at_call 15; (with_reducible refine (labs_of _ _ _ RU2 HU2).mono ?_); rintro e w5 ⟨rfl, rfl⟩)
        | (go_at_call 15; (with_reducible refine (labs_of _ _ _ RV2 HV2).mono ?_); rintro e w5 ⟨rfl, rfl⟩)
        | (go_at_call 12; (with_reducible refine (awake_any _).mono ?_); rintro e w5 ⟨rfl, hb5⟩))
    all_goals go_wp2
    all_goals go_ret
    all_goals (go_split_ands; exact ⟨ret_bool (by simp), below_keep (by assumption) hq1⟩)

theorem top (c1 c2 a b d : Int) (_h0 : -9223372036854775808 ≤ a) (_h1 : a ≤ 9223372036854775807) (_h2 : -9223372036854775808 ≤ b) (_h3 : b ≤ 9223372036854775807) (_h4 : -9223372036854775808 ≤ d) (_h5 : d ≤ 9223372036854775807) (w : World) :
    Calls Try.prog 7 #[.agg #[.int .i64 c1, .int .i64 c2], .int .i64 a, .int .i64 b, .int .i64 d] w fun e w' => e = .returned (.bool true) ∧ Below w.heap.size w w' := by
  by_cases h : (-1048576 ≤ c1 ∧ c1 ≤ 1048576) ∧ (-1048576 ≤ c2 ∧ c2 ≤ 1048576) ∧ 0 ≤ a ∧ a ≤ b ∧ b ≤ 1048576
  · exact good c1 c2 a b d w h.1.1 h.1.2 h.2.1.1 h.2.1.2 h.2.2.1 h.2.2.2.1 h.2.2.2.2
  · exact bad c1 c2 a b d w (by unfold Off; omega)


set_option maxRecDepth 100000 in
theorem lifted (os : Os) (started : os.Started) (H : Type) (enc : TypeId × Value → H) :
    ReturnsInHanded {} Try.checked os 7 .any (Rows.trigGrowsSpec.pre6 enc Try.prog Try.f7 Rows.trigGrowsRow.domain false) (Rows.trigGrowsSpec.post enc Try.prog Try.f7 false true false false) := by
  refine returnsInHanded_of_change (C := Try.checked) own started (by kernel_rfl) Try.func7
    (ChangeSpec.witness6 (enc := enc) (C := Try.checked) false ⟨#[], #[.agg #[.int .i64 0, .int .i64 0], .int .i64 0, .int .i64 0, .int .i64 0], []⟩ 8 (by kernel_rfl) (by kernel_rfl) (by kernel_rfl) (by kernel_rfl)) ?_
  intro W base args ds gs before hval0 hW _ _
  have hval : ∀ (j : Nat) t v, Try.f7.params[j]? = some t → args[j]? = some v → Value.okWide Try.prog W .any base t v := hval0
  have hW' := hW
  obtain ⟨p, q, hA0, hV, rfl, hfz, hnd⟩ := hW
  have hA : DataW.TrodAll enc Try.prog W 0 (fun _ => true) true Try.f7.params.toList args.toList ds p := hA0
  rw [Try.params7] at hA hval
  obtain ⟨v0, v1, v2, v3, d0, d1, d2, d3, p0, p1, p2, p3, rfl, rfl, rfl, h0, h1, h2, h3⟩ := trodAll_four hA
  obtain ⟨rfl, rfl⟩ := trodVars_none hV
  obtain ⟨x0, y0, rfl, rfl, rfl, wx0, wy0⟩ := open_pt (hval 0 26 v0 rfl rfl) h0
  obtain ⟨x1, rfl, rfl, rfl, wx1⟩ := open_int Try.underlying3 (hval 1 3 v1 rfl rfl) h1
  have bx1 := bounds_i64 wx1
  obtain ⟨x2, rfl, rfl, rfl, wx2⟩ := open_int Try.underlying3 (hval 2 3 v2 rfl rfl) h2
  have bx2 := bounds_i64 wx2
  obtain ⟨x3, rfl, rfl, rfl, wx3⟩ := open_int Try.underlying3 (hval 3 3 v3 rfl rfl) h3
  have bx3 := bounds_i64 wx3
  clear hA0 hval0
  simp only [List.append_nil] at hW'
  refine (top x0 y0 x1 x2 x3 bx1.1 bx1.2 bx2.1 bx2.2 bx3.1 bx3.2 W).mono fun e W' ⟨he, hb⟩ => ?_
  subst he
  exact ⟨_, rfl, _, _, _, [], [], [], hW', trodAll_mk1 (shut_bool Try.underlying4 _), trodAll_mk4 (shut_pt wx0 wy0) (shut_int Try.underlying3 wx1) (shut_int Try.underlying3 wx2) (shut_int Try.underlying3 wx3), rfl, hb.frame _, fun h => by cases h⟩

/-- The statement. -/
theorem holds : Rows.TrigGrowsSaid :=
  OpenClaim.holds_of_wide 7 Try.f7 rfl rfl rfl rfl rfl rfl rfl ⟨rfl, rfl, rfl, rfl, rfl⟩ rfl rfl rfl rfl rfl (by kernel_rfl) Try.func7 (by kernel_rfl)
    (of_decide_eq_true (by kernel_rfl)) (by unfold Func.isWrapper; first | (rw [if_pos (by decide +kernel)]; kernel_rfl) | (rw [if_neg (by decide +kernel)]; exact ⟨rfl, rfl⟩))
    (fun os started H enc _ => lifted os started H enc)
#print axioms holds

end Go.Proofs.Ytfdhnjoiklhiaaa.lgrows
