/-
  TrigOpposite: the points at opposite angles have the center as their midpoint, as the statement says. No condition.
-/
import Derived.Test.YtfdhnjoiklhiaaaTrigAwake
import Derived.Test.YtfdhnjoiklhiaaaTrigAbs
import Derived.Test.YtfdhnjoiklhiaaaTwo
namespace Go.Proofs.Ytfdhnjoiklhiaaa.lopposite
open Go.ChangeShapes Go.WideShapes Go.ChangeAt Go.RowKit

/-- What the statement that lays both points leaves. -/
def TwoCut (W : World) (x y x' y' : Int) (s s' : Value) (wx : World) : Prop := ∃ b b' : Nat, s = .pointer (some ⟨b, 0, none⟩) ∧ s' = .pointer (some ⟨b', 0, none⟩) ∧ W.heap.size ≤ b ∧ W.heap.size ≤ b' ∧ ow2 wx b x y ∧ ow2 wx b' x' y' ∧ Below W.heap.size W wx

theorem polV (c1 c2 r d : Int) : vld (polX c1 c2 r d) (polY c1 c2 r d) = true := by
  rw [vld_iff]; exact pol_range c1 c2 r d

set_option maxRecDepth 100000 in
set_option maxHeartbeats 64000000 in
theorem good (c1 c2 r d : Int) (w : World) (h1 : -1048576 ≤ c1) (h2 : c1 ≤ 1048576) (h3 : -1048576 ≤ c2) (h4 : c2 ≤ 1048576) (h5 : 0 ≤ r) (h6 : r ≤ 1048576) (h7 : -1099511627776 ≤ d) (h8 : d ≤ 1099511627776) :
    Calls Try.prog 6 #[.agg #[.int .i64 c1, .int .i64 c2], .int .i64 r, .int .i64 d] w fun e w' => e = .returned (.bool true) ∧ Below w.heap.size w w' := by
  have ho := pol_opposite c1 c2 r d h1 h2 h3 h4 h5 h6
  have hv := polV c1 c2 r d
  have pr := pol_range c1 c2 r d
  have pr2 := pol_range c1 c2 r (d + 180)
  have ed : IntKind.i64.wrap (d + 180) = d + 180 := IntWalk.i64_in _ (by omega)
  obtain ⟨d', hd⟩ : ∃ v, d + 180 = v := ⟨_, rfl⟩
  rw [hd] at ho ed pr2
  have ED : Hid (IntKind.i64.wrap (d + 180) = d') := Lib.hid (by rw [hd]; exact ed)
  obtain ⟨x, hx⟩ : ∃ v, polX c1 c2 r d = v := ⟨_, rfl⟩
  obtain ⟨y, hy⟩ : ∃ v, polY c1 c2 r d = v := ⟨_, rfl⟩
  obtain ⟨x', hx'⟩ : ∃ v, polX c1 c2 r d' = v := ⟨_, rfl⟩
  obtain ⟨y', hy'⟩ : ∃ v, polY c1 c2 r d' = v := ⟨_, rfl⟩
  rw [hx, hy, hx', hy'] at ho
  rw [hx, hy] at hv pr
  rw [hx', hy'] at pr2
  have HX := Lib.hid hx
  have HY := Lib.hid hy
  have HX2 := Lib.hid hx'
  have HY2 := Lib.hid hy'
  have HV := Lib.hid hv
  have HO := Lib.hid ho
  clear hx hy hx' hy' hv ho ed hd
  obtain ⟨m1, hm1⟩ : ∃ v, labsV c1 = v := ⟨_, rfl⟩
  obtain ⟨m2, hm2⟩ : ∃ v, labsV c2 = v := ⟨_, rfl⟩
  have b1 : m1 ≤ 1048576 := by rw [← hm1]; unfold labsV absI; rw [if_neg (by omega)]; split <;> omega
  have b2 : m2 ≤ 1048576 := by rw [← hm2]; unfold labsV absI; rw [if_neg (by omega)]; split <;> omega
  have HB1 : Hid (-9223372036854775808 ≤ c1 ∧ c1 ≤ 9223372036854775807) := Lib.hid (by omega)
  have HB2 : Hid (-9223372036854775808 ≤ c2 ∧ c2 ≤ 9223372036854775807) := Lib.hid (by omega)
  have HM1 := Lib.hid hm1
  have HM2 := Lib.hid hm2
  clear hm1 hm2
  obtain ⟨px0, px1, py0, py1⟩ := pr
  obtain ⟨qx0, qx1, qy0, qy1⟩ := pr2
  go_enter Try.func6, Try.ntmps6
  go_upto_region 3 with (first
    | (go_at_call 15; (with_reducible refine (labsV_of _ _ _ HB1 HM1).mono ?_); rintro e w' ⟨rfl, rfl⟩)
    | (go_at_call 15; (with_reducible refine (labsV_of _ _ _ HB2 HM2).mono ?_); rintro e w' ⟨rfl, rfl⟩))
  have hq0 : Below w.heap.size w (w.alloc (.cells #[.int .i64 c1, .int .i64 c2] 26)) := al1 ..
  have hc0 := at2_new w c1 c2 26
  have z0 : w.heap.size < (w.alloc (.cells #[.int .i64 c1, .int .i64 c2] 26)).heap.size := by simp
  generalize w.alloc (.cells #[.int .i64 c1, .int .i64 c2] 26) = W0 at hq0 hc0 z0 ⊢
  obtain ⟨d0, d1⟩ := hc0
  go_cut [7, 8] (fun s s' wx => TwoCut W0 x y x' y' s s' wx)
  case first =>
    have hP0 : Below W0.heap.size W0 W0 ∧ W0.cell? ⟨w.heap.size, 0, none⟩ = some (.int .i64 c1) ∧ W0.cell? ⟨w.heap.size, 1, none⟩ = some (.int .i64 c2) := k_refl d0 d1
    have hed := ED.out
    go_region_held3 (fun w' => Below W0.heap.size W0 w' ∧ w'.cell? ⟨w.heap.size, 0, none⟩ = some (.int .i64 c1) ∧ w'.cell? ⟨w.heap.size, 1, none⟩ = some (.int .i64 c2))
      ((repeat (first | (with_reducible assumption) | (with_reducible refine k_drew ?_) | (with_reducible refine k_alloc ?_) | (with_reducible refine k_set ?_ ?_ ?_) | omega)))
      (first
        | (go_at_call 13; (with_reducible refine (pol_of _ _ _ _ _ _ _ HX HY).mono ?_); rintro e w2 ⟨rfl, hb2⟩; have hP : Below W0.heap.size W0 w2 ∧ w2.cell? ⟨w.heap.size, 0, none⟩ = some (.int .i64 c1) ∧ w2.cell? ⟨w.heap.size, 1, none⟩ = some (.int .i64 c2) := (by refine k_call hb2 ?_; (repeat (first | (with_reducible assumption) | (with_reducible refine k_drew ?_) | (with_reducible refine k_alloc ?_) | (with_reducible refine k_set ?_ ?_ ?_) | omega))); have l2 := hb2.size; (try simp at l2); (try ((with_reducible have hk := ow2_keep hb2 (ow2_new _ 0 0 26)); (try simp only [World.size_alloc] at hk); have g0 := hk.1; have g1 := hk.2.1; have g2 := hk.2.2.1; have g3 := hk.2.2.2; have gl := ow2_lt hk; have gn := Nat.ne_of_lt gl; have gm := Nat.ne_of_gt gl)); (try ((with_reducible have hk := ow2_keep hb2 (ow2_drew (ow2_new _ 0 0 26))); (try simp only [World.size_alloc] at hk); have g0 := hk.1; have g1 := hk.2.1; have g2 := hk.2.2.1; have g3 := hk.2.2.2; have gl := ow2_lt hk; have gn := Nat.ne_of_lt gl; have gm := Nat.ne_of_gt gl)); (try ((with_reducible have hk := ow2_keep hb2 (ow2_keep (al1 ..) (ow2_new _ 0 0 26))); (try simp only [World.size_alloc] at hk); have g0 := hk.1; have g1 := hk.2.1; have g2 := hk.2.2.1; have g3 := hk.2.2.2; have gl := ow2_lt hk; have gn := Nat.ne_of_lt gl; have gm := Nat.ne_of_gt gl)); (try ((with_reducible have hk := ow2_keep hb2 (ow2_drew (ow2_keep (al1 ..) (ow2_new _ 0 0 26)))); (try simp only [World.size_alloc] at hk); have g0 := hk.1; have g1 := hk.2.1; have g2 := hk.2.2.1; have g3 := hk.2.2.2; have gl := ow2_lt hk; have gn := Nat.ne_of_lt gl; have gm := Nat.ne_of_gt gl)))
        | (go_at_call 13; (with_reducible refine (pol_of _ _ _ _ _ _ _ HX2 HY2).mono ?_); rintro e w2 ⟨rfl, hb2⟩; have hP : Below W0.heap.size W0 w2 ∧ w2.cell? ⟨w.heap.size, 0, none⟩ = some (.int .i64 c1) ∧ w2.cell? ⟨w.heap.size, 1, none⟩ = some (.int .i64 c2) := (by refine k_call hb2 ?_; (repeat (first | (with_reducible assumption) | (with_reducible refine k_drew ?_) | (with_reducible refine k_alloc ?_) | (with_reducible refine k_set ?_ ?_ ?_) | omega))); have l2 := hb2.size; (try simp at l2); (try ((with_reducible have hk := ow2_keep hb2 (ow2_new _ 0 0 26)); (try simp only [World.size_alloc] at hk); have g0 := hk.1; have g1 := hk.2.1; have g2 := hk.2.2.1; have g3 := hk.2.2.2; have gl := ow2_lt hk; have gn := Nat.ne_of_lt gl; have gm := Nat.ne_of_gt gl)); (try ((with_reducible have hk := ow2_keep hb2 (ow2_drew (ow2_new _ 0 0 26))); (try simp only [World.size_alloc] at hk); have g0 := hk.1; have g1 := hk.2.1; have g2 := hk.2.2.1; have g3 := hk.2.2.2; have gl := ow2_lt hk; have gn := Nat.ne_of_lt gl; have gm := Nat.ne_of_gt gl)); (try ((with_reducible have hk := ow2_keep hb2 (ow2_keep (al1 ..) (ow2_new _ 0 0 26))); (try simp only [World.size_alloc] at hk); have g0 := hk.1; have g1 := hk.2.1; have g2 := hk.2.2.1; have g3 := hk.2.2.2; have gl := ow2_lt hk; have gn := Nat.ne_of_lt gl; have gm := Nat.ne_of_gt gl)); (try ((with_reducible have hk := ow2_keep hb2 (ow2_drew (ow2_keep (al1 ..) (ow2_new _ 0 0 26)))); (try simp only [World.size_alloc] at hk); have g0 := hk.1; have g1 := hk.2.1; have g2 := hk.2.2.1; have g3 := hk.2.2.2; have gl := ow2_lt hk; have gn := Nat.ne_of_lt gl; have gm := Nat.ne_of_gt gl)); (try ((with_reducible have hk := ow2_keep hb2 ((by assumption : ow2 _ W0.heap.size 0 0))); (try simp only [World.size_alloc] at hk); have g0 := hk.1; have g1 := hk.2.1; have g2 := hk.2.2.1; have g3 := hk.2.2.2; have gl := ow2_lt hk; have gn := Nat.ne_of_lt gl; have gm := Nat.ne_of_gt gl)); (try ((with_reducible have hk := ow2_keep hb2 ((by assumption : ow2 _ (W0.heap.size + 1) 0 0))); (try simp only [World.size_alloc] at hk); have g0 := hk.1; have g1 := hk.2.1; have g2 := hk.2.2.1; have g3 := hk.2.2.2; have gl := ow2_lt hk; have gn := Nat.ne_of_lt gl; have gm := Nat.ne_of_gt gl)); (try ((with_reducible have hk := ow2_keep hb2 (ow2_keep (al1 ..) (by assumption : ow2 _ W0.heap.size 0 0))); (try simp only [World.size_alloc] at hk); have g0 := hk.1; have g1 := hk.2.1; have g2 := hk.2.2.1; have g3 := hk.2.2.2; have gl := ow2_lt hk; have gn := Nat.ne_of_lt gl; have gm := Nat.ne_of_gt gl))))
    all_goals
      go_split_ands
      go_wp2_with fail
      go_meet
      refine ⟨_, _, rfl, rfl, ?_, ?_, ?_, ?_, ?_⟩
      · omega
      · omega
      · (repeat (first | (with_reducible assumption) | (with_reducible exact ow2_new _ _ _ _) | (with_reducible refine ow2_set0 _ _ ?_) | (with_reducible refine ow2_far ?_ ?_) | (with_reducible refine ow2_here _ _ _ ?_; simp; done) | (with_reducible refine ow2_keep (al1 ..) ?_) | omega))
      · (repeat (first | (with_reducible assumption) | (with_reducible exact ow2_new _ _ _ _) | (with_reducible refine ow2_set0 _ _ ?_) | (with_reducible refine ow2_far ?_ ?_) | (with_reducible refine ow2_here _ _ _ ?_; simp; done) | (with_reducible refine ow2_keep (al1 ..) ?_) | omega))
      · (with_reducible assumption)
  case rest =>
    obtain ⟨b, b', rfl, rfl, hb, hb', o1, o2, hB⟩ := hcut
    have hc1 := cell_keep hB d0
    have hc2 := cell_keep hB d1
    have hq1 := below_keep hB hq0
    clear d0 d1 hq0 hB
    obtain ⟨e1, e2⟩ := HO.out
    obtain ⟨o10, o11, o12, o13⟩ := o1
    obtain ⟨o20, o21, o22, o23⟩ := o2
    go_wp2_with fail
    refine (refValid_at _ _ _ _ HV).mono ?_
    rintro e w5 ⟨rfl, hb5⟩
    have hb5 := below_keep hb5 hq1
    clear hq1
    go_wp2_with fail
    refine (awake_any _).mono ?_
    rintro e w6 ⟨rfl, hb6⟩
    have hb6 := below_keep hb6 hb5
    clear hb5
    go_wp2
    go_ret
    exact ⟨ret_bool (by simp), hb6⟩

/-- The ways in which an argument is not what the statement speaks of, in the order in which it asks. -/
def Off (m1 m2 c1 c2 r d : Int) : Prop := 1048576 < m1 ∨ (m1 ≤ 1048576 ∧ (1048576 < m2 ∨ (m2 ≤ 1048576 ∧ (c1 < -1099511627776 ∨ (-1099511627776 ≤ c1 ∧ (c2 < -1099511627776 ∨ (-1099511627776 ≤ c2 ∧ (r < 0 ∨ (0 ≤ r ∧ (1048576 < r ∨ (r ≤ 1048576 ∧ (d < -1099511627776 ∨ (-1099511627776 ≤ d ∧ 1099511627776 < d)))))))))))))
set_option maxHeartbeats 8000000 in
theorem bad (c1 c2 r d : Int) (w : World) (HB1 : Hid (-9223372036854775808 ≤ c1 ∧ c1 ≤ 9223372036854775807)) (HB2 : Hid (-9223372036854775808 ≤ c2 ∧ c2 ≤ 9223372036854775807)) (H : Off (labsV c1) (labsV c2) c1 c2 r d) :
    Calls Try.prog 6 #[.agg #[.int .i64 c1, .int .i64 c2], .int .i64 r, .int .i64 d] w fun e w' => e = .returned (.bool true) ∧ Below w.heap.size w w' := by
  obtain ⟨m1, hm1⟩ : ∃ v, labsV c1 = v := ⟨_, rfl⟩
  obtain ⟨m2, hm2⟩ : ∃ v, labsV c2 = v := ⟨_, rfl⟩
  rw [hm1, hm2] at H
  have HM1 := Lib.hid hm1
  have HM2 := Lib.hid hm2
  clear hm1 hm2
  have base : Below w.heap.size w (w.alloc (.cells #[.int .i64 c1, .int .i64 c2] 26)) := al1 ..
  unfold Off at H
  rcases H with h1 | ⟨g1, h2 | ⟨g2, h3 | ⟨g3, h4 | ⟨g4, h5 | ⟨g5, h6 | ⟨g6, h7 | ⟨g7, h8⟩⟩⟩⟩⟩⟩⟩
  all_goals
    go_enter Try.func6, Try.ntmps6
    go_wp2_with (first
      | (go_at_call 15; (with_reducible refine (labsV_of _ _ _ HB1 HM1).mono ?_); rintro e w' ⟨rfl, rfl⟩)
      | (go_at_call 15; (with_reducible refine (labsV_of _ _ _ HB2 HM2).mono ?_); rintro e w' ⟨rfl, rfl⟩)
      | (go_at_call 12; (with_reducible refine (awake_any _).mono ?_); rintro e w1 ⟨rfl, hb1⟩))
    go_ret
    exact ⟨rfl, base.trans (hb1.mono base.size)⟩

theorem top (c1 c2 r d : Int) (x0 : -9223372036854775808 ≤ c1) (x1 : c1 ≤ 9223372036854775807) (x2 : -9223372036854775808 ≤ c2) (x3 : c2 ≤ 9223372036854775807) (_h0 : -9223372036854775808 ≤ r) (_h1 : r ≤ 9223372036854775807) (_h2 : -9223372036854775808 ≤ d) (_h3 : d ≤ 9223372036854775807) (w : World) :
    Calls Try.prog 6 #[.agg #[.int .i64 c1, .int .i64 c2], .int .i64 r, .int .i64 d] w fun e w' => e = .returned (.bool true) ∧ Below w.heap.size w w' := by
  by_cases h : (-1048576 ≤ c1 ∧ c1 ≤ 1048576) ∧ (-1048576 ≤ c2 ∧ c2 ≤ 1048576) ∧ (0 ≤ r ∧ r ≤ 1048576) ∧ -1099511627776 ≤ d ∧ d ≤ 1099511627776
  · exact good c1 c2 r d w h.1.1 h.1.2 h.2.1.1 h.2.1.2 h.2.2.1.1 h.2.2.1.2 h.2.2.2.1 h.2.2.2.2
  · refine bad c1 c2 r d w (Lib.hid ⟨x0, x1⟩) (Lib.hid ⟨x2, x3⟩) ?_
    unfold Off labsV absI
    split <;> split <;> (try split) <;> (try split) <;> omega



set_option maxRecDepth 100000 in
theorem lifted (os : Os) (started : os.Started) (H : Type) (enc : TypeId × Value → H) :
    ReturnsInHanded {} Try.checked os 6 .any (Rows.trigOppositeSpec.pre6 enc Try.prog Try.f6 Rows.trigOppositeRow.domain false) (Rows.trigOppositeSpec.post enc Try.prog Try.f6 false true false false) := by
  refine returnsInHanded_of_change (C := Try.checked) own started (by kernel_rfl) Try.func6
    (ChangeSpec.witness6 (enc := enc) (C := Try.checked) false ⟨#[], #[.agg #[.int .i64 0, .int .i64 0], .int .i64 0, .int .i64 0], []⟩ 8 (by kernel_rfl) (by kernel_rfl) (by kernel_rfl) (by kernel_rfl)) ?_
  intro W base args ds gs before hval0 hW _ _
  have hval : ∀ (j : Nat) t v, Try.f6.params[j]? = some t → args[j]? = some v → Value.okWide Try.prog W .any base t v := hval0
  have hW' := hW
  obtain ⟨p, q, hA0, hV, rfl, hfz, hnd⟩ := hW
  have hA : DataW.TrodAll enc Try.prog W 0 (fun _ => true) true Try.f6.params.toList args.toList ds p := hA0
  rw [Try.params6] at hA hval
  obtain ⟨v0, v1, v2, d0, d1, d2, p0, p1, p2, rfl, rfl, rfl, h0, h1, h2⟩ := trodAll_three hA
  obtain ⟨rfl, rfl⟩ := trodVars_none hV
  obtain ⟨x0, y0, rfl, rfl, rfl, wx0, wy0⟩ := open_pt (hval 0 26 v0 rfl rfl) h0
  obtain ⟨x1, rfl, rfl, rfl, wx1⟩ := open_int Try.underlying3 (hval 1 3 v1 rfl rfl) h1
  have bx1 := bounds_i64 wx1
  obtain ⟨x2, rfl, rfl, rfl, wx2⟩ := open_int Try.underlying3 (hval 2 3 v2 rfl rfl) h2
  have bx2 := bounds_i64 wx2
  clear hA0 hval0
  simp only [List.append_nil] at hW'
  refine (top x0 y0 x1 x2 (bounds_i64 wx0).1 (bounds_i64 wx0).2 (bounds_i64 wy0).1 (bounds_i64 wy0).2 bx1.1 bx1.2 bx2.1 bx2.2 W).mono fun e W' ⟨he, hb⟩ => ?_
  subst he
  exact ⟨_, rfl, _, _, _, [], [], [], hW', trodAll_mk1 (shut_bool Try.underlying4 _), trodAll_mk3 (shut_pt wx0 wy0) (shut_int Try.underlying3 wx1) (shut_int Try.underlying3 wx2), rfl, hb.frame _, fun h => by cases h⟩

/-- The statement. -/
theorem holds : Rows.TrigOppositeSaid :=
  OpenClaim.holds_of_wide 6 Try.f6 rfl rfl rfl rfl rfl rfl rfl ⟨rfl, rfl, rfl, rfl, rfl⟩ rfl rfl rfl rfl rfl (by kernel_rfl) Try.func6 (by kernel_rfl)
    (of_decide_eq_true (by kernel_rfl)) (by unfold Func.isWrapper; first | (rw [if_pos (by decide +kernel)]; kernel_rfl) | (rw [if_neg (by decide +kernel)]; exact ⟨rfl, rfl⟩))
    (fun os started H enc _ => lifted os started H enc)
#print axioms holds

end Go.Proofs.Ytfdhnjoiklhiaaa.lopposite
