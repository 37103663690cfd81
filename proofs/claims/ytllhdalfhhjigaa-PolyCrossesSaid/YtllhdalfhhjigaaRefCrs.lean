/-
  'cross' of layer 4's reference. Condition: valid points.
-/
import Derived.Test.YtllhdalfhhjigaaRefPts
namespace Go.Proofs.Ytllhdalfhhjigaa
open Go.RowKit Go.Sort

theorem mul_sgn (m n : Int) : -1 ≤ sgn m * sgn n ∧ sgn m * sgn n ≤ 1 := by
  have h1 : -1 ≤ sgn m ∧ sgn m ≤ 1 := by unfold sgn; split <;> (try split) <;> omega
  have h2 : -1 ≤ sgn n ∧ sgn n ≤ 1 := by unfold sgn; split <;> (try split) <;> omega
  obtain ⟨a, b⟩ := h1
  obtain ⟨c, d⟩ := h2
  have : sgn m = -1 ∨ sgn m = 0 ∨ sgn m = 1 := by omega
  have : sgn n = -1 ∨ sgn n = 0 ∨ sgn n = 1 := by omega
  rcases ‹sgn m = -1 ∨ _› with h | h | h <;> rcases ‹sgn n = -1 ∨ _› with k | k | k <;> rw [h, k] <;> decide

set_option maxRecDepth 100000 in
set_option maxHeartbeats 1000000 in
theorem cross4_of (a b c d : Pt) (v : Bool) (w : World) (ha : Hid (vld a.1 a.2 = true)) (hb : Hid (vld b.1 b.2 = true)) (hc : Hid (vld c.1 c.2 = true)) (hd : Hid (vld d.1 d.2 = true)) (hv : Hid (cross a.1 a.2 b.1 b.2 c.1 c.2 d.1 d.2 = v)) :
    Calls Try.prog 40 #[.agg #[.int .i64 a.1, .int .i64 a.2], .agg #[.int .i64 b.1, .int .i64 b.2], .agg #[.int .i64 c.1, .int .i64 c.2], .agg #[.int .i64 d.1, .int .i64 d.2]] w fun e w' => e = .returned (.bool v) ∧ Below w.heap.size w w' := by
  have hmx : Try.prog.follows .mixedOrders = true := by kernel_rfl
  obtain ⟨m1, h1⟩ : ∃ m, area a.1 a.2 b.1 b.2 c.1 c.2 = m := ⟨_, rfl⟩
  obtain ⟨m2, h2⟩ : ∃ m, area a.1 a.2 b.1 b.2 d.1 d.2 = m := ⟨_, rfl⟩
  obtain ⟨m3, h3⟩ : ∃ m, area c.1 c.2 d.1 d.2 a.1 a.2 = m := ⟨_, rfl⟩
  obtain ⟨m4, h4⟩ : ∃ m, area c.1 c.2 d.1 d.2 b.1 b.2 = m := ⟨_, rfl⟩
  have HV : Hid (v = (decide (sgn m1 * sgn m2 < 0) && decide (sgn m3 * sgn m4 < 0))) := Lib.hid (by
    rw [← hv.out]
    unfold cross crs sep side vld4
    rw [ha.out, hb.out, hc.out, hd.out, h1, h2, h3, h4]
    rfl)
  have H1 := Lib.hid h1
  have H2 := Lib.hid h2
  have H3 := Lib.hid h3
  have H4 := Lib.hid h4
  have r12 := mul_sgn m1 m2
  have r34 := mul_sgn m3 m4
  have w12 : IntKind.i64.wrap (sgn m1 * sgn m2) = sgn m1 * sgn m2 := IntWalk.i64_in _ (by omega)
  have w34 : IntKind.i64.wrap (sgn m3 * sgn m4) = sgn m3 * sgn m4 := IntWalk.i64_in _ (by omega)
  clear h1 h2 h3 h4 r12 r34
  generalize hs12 : sgn m1 * sgn m2 = s12 at *
  generalize hs34 : sgn m3 * sgn m4 = s34 at *
  go_enter Try.func40, Try.ntmps40
  go_wp2_with fail
  have hB := al4 w (.cells #[.int .i64 a.1, .int .i64 a.2] 33) (.cells #[.int .i64 b.1, .int .i64 b.2] 33) (.cells #[.int .i64 c.1, .int .i64 c.2] 33) (.cells #[.int .i64 d.1, .int .i64 d.2] 33)
  have q0 := at2_keep (al3 (w.alloc (.cells #[.int .i64 a.1, .int .i64 a.2] 33)) (.cells #[.int .i64 b.1, .int .i64 b.2] 33) (.cells #[.int .i64 c.1, .int .i64 c.2] 33) (.cells #[.int .i64 d.1, .int .i64 d.2] 33)) (at2_new w a.1 a.2 33)
  have q1 := at2_keep (al2 ((w.alloc (.cells #[.int .i64 a.1, .int .i64 a.2] 33)).alloc (.cells #[.int .i64 b.1, .int .i64 b.2] 33)) (.cells #[.int .i64 c.1, .int .i64 c.2] 33) (.cells #[.int .i64 d.1, .int .i64 d.2] 33)) (at2_new (w.alloc (.cells #[.int .i64 a.1, .int .i64 a.2] 33)) b.1 b.2 33)
  have q2 := at2_keep (al1 (((w.alloc (.cells #[.int .i64 a.1, .int .i64 a.2] 33)).alloc (.cells #[.int .i64 b.1, .int .i64 b.2] 33)).alloc (.cells #[.int .i64 c.1, .int .i64 c.2] 33)) (.cells #[.int .i64 d.1, .int .i64 d.2] 33)) (at2_new ((w.alloc (.cells #[.int .i64 a.1, .int .i64 a.2] 33)).alloc (.cells #[.int .i64 b.1, .int .i64 b.2] 33)) c.1 c.2 33)
  have q3 := at2_new (((w.alloc (.cells #[.int .i64 a.1, .int .i64 a.2] 33)).alloc (.cells #[.int .i64 b.1, .int .i64 b.2] 33)).alloc (.cells #[.int .i64 c.1, .int .i64 c.2] 33)) d.1 d.2 33
  simp only [World.size_alloc] at q1 q2 q3
  generalize (((w.alloc (.cells #[.int .i64 a.1, .int .i64 a.2] 33)).alloc (.cells #[.int .i64 b.1, .int .i64 b.2] 33)).alloc (.cells #[.int .i64 c.1, .int .i64 c.2] 33)).alloc (.cells #[.int .i64 d.1, .int .i64 d.2] 33) = w0 at *
  have e00 := fun d os => cell_regrown q0.1 d os
  have e01 := fun d os => cell_regrown q0.2 d os
  have e10 := fun d os => cell_regrown q1.1 d os
  have e11 := fun d os => cell_regrown q1.2 d os
  have e20 := fun d os => cell_regrown q2.1 d os
  have e21 := fun d os => cell_regrown q2.2 d os
  have e30 := fun d os => cell_regrown q3.1 d os
  have e31 := fun d os => cell_regrown q3.2 d os
  clear q0 q1 q2 q3
  have c1 := fun dd os => Calls.regrown_of (w := w0) (d := dd) (os := os) (orient4_of _ _ _ _ _ _ m1 _ ha hb hc H1)
  have c2 := fun dd os => Calls.regrown_of (w := w0) (d := dd) (os := os) (orient4_of _ _ _ _ _ _ m2 _ ha hb hd H2)
  have c3 := fun dd os => Calls.regrown_of (w := w0) (d := dd) (os := os) (orient4_of _ _ _ _ _ _ m3 _ hc hd ha H3)
  have c4 := fun dd os => Calls.regrown_of (w := w0) (d := dd) (os := os) (orient4_of _ _ _ _ _ _ m4 _ hc hd hb H4)
  have s1 := fun n dd os => Calls.regrown_of (w := w0) (d := dd) (os := os) (sign4_any n _)
  by_cases h0 : s12 < 0
  · have hd0 : decide (s12 < 0) = true := decide_eq_true h0
    refine wp_region_quiet_below hmx (by kernel_rfl) ?_
    repeat (go_big_quiet_step (first | with_reducible exact c1 _ _ | with_reducible exact c2 _ _ | with_reducible exact c3 _ _ | with_reducible exact c4 _ _ | with_reducible exact s1 _ _ _))
    refine wpQuiet_nil ?_
    intro _ hw'
    obtain ⟨⟨dq, osq⟩, hw''⟩ := hw'
    subst hw''
    go_wp2
    go_ret
    exact ⟨ret_bool (by rw [HV.out, hd0]; simp), below_keep (below_regrown w0 dq osq) hB⟩
  · have hd0 : decide (s12 < 0) = false := decide_eq_false h0
    refine wp_region_quiet_below hmx (by kernel_rfl) ?_
    repeat (go_big_quiet_step (first | with_reducible exact c1 _ _ | with_reducible exact c2 _ _ | with_reducible exact s1 _ _ _))
    refine wpQuiet_nil ?_
    intro _ hw'
    obtain ⟨⟨dq, osq⟩, hw''⟩ := hw'
    subst hw''
    go_wp2
    go_ret
    exact ⟨ret_bool (by rw [HV.out, hd0]; simp), below_keep (below_regrown w0 dq osq) hB⟩
end Go.Proofs.Ytllhdalfhhjigaa
