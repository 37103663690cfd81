/-
  What the reference of layer 5 returns for sines, cosines and the rounded part of a radius. Conditions: of a sine of the reference, that the angle is from 0 to 359; of a part, that the radius is from 0 to 1048576 and the sine within 10000.
-/
import Derived.Test.YtfdhnjoiklhiaaaTrigTab
namespace Go.Proofs.Ytfdhnjoiklhiaaa
open Go.RowKit

theorem turn_any (d : Int) (w : World) :
    Calls Try.prog 19 #[.int .i64 d] w fun e w' => e = .returned (.int .i64 (d % 360)) ∧ w = w' := by
  obtain ⟨hq2, hq3⟩ := tmod_range d
  have hr := ang_go d
  obtain ⟨q, hq⟩ : ∃ q, d.tmod 360 = q := ⟨_, rfl⟩
  rw [hq] at hq2 hq3 hr
  rw [Int.tmod_eq_emod_of_nonneg (by omega)] at hr
  rw [← hr]
  clear hr
  go_enter Try.func19, Try.ntmps19
  go_wp2
  go_ret
  exact ⟨rfl, rfl⟩

theorem sinR_range (k : Int) (h0 : 0 ≤ k) (h1 : k < 360) : -10000 ≤ sinR k ∧ sinR k ≤ 10000 := by
  have := sin_range k
  unfold sinD at this
  rw [Int.emod_eq_of_lt h0 h1] at this
  exact this

theorem sine0 (k : Int) (w : World) (h0 : 0 ≤ k) (h1 : k ≤ 180) :
    Calls Try.prog 18 #[.int .i64 k] w fun e w' => e = .returned (.int .i64 (sinR k)) ∧ Below w.heap.size w w' := by
  rcases Int.lt_or_le 90 k with h | h
  · rw [show sinR k = sinT (180 - k) by unfold sinR; rw [if_neg (by omega), if_pos h]]
    go_enter Try.func18, Try.ntmps18
    go_wp2_with (go_at_call 23; refine (table_any (180 - k) _ (by omega) (by omega)).mono ?_; rintro e w1 ⟨rfl, hb1⟩)
    go_ret
    exact ⟨rfl, hb1⟩
  · rw [show sinR k = sinT k by unfold sinR; rw [if_neg (by omega), if_neg (by omega)]]
    go_enter Try.func18, Try.ntmps18
    go_wp2_with (go_at_call 23; refine (table_any k _ (by omega) (by omega)).mono ?_; rintro e w1 ⟨rfl, hb1⟩)
    go_ret
    exact ⟨rfl, hb1⟩

theorem sine_any (k : Int) (w : World) (h0 : 0 ≤ k) (h1 : k < 360) :
    Calls Try.prog 18 #[.int .i64 k] w fun e w' => e = .returned (.int .i64 (sinR k)) ∧ Below w.heap.size w w' := by
  rcases Int.lt_or_le 180 k with h | h
  · have e : sinR k = -sinR (k - 180) := by
      have e1 : sinR k = -(if 270 < k then sinT (360 - k) else sinT (k - 180)) := by unfold sinR; rw [if_pos h]
      have e2 : sinR (k - 180) = if 90 < k - 180 then sinT (180 - (k - 180)) else sinT (k - 180) := by unfold sinR; rw [if_neg (by omega)]
      rw [e1, e2]
      rcases Int.lt_or_le 270 k with h2 | h2
      · rw [if_pos h2, if_pos (by omega), show 180 - (k - 180) = 360 - k by omega]
      · rw [if_neg (by omega), if_neg (by omega)]
    have hx := sinR_range (k - 180) (by omega) (by omega)
    have key := fun w => sine0 (k - 180) w (by omega) (by omega)
    rw [e]
    clear e
    generalize sinR (k - 180) = v at *
    obtain ⟨hx1, hx2⟩ := hx
    have KEY := Lib.hid key
    clear key
    go_enter Try.func18, Try.ntmps18
    go_wp2_with (go_at_call 18; refine (KEY.out _).mono ?_; rintro e w1 ⟨rfl, hb1⟩)
    go_ret
    exact ⟨rfl, hb1⟩
  · exact sine0 k w h0 h

theorem refSin_any (d : Int) (w : World) :
    Calls Try.prog 9 #[.int .i64 d] w fun e w' => e = .returned (.int .i64 (sinD d)) ∧ Below w.heap.size w w' := by
  obtain ⟨hr2, hr3⟩ := ang_range d
  have key := fun w => turn_any d w
  rw [show sinD d = sinR (d % 360) from rfl]
  generalize d % 360 = r at *
  have KEY := Lib.hid key
  clear key
  go_enter Try.func9, Try.ntmps9
  go_wp2_with (first
    | (go_at_call 19; refine (KEY.out _).mono ?_; rintro e w' ⟨rfl, rfl⟩)
    | (go_at_call 18; refine (sine_any _ _ (by omega) (by omega)).mono ?_; rintro e w1 ⟨rfl, hb1⟩))
  go_ret
  exact ⟨rfl, hb1⟩

theorem refCos_any (d : Int) (w : World) :
    Calls Try.prog 11 #[.int .i64 d] w fun e w' => e = .returned (.int .i64 (cosD d)) ∧ Below w.heap.size w w' := by
  obtain ⟨hr2, hr3⟩ := ang_range d
  have key := fun w => turn_any d w
  have key2 := fun w => turn_any (d % 360 + 90) w
  have hs := ang_range (d % 360 + 90)
  rw [show cosD d = sinR ((d % 360 + 90) % 360) from rfl]
  generalize (d % 360 + 90) % 360 = s at *
  generalize d % 360 = r at *
  obtain ⟨hs2, hs3⟩ := hs
  have KEY := Lib.hid key
  have KEY2 := Lib.hid key2
  clear key key2
  go_enter Try.func11, Try.ntmps11
  go_wp2_with (first
    | (go_at_call 19; (with_reducible refine (KEY.out _).mono ?_); rintro e w' ⟨rfl, rfl⟩)
    | (go_at_call 19; (with_reducible refine (KEY2.out _).mono ?_); rintro e w' ⟨rfl, rfl⟩)
    | (go_at_call 18; refine (sine_any _ _ (by omega) (by omega)).mono ?_; rintro e w1 ⟨rfl, hb1⟩))
  go_ret
  exact ⟨rfl, hb1⟩

theorem part0 (r n : Int) (w : World) (h0 : 0 ≤ r) (h1 : r ≤ 1048576) (h2 : 0 ≤ n) (h3 : n ≤ 10000) :
    Calls Try.prog 22 #[.int .i64 r, .int .i64 n] w fun e w' => e = .returned (.int .i64 (prt r n)) ∧ w = w' := by
  obtain ⟨p1, p2⟩ : 0 ≤ r * n ∧ r * n ≤ 10485760000 := by
    have := mul_le r n h0 h2 h3
    omega
  have HP : Hid (prt r n = (r * n + 5000) / 10000) := Lib.hid (by unfold prt; rw [if_neg (by omega)])
  rw [HP.out]
  go_enter Try.func22, Try.ntmps22
  go_wp2
  go_ret
  exact ⟨rfl, rfl⟩

theorem part_any (r n : Int) (w : World) (h0 : 0 ≤ r) (h1 : r ≤ 1048576) (h2 : -10000 ≤ n) (h3 : n ≤ 10000) :
    Calls Try.prog 22 #[.int .i64 r, .int .i64 n] w fun e w' => e = .returned (.int .i64 (prt r n)) ∧ w = w' := by
  rcases Int.lt_or_le n 0 with h | h
  · have hp := prt_nn r (-n) h0 (by omega) (by omega)
    have key := fun w => part0 r (-n) w h0 h1 (by omega) (by omega)
    rw [show prt r n = -prt r (-n) by rw [prt_neg]; omega]
    obtain ⟨hp1, hp2⟩ := hp
    have KEY := Lib.hid key
    clear key
    generalize prt r (-n) = v at *
    go_enter Try.func22, Try.ntmps22
    go_wp2_with (go_at_call 22; refine (KEY.out _).mono ?_; rintro e w' ⟨rfl, rfl⟩)
    go_ret
    exact ⟨rfl, rfl⟩
  · exact part0 r n w h0 h1 h h3

/-! The same at named answers. -/
theorem refSin_of (d v : Int) (w : World) (hv : Hid (sinD d = v)) :
    Calls Try.prog 9 #[.int .i64 d] w fun e w' => e = .returned (.int .i64 v) ∧ Below w.heap.size w w' := by
  rw [← hv.out]; exact refSin_any d w
theorem refCos_of (d v : Int) (w : World) (hv : Hid (cosD d = v)) :
    Calls Try.prog 11 #[.int .i64 d] w fun e w' => e = .returned (.int .i64 v) ∧ Below w.heap.size w w' := by
  rw [← hv.out]; exact refCos_any d w
theorem part_of (r n v : Int) (w : World) (h : Hid (0 ≤ r ∧ r ≤ 1048576 ∧ -10000 ≤ n ∧ n ≤ 10000)) (hv : Hid (prt r n = v)) :
    Calls Try.prog 22 #[.int .i64 r, .int .i64 n] w fun e w' => e = .returned (.int .i64 v) ∧ w = w' := by
  rw [← hv.out]; exact part_any r n w h.out.1 h.out.2.1 h.out.2.2.1 h.out.2.2.2
end Go.Proofs.Ytfdhnjoiklhiaaa
