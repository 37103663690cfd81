/-
  What the code's sines and cosines of whole degrees return, and the rounded part of a radius. Conditions: arguments are ints; of a part, that the radius is from 0 to 1048576 and the sine within 10000.
-/
import Derived.Test.YtfdhnjoiklhiaaaTrigTab
namespace Go.Proofs.Ytfdhnjoiklhiaaa
open Go.RowKit

theorem sin_low (d : Int) (h : d % 360 ≤ 180) : sinT (min (d % 360) (180 - d % 360)) = sinD d := by
  unfold sinD sinR
  rw [if_neg (by omega)]
  split
  · rw [show min (d % 360) (180 - d % 360) = 180 - d % 360 by omega]
  · rw [show min (d % 360) (180 - d % 360) = d % 360 by omega]
theorem sin_high (d : Int) (_ : 180 < d % 360) : sinD d = -sinD (d % 360 - 180) := by
  rw [← sin_half, show d % 360 - 180 + 180 = d % 360 by omega]
  unfold sinD; rw [Int.emod_emod_of_dvd _ (by omega)]

set_option maxRecDepth 1000000 in
theorem sin0 (d : Int) (w : World) (h : d % 360 ≤ 180) :
    Calls Try.prog 8 #[.int .i64 d] w fun e w' => e = .returned (.int .i64 (sinD d)) ∧ Below w.heap.size w w' := by
  obtain ⟨v, hv⟩ : ∃ v, sinD d = v := ⟨_, rfl⟩
  have hl := sin_low d h
  rw [hv] at hl
  obtain ⟨q, hq⟩ : ∃ q, d.tmod 360 = q := ⟨_, rfl⟩
  have hq1 := tmod_range d
  have hr := ang_go d
  have hr1 := ang_range d
  rw [hq] at hq1 hr
  rw [Int.tmod_eq_emod_of_nonneg (by omega)] at hr
  rw [hv]
  generalize d % 360 = r at *
  obtain ⟨hq2, hq3⟩ := hq1
  obtain ⟨hr2, hr3⟩ := hr1
  have HL := Lib.hid hl
  clear hl hv
  go_enter Try.func8, Try.ntmps8
  go_upto_region 4 with (fail)
  rename_i _ _ KK hKK
  rw [hr]
  apply wp_region_lit
  refine wpList_plain rfl (fun K hK => ?_)
  go_simp
  refine (sines_any _).mono ?_
  rintro e w1 ⟨rfl, hb1⟩
  refine hK _ _ ?_
  clear hK K
  refine wpList_alloc_arr rfl (some 4) rfl rfl ?_
  refine wpList_store_row rfl 31 _ _ rfl w1.heap.size sinV rfl rfl 31 zeroV (heap_alloc_last w1 _) (by rw [sinV_size]; exact size_arr) (by rw [sinV_size, zeroV_size]) one_sinV ?_
  rw [World.setRow_alloc_new]
  refine wpList_nil ?_
  refine hKK _ _ ?_
  clear hKK KK
  have hb : Below w.heap.size w (w1.alloc (.cells sinV 31)) := below_keep (al1 w1 _) hb1
  have hc : (w1.alloc (.cells sinV 31)).cell? ⟨w1.heap.size, (min r (180 - r)).toNat, none⟩ = some (.int .i64 v) := by
    have := cell_ints w1 sinL 31 (min r (180 - r)).toNat (by rw [sinL_len]; omega)
    rw [← HL.out]; exact this
  generalize w1.alloc (.cells sinV 31) = W at hb hc ⊢
  generalize w1.heap.size = B at *
  clear hb1
  obtain ⟨m, hm⟩ : ∃ m, min r (180 - r) = m := ⟨_, rfl⟩
  have hm0 : 0 ≤ m := by omega
  have hm1 : m < 91 := by omega
  rw [hm] at hc
  go_wp2
  go_ret
  exact ⟨rfl, hb⟩

theorem sin_any (d : Int) (w : World) :
    Calls Try.prog 8 #[.int .i64 d] w fun e w' => e = .returned (.int .i64 (sinD d)) ∧ Below w.heap.size w w' := by
  rcases Int.lt_or_le 180 (d % 360) with h | h
  · obtain ⟨u, hu⟩ : ∃ u, sinD (d % 360 - 180) = u := ⟨_, rfl⟩
    have hx := sin_range (d % 360 - 180)
    have HS := Lib.hid (sin_high d h)
    rw [hu] at HS hx
    have key : ∀ w, Calls Try.prog 8 #[.int .i64 (d % 360 - 180)] w fun e w' => e = .returned (.int .i64 u) ∧ Below w.heap.size w w' := by
      intro w; rw [← hu]; exact sin0 _ _ (by omega)
    rw [HS.out]
    obtain ⟨q, hq⟩ : ∃ q, d.tmod 360 = q := ⟨_, rfl⟩
    have hq1 := tmod_range d
    have hr := ang_go d
    have hr1 := ang_range d
    rw [hq] at hq1 hr
    rw [Int.tmod_eq_emod_of_nonneg (by omega)] at hr
    clear HS hu
    generalize d % 360 = r at *
    obtain ⟨hq2, hq3⟩ := hq1
    obtain ⟨hr2, hr3⟩ := hr1
    obtain ⟨hx1, hx2⟩ := hx
    have KEY := Lib.hid key
    clear key
    go_enter Try.func8, Try.ntmps8
    go_wp2_with (go_at_call 8; rw [hr]; refine (KEY.out _).mono ?_; rintro e w1 ⟨rfl, hb1⟩)
    go_ret
    exact ⟨rfl, hb1⟩
  · exact sin0 d w h

theorem cos_go (d : Int) : sinD (d.tmod 360 + 90) = cosD d := by
  have e : (d.tmod 360) % 360 = d % 360 := by
    rcases Int.lt_or_le d 0 with h | h
    · have e : d.tmod 360 = -((-d) % 360) := by rw [show d = -(-d) by omega, Int.neg_tmod, Int.tmod_eq_emod_of_nonneg (by omega)]; omega
      rw [e]; omega
    · rw [Int.tmod_eq_emod_of_nonneg h]; omega
  unfold sinD cosD
  rw [show (d.tmod 360 + 90) % 360 = (d % 360 + 90) % 360 by omega]

theorem cos_any (d : Int) (w : World) :
    Calls Try.prog 10 #[.int .i64 d] w fun e w' => e = .returned (.int .i64 (cosD d)) ∧ Below w.heap.size w w' := by
  rw [← cos_go]
  obtain ⟨hq2, hq3⟩ := tmod_range d
  obtain ⟨q, hq⟩ : ∃ q, d.tmod 360 = q := ⟨_, rfl⟩
  rw [hq] at hq2 hq3 ⊢
  go_enter Try.func10, Try.ntmps10
  go_wp2_with (go_at_call 8; refine (sin_any _ _).mono ?_; rintro e w1 ⟨rfl, hb1⟩)
  go_ret
  exact ⟨rfl, hb1⟩

theorem prod_range (r n : Int) (h0 : 0 ≤ r) (h1 : r ≤ 1048576) (h2 : 0 ≤ n) (h3 : n ≤ 10000) : 0 ≤ r * n ∧ r * n ≤ 10485760000 := by
  have := mul_le r n h0 h2 h3
  omega

theorem scale0 (r n : Int) (w : World) (h0 : 0 ≤ r) (h1 : r ≤ 1048576) (h2 : 0 ≤ n) (h3 : n ≤ 10000) :
    Calls Try.prog 21 #[.int .i64 r, .int .i64 n] w fun e w' => e = .returned (.int .i64 (prt r n)) ∧ w = w' := by
  obtain ⟨p1, p2⟩ := prod_range r n h0 h1 h2 h3
  have HP : Hid (prt r n = (r * n + 5000) / 10000) := Lib.hid (by unfold prt; rw [if_neg (by omega)])
  rw [HP.out]
  go_enter Try.func21, Try.ntmps21
  go_wp2
  go_ret
  exact ⟨rfl, rfl⟩

theorem scale_any (r n : Int) (w : World) (h0 : 0 ≤ r) (h1 : r ≤ 1048576) (h2 : -10000 ≤ n) (h3 : n ≤ 10000) :
    Calls Try.prog 21 #[.int .i64 r, .int .i64 n] w fun e w' => e = .returned (.int .i64 (prt r n)) ∧ w = w' := by
  rcases Int.lt_or_le n 0 with h | h
  · have hp := prt_nn r (-n) h0 (by omega) (by omega)
    have key := fun w => scale0 r (-n) w h0 h1 (by omega) (by omega)
    rw [show prt r n = -prt r (-n) by rw [prt_neg]; omega]
    obtain ⟨hp1, hp2⟩ := hp
    have KEY := Lib.hid key
    clear key
    generalize prt r (-n) = v at *
    go_enter Try.func21, Try.ntmps21
    go_wp2_with (go_at_call 21; refine (KEY.out _).mono ?_; rintro e w' ⟨rfl, rfl⟩)
    go_ret
    exact ⟨rfl, rfl⟩
  · exact scale0 r n w h0 h1 h h3

/-! The same at named answers. -/
theorem sin_of (d v : Int) (w : World) (hv : Hid (sinD d = v)) :
    Calls Try.prog 8 #[.int .i64 d] w fun e w' => e = .returned (.int .i64 v) ∧ Below w.heap.size w w' := by
  rw [← hv.out]; exact sin_any d w
theorem cos_of (d v : Int) (w : World) (hv : Hid (cosD d = v)) :
    Calls Try.prog 10 #[.int .i64 d] w fun e w' => e = .returned (.int .i64 v) ∧ Below w.heap.size w w' := by
  rw [← hv.out]; exact cos_any d w
theorem scale_of (r n v : Int) (w : World) (h : Hid (0 ≤ r ∧ r ≤ 1048576 ∧ -10000 ≤ n ∧ n ≤ 10000)) (hv : Hid (prt r n = v)) :
    Calls Try.prog 21 #[.int .i64 r, .int .i64 n] w fun e w' => e = .returned (.int .i64 v) ∧ w = w' := by
  rw [← hv.out]; exact scale_any r n w h.out.1 h.out.2.1 h.out.2.2.1 h.out.2.2.2
end Go.Proofs.Ytfdhnjoiklhiaaa
