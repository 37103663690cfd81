/-
  What the methods of a segment of layer 2 return: side, contains, crosses. Conditions: the points are valid.
-/
import Derived.Test.YtllhdalfhhjigaaGeoNum
import Derived.Deep.RegionHeld3
import Derived.IntWalk
namespace Go.Proofs.Ytllhdalfhhjigaa
open Go.RowKit

theorem area_sgn (a1 a2 b1 b2 c1 c2 : Int) : sgn ((b1 - a1) * (c2 - a2) - (b2 - a2) * (c1 - a1)) = side a1 a2 b1 b2 c1 c2 := rfl

theorem side_any (a1 a2 b1 b2 c1 c2 : Int) (w : World) (ha : vld a1 a2 = true) (hb : vld b1 b2 = true) (hc : vld c1 c2 = true) :
    Calls Try.prog 58 #[.agg #[.int .i64 a1, .int .i64 a2, .int .i64 b1, .int .i64 b2], .agg #[.int .i64 c1, .int .i64 c2]] w fun e w' => e = .returned (.int .i64 (side a1 a2 b1 b2 c1 c2)) ∧ Below w.heap.size w w' := by
  rw [vld_iff] at ha hb hc
  obtain ⟨x1, x2, x3, x4⟩ := ha
  obtain ⟨y1, y2, y3, y4⟩ := hb
  obtain ⟨z1, z2, z3, z4⟩ := hc
  obtain ⟨p1, p2⟩ := mul_small (b1 - a1) (c2 - a2) (by omega) (by omega) (by omega) (by omega)
  obtain ⟨q1, q2⟩ := mul_small (b2 - a2) (c1 - a1) (by omega) (by omega) (by omega) (by omega)
  go_enter Try.func58, Try.ntmps58
  go_wp2_with fail
  refine (compare_any _ _ _).mono ?_
  rintro e w' ⟨rfl, rfl⟩
  go_wp2
  go_ret
  exact ⟨ret_int (area_sgn ..), ((Below.refl _ _).alloc (Nat.le_refl _) _).alloc (by simp) _⟩

theorem side_of (a1 a2 b1 b2 c1 c2 n : Int) (w : World) (ha : vld a1 a2 = true) (hb : vld b1 b2 = true) (hc : vld c1 c2 = true) (hn : Hid (side a1 a2 b1 b2 c1 c2 = n)) :
    Calls Try.prog 58 #[.agg #[.int .i64 a1, .int .i64 a2, .int .i64 b1, .int .i64 b2], .agg #[.int .i64 c1, .int .i64 c2]] w fun e w' => e = .returned (.int .i64 n) ∧ Below w.heap.size w w' := by
  have := side_any a1 a2 b1 b2 c1 c2 w ha hb hc
  rw [hn.out] at this
  exact this

theorem contains_any (a1 a2 b1 b2 c1 c2 : Int) (w : World) (ha : Hid (vld a1 a2 = true)) (hb : Hid (vld b1 b2 = true)) (hc : Hid (vld c1 c2 = true)) :
    Calls Try.prog 56 #[.agg #[.int .i64 a1, .int .i64 a2, .int .i64 b1, .int .i64 b2], .agg #[.int .i64 c1, .int .i64 c2]] w fun e w' => e = .returned (.bool (has a1 a2 b1 b2 c1 c2)) ∧ Below w.heap.size w w' := by
  obtain ⟨n, hn⟩ : ∃ n, side a1 a2 b1 b2 c1 c2 = n := ⟨_, rfl⟩
  obtain ⟨u, hu⟩ : ∃ u, btw c1 a1 b1 = u := ⟨_, rfl⟩
  obtain ⟨v, hv⟩ : ∃ v, btw c2 a2 b2 = v := ⟨_, rfl⟩
  have HV : Hid (has a1 a2 b1 b2 c1 c2 = (decide (n = 0) && u && v)) := Lib.hid (by unfold has; rw [hn, hu, hv])
  have HN := Lib.hid hn
  have HU := Lib.hid hu
  have HW := Lib.hid hv
  clear hu hv hn
  go_enter Try.func56, Try.ntmps56
  go_wp2_with fail
  refine (side_of _ _ _ _ _ _ _ _ ha.out hb.out hc.out HN).mono ?_
  rintro e w1 ⟨rfl, hb1⟩
  obtain ⟨hc1, hf1⟩ := bcell hb1
  go_wp2_with (go_at_call 59; refine (between_of _ _ _ _ _ (by first | exact HU | exact HW)).mono ?_; rintro e w' ⟨rfl, rfl⟩)
  all_goals go_ret
  all_goals refine ⟨ret_bool ?_, (((Below.refl _ _).alloc (Nat.le_refl _) _).alloc (by simp) _).trans (hb1.mono (by simp; omega))⟩
  all_goals (rw [HV.out]; simp_all)

/-- The value of the method value 'side' of a segment. -/
abbrev sideV (a1 a2 b1 b2 : Int) : Value := .func (.func 58) #[.agg #[.int .i64 a1, .int .i64 a2, .int .i64 b1, .int .i64 b2]] #[]

theorem sep_sign (m n : Int) (hm0 : -1 ≤ m) (hm1 : m ≤ 1) (hn0 : -1 ≤ n) (hn1 : n ≤ 1) : -1 ≤ m * n ∧ m * n ≤ 1 := by
  rcases (show m = -1 ∨ m = 0 ∨ m = 1 by omega) with rfl | rfl | rfl <;> rcases (show n = -1 ∨ n = 0 ∨ n = 1 by omega) with rfl | rfl | rfl <;> decide

theorem separates_any (a1 a2 b1 b2 c1 c2 d1 d2 : Int) (w : World) (ha : Hid (vld a1 a2 = true)) (hb : Hid (vld b1 b2 = true)) (hc : Hid (vld c1 c2 = true)) (hd : Hid (vld d1 d2 = true)) :
    Calls Try.prog 57 #[sideV a1 a2 b1 b2, .agg #[.int .i64 c1, .int .i64 c2, .int .i64 d1, .int .i64 d2]] w fun e w' => e = .returned (.bool (sep a1 a2 b1 b2 c1 c2 d1 d2)) ∧ Below w.heap.size w w' := by
  obtain ⟨m, hm⟩ : ∃ m, side a1 a2 b1 b2 c1 c2 = m := ⟨_, rfl⟩
  obtain ⟨n, hn⟩ : ∃ n, side a1 a2 b1 b2 d1 d2 = n := ⟨_, rfl⟩
  have HV : Hid (sep a1 a2 b1 b2 c1 c2 d1 d2 = decide (m * n < 0)) := Lib.hid (by unfold sep; rw [hm, hn])
  obtain ⟨m0, m1⟩ := side_range a1 a2 b1 b2 c1 c2
  obtain ⟨n0, n1⟩ := side_range a1 a2 b1 b2 d1 d2
  rw [hm] at m0 m1
  rw [hn] at n0 n1
  obtain ⟨p0, p1⟩ := sep_sign m n m0 m1 n0 n1
  have HM := Lib.hid hm
  have HN := Lib.hid hn
  clear hm hn
  go_enter Try.func57, Try.ntmps57
  go_wp2_with fail
  go_region_held3 (fun w' => Below (w.alloc (.cells #[.int .i64 c1, .int .i64 c2, .int .i64 d1, .int .i64 d2] 58)).heap.size (w.alloc (.cells #[.int .i64 c1, .int .i64 c2, .int .i64 d1, .int .i64 d2] 58)) w' ∧
      w'.cell? ⟨w.heap.size, 0, none⟩ = some (.int .i64 c1) ∧ w'.cell? ⟨w.heap.size, 1, none⟩ = some (.int .i64 c2) ∧ w'.cell? ⟨w.heap.size, 2, none⟩ = some (.int .i64 d1) ∧ w'.cell? ⟨w.heap.size, 3, none⟩ = some (.int .i64 d2))
    (first
      | exact ⟨(Below.refl _ _).drew, by go_simp, by go_simp, by go_simp, by go_simp⟩
      | (go_split_ands
         exact ⟨below_keep (by assumption) (by assumption), cell_keep (by assumption) (by assumption), cell_keep (by assumption) (by assumption), cell_keep (by assumption) (by assumption), cell_keep (by assumption) (by assumption)⟩))
    (first
      | (go_at_call 58; refine (side_of _ _ _ _ _ _ _ _ ha.out hb.out (by first | exact hc.out | exact hd.out) (by first | exact HM | exact HN)).mono ?_; rintro e w1 ⟨rfl, hb1⟩))
  all_goals go_wp2
  all_goals go_ret
  all_goals (go_split_ands; exact ⟨ret_bool (by rw [HV.out, IntWalk.i64_in _ (by omega)]), ((Below.refl _ _).alloc (Nat.le_refl _) _).trans (Below.mono (by assumption) (by simp))⟩)

theorem separates_of (a1 a2 b1 b2 c1 c2 d1 d2 : Int) (v : Bool) (w : World) (ha : Hid (vld a1 a2 = true)) (hb : Hid (vld b1 b2 = true)) (hc : Hid (vld c1 c2 = true)) (hd : Hid (vld d1 d2 = true)) (hv : Hid (sep a1 a2 b1 b2 c1 c2 d1 d2 = v)) :
    Calls Try.prog 57 #[sideV a1 a2 b1 b2, .agg #[.int .i64 c1, .int .i64 c2, .int .i64 d1, .int .i64 d2]] w fun e w' => e = .returned (.bool v) ∧ Below w.heap.size w w' := by
  have := separates_any a1 a2 b1 b2 c1 c2 d1 d2 w ha hb hc hd
  rw [hv.out] at this
  exact this

theorem crosses_any (a1 a2 b1 b2 c1 c2 d1 d2 : Int) (w : World) (ha : Hid (vld a1 a2 = true)) (hb : Hid (vld b1 b2 = true)) (hc : Hid (vld c1 c2 = true)) (hd : Hid (vld d1 d2 = true)) :
    Calls Try.prog 52 #[.agg #[.int .i64 a1, .int .i64 a2, .int .i64 b1, .int .i64 b2], .agg #[.int .i64 c1, .int .i64 c2, .int .i64 d1, .int .i64 d2]] w fun e w' => e = .returned (.bool (crs a1 a2 b1 b2 c1 c2 d1 d2)) ∧ Below w.heap.size w w' := by
  have hmf : ∀ (fn : Fn) (first cap : Array Value) (w : World), (Instr.makeFunc fn first cap).run Try.prog w = .ok (.func fn first cap) w := fun _ _ _ _ => rfl
  obtain ⟨u, hu⟩ : ∃ u, sep a1 a2 b1 b2 c1 c2 d1 d2 = u := ⟨_, rfl⟩
  obtain ⟨v, hv⟩ : ∃ v, sep c1 c2 d1 d2 a1 a2 b1 b2 = v := ⟨_, rfl⟩
  have HV : Hid (crs a1 a2 b1 b2 c1 c2 d1 d2 = (u && v)) := Lib.hid (by unfold crs; rw [hu, hv])
  have HU := Lib.hid hu
  have HW := Lib.hid hv
  clear hu hv
  go_enter Try.func52, Try.ntmps52
  go_wp2_with fail
  refine (separates_of _ _ _ _ _ _ _ _ _ _ ha hb hc hd HU).mono ?_
  rintro e w1 ⟨rfl, hb1⟩
  obtain ⟨hc1, hf1⟩ := bcell hb1
  cases u
  · go_wp2
    go_ret
    exact ⟨ret_bool HV.out.symm, (((Below.refl _ _).alloc (Nat.le_refl _) _).alloc (by simp) _).trans (hb1.mono (by simp; omega))⟩
  · go_wp2_with fail
    refine (separates_of _ _ _ _ _ _ _ _ _ _ hc hd ha hb HW).mono ?_
    rintro e w2 ⟨rfl, hb2⟩
    go_wp2
    go_ret
    exact ⟨ret_bool HV.out.symm, (((Below.refl _ _).alloc (Nat.le_refl _) _).alloc (by simp) _).trans ((below_keep hb2 hb1).mono (by simp; omega))⟩
end Go.Proofs.Ytllhdalfhhjigaa
