/-
  What the exported functions of layer 2 return: Orient, Distance, On, Meet, Cross. Conditions: arguments are ints; no other.
-/
import Derived.Test.YtllhdalfhhjigaaGeoSide
import Derived.Test.YtllhdalfhhjigaaGeoAll
import Derived.RegionTactic
namespace Go.Proofs.Ytllhdalfhhjigaa
open Go.RowKit

theorem vld3_parts {a1 a2 b1 b2 c1 c2 : Int} (h : vld3 a1 a2 b1 b2 c1 c2 = true) : vld a1 a2 = true ∧ vld b1 b2 = true ∧ vld c1 c2 = true := by
  unfold vld3 at h; simp only [Bool.and_eq_true] at h; exact ⟨h.1.1, h.1.2, h.2⟩
theorem vld4_parts {a1 a2 b1 b2 c1 c2 d1 d2 : Int} (h : vld4 a1 a2 b1 b2 c1 c2 d1 d2 = true) : vld a1 a2 = true ∧ vld b1 b2 = true ∧ vld c1 c2 = true ∧ vld d1 d2 = true := by
  unfold vld4 at h; simp only [Bool.and_eq_true] at h; exact ⟨h.1.1.1, h.1.1.2, h.1.2, h.2⟩


theorem on_any (p1 p2 a1 a2 b1 b2 : Int) (w : World) :
    Calls Try.prog 49 #[.agg #[.int .i64 p1, .int .i64 p2], .agg #[.int .i64 a1, .int .i64 a2, .int .i64 b1, .int .i64 b2]] w fun e w' => e = .returned (.bool (on p1 p2 a1 a2 b1 b2)) ∧ Below w.heap.size w w' := by
  obtain ⟨v, hv⟩ : ∃ v, vld3 p1 p2 a1 a2 b1 b2 = v := ⟨_, rfl⟩
  have HV := Lib.hid hv
  have HO : Hid (on p1 p2 a1 a2 b1 b2 = (v && has a1 a2 b1 b2 p1 p2)) := Lib.hid (by unfold on; rw [hv])
  clear hv
  cases v
  · go_enter Try.func49, Try.ntmps49
    go_wp2_with fail
    refine (allValid3 _ p1 p2 a1 a2 b1 b2 _ ?_ ?_ ?_ ?_ ?_ ?_ _ HV).mono ?_
    iterate 6 (· go_simp)
    rintro e w1 ⟨rfl, hb1⟩
    go_wp2
    go_ret
    refine ⟨ret_bool HO.out.symm, (((Below.refl _ _).alloc (Nat.le_refl _) _).alloc (by simp) _).alloc (by simp; omega) _ |>.trans (hb1.mono (by simp; omega))⟩
  · have HP := Lib.hid (vld3_parts HV.out)
    go_enter Try.func49, Try.ntmps49
    go_wp2_with fail
    refine (allValid3 _ p1 p2 a1 a2 b1 b2 _ ?_ ?_ ?_ ?_ ?_ ?_ _ HV).mono ?_
    iterate 6 (· go_simp)
    rintro e w1 ⟨rfl, hb1⟩
    obtain ⟨hc1, hf1⟩ := bcell hb1
    go_wp2_with fail
    refine (contains_any _ _ _ _ _ _ _ (Lib.hid HP.out.2.1) (Lib.hid HP.out.2.2) (Lib.hid HP.out.1)).mono ?_
    rintro e w2 ⟨rfl, hb2⟩
    go_wp2
    go_ret
    refine ⟨ret_bool HO.out.symm, (((Below.refl _ _).alloc (Nat.le_refl _) _).alloc (by simp) _).alloc (by simp; omega) _ |>.trans ((below_keep hb2 hb1).mono (by simp; omega))⟩

theorem cross_any (a1 a2 b1 b2 c1 c2 d1 d2 : Int) (w : World) :
    Calls Try.prog 41 #[.agg #[.int .i64 a1, .int .i64 a2, .int .i64 b1, .int .i64 b2], .agg #[.int .i64 c1, .int .i64 c2, .int .i64 d1, .int .i64 d2]] w fun e w' => e = .returned (.bool (cross a1 a2 b1 b2 c1 c2 d1 d2)) ∧ Below w.heap.size w w' := by
  obtain ⟨v, hv⟩ : ∃ v, vld4 a1 a2 b1 b2 c1 c2 d1 d2 = v := ⟨_, rfl⟩
  have HV := Lib.hid hv
  have HO : Hid (cross a1 a2 b1 b2 c1 c2 d1 d2 = (v && crs a1 a2 b1 b2 c1 c2 d1 d2)) := Lib.hid (by unfold cross; rw [hv])
  clear hv
  cases v
  · go_enter Try.func41, Try.ntmps41
    go_wp2_with fail
    refine (allValid4 _ a1 a2 b1 b2 c1 c2 d1 d2 _ ?_ ?_ ?_ ?_ ?_ ?_ ?_ ?_ _ HV).mono ?_
    iterate 8 (· go_simp)
    rintro e w1 ⟨rfl, hb1⟩
    go_wp2
    go_ret
    refine ⟨ret_bool HO.out.symm, (((Below.refl _ _).alloc (Nat.le_refl _) _).alloc (by simp) _).alloc (by simp; omega) _ |>.trans (hb1.mono (by simp; omega))⟩
  · have HP := Lib.hid (vld4_parts HV.out)
    go_enter Try.func41, Try.ntmps41
    go_wp2_with fail
    refine (allValid4 _ a1 a2 b1 b2 c1 c2 d1 d2 _ ?_ ?_ ?_ ?_ ?_ ?_ ?_ ?_ _ HV).mono ?_
    iterate 8 (· go_simp)
    rintro e w1 ⟨rfl, hb1⟩
    obtain ⟨hc1, hf1⟩ := bcell hb1
    go_wp2_with fail
    refine (crosses_any _ _ _ _ _ _ _ _ _ (Lib.hid HP.out.1) (Lib.hid HP.out.2.1) (Lib.hid HP.out.2.2.1) (Lib.hid HP.out.2.2.2)).mono ?_
    rintro e w2 ⟨rfl, hb2⟩
    go_wp2
    go_ret
    refine ⟨ret_bool HO.out.symm, (((Below.refl _ _).alloc (Nat.le_refl _) _).alloc (by simp) _).alloc (by simp; omega) _ |>.trans ((below_keep hb2 hb1).mono (by simp; omega))⟩

theorem distance_any (a1 a2 b1 b2 : Int) (w : World) :
    Calls Try.prog 31 #[.agg #[.int .i64 a1, .int .i64 a2], .agg #[.int .i64 b1, .int .i64 b2]] w fun e w' => e = .returned (.int .i64 (dist a1 a2 b1 b2)) ∧ Below w.heap.size w w' := by
  obtain ⟨v, hv⟩ : ∃ v, (vld a1 a2 && vld b1 b2) = v := ⟨_, rfl⟩
  have HV := Lib.hid hv
  have HO : Hid (dist a1 a2 b1 b2 = if v then max (a1 - b1) (b1 - a1) + max (a2 - b2) (b2 - a2) else 0) := Lib.hid (by unfold dist; rw [hv])
  clear hv
  cases v
  · go_enter Try.func31, Try.ntmps31
    go_wp2_with fail
    refine (allValid2 _ a1 a2 b1 b2 _ ?_ ?_ ?_ ?_ _ HV).mono ?_
    iterate 4 (· go_simp)
    rintro e w1 ⟨rfl, hb1⟩
    go_wp2
    go_ret
    refine ⟨ret_int HO.out.symm, (((Below.refl _ _).alloc (Nat.le_refl _) _).alloc (by simp) _).alloc (by simp; omega) _ |>.trans (hb1.mono (by simp; omega))⟩
  · have HP := HV.out
    rw [Bool.and_eq_true, vld_iff, vld_iff] at HP
    obtain ⟨⟨x1, x2, x3, x4⟩, y1, y2, y3, y4⟩ := HP
    go_enter Try.func31, Try.ntmps31
    go_wp2_with fail
    refine (allValid2 _ a1 a2 b1 b2 _ ?_ ?_ ?_ ?_ _ HV).mono ?_
    iterate 4 (· go_simp)
    rintro e w1 ⟨rfl, hb1⟩
    obtain ⟨hc1, hf1⟩ := bcell hb1
    go_wp2
    all_goals go_ret
    all_goals refine ⟨ret_int ?_, (((Below.refl _ _).alloc (Nat.le_refl _) _).alloc (by simp) _).alloc (by simp; omega) _ |>.trans (hb1.mono (by simp; omega))⟩
    all_goals (rw [HO.out, if_pos trivial]; try omega)
end Go.Proofs.Ytllhdalfhhjigaa
