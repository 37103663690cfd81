/-
  What the exported functions of layer 2 return: Orient, Distance, On, Meet, Cross. Conditions: arguments are ints; no other.
-/
import Derived.Test.YtifliljlacmmlaaGeoSide
import Derived.Test.YtifliljlacmmlaaGeoAll
import Derived.RegionTactic
namespace Go.Proofs.Ytifliljlacmmlaa
open Go.RowKit

theorem vld3_parts {a1 a2 b1 b2 c1 c2 : Int} (h : vld3 a1 a2 b1 b2 c1 c2 = true) : vld a1 a2 = true ∧ vld b1 b2 = true ∧ vld c1 c2 = true := by
  unfold vld3 at h; simp only [Bool.and_eq_true] at h; exact ⟨h.1.1, h.1.2, h.2⟩
theorem vld4_parts {a1 a2 b1 b2 c1 c2 d1 d2 : Int} (h : vld4 a1 a2 b1 b2 c1 c2 d1 d2 = true) : vld a1 a2 = true ∧ vld b1 b2 = true ∧ vld c1 c2 = true ∧ vld d1 d2 = true := by
  unfold vld4 at h; simp only [Bool.and_eq_true] at h; exact ⟨h.1.1.1, h.1.1.2, h.1.2, h.2⟩

theorem orient_any (a1 a2 b1 b2 c1 c2 : Int) (w : World) :
    Calls Try.prog 43 #[.agg #[.int .i64 a1, .int .i64 a2], .agg #[.int .i64 b1, .int .i64 b2], .agg #[.int .i64 c1, .int .i64 c2]] w fun e w' => e = .returned (.int .i64 (orient a1 a2 b1 b2 c1 c2)) ∧ Below w.heap.size w w' := by
  obtain ⟨v, hv⟩ : ∃ v, vld3 a1 a2 b1 b2 c1 c2 = v := ⟨_, rfl⟩
  have HV := Lib.hid hv
  have HO : Hid (orient a1 a2 b1 b2 c1 c2 = if v then side a1 a2 b1 b2 c1 c2 else 0) := Lib.hid (by unfold orient; rw [hv])
  clear hv
  cases v
  · go_enter Try.func43, Try.ntmps43
    go_wp2_with fail
    refine (allValid3 _ a1 a2 b1 b2 c1 c2 _ ?_ ?_ ?_ ?_ ?_ ?_ _ HV).mono ?_
    iterate 6 (· go_simp)
    rintro e w1 ⟨rfl, hb1⟩
    go_wp2
    go_ret
    refine ⟨ret_int HO.out.symm, ((((Below.refl _ _).alloc (Nat.le_refl _) _).alloc (by simp) _).alloc (by simp; omega) _).alloc (by simp; omega) _ |>.trans (hb1.mono (by simp; omega))⟩
  · have HP := Lib.hid (vld3_parts HV.out)
    go_enter Try.func43, Try.ntmps43
    go_wp2_with fail
    refine (allValid3 _ a1 a2 b1 b2 c1 c2 _ ?_ ?_ ?_ ?_ ?_ ?_ _ HV).mono ?_
    iterate 6 (· go_simp)
    rintro e w1 ⟨rfl, hb1⟩
    obtain ⟨hc1, hf1⟩ := bcell hb1
    go_wp2_with fail
    refine (side_any _ _ _ _ _ _ _ HP.out.1 HP.out.2.1 HP.out.2.2).mono ?_
    rintro e w2 ⟨rfl, hb2⟩
    go_wp2
    go_ret
    refine ⟨ret_int HO.out.symm, ((((Below.refl _ _).alloc (Nat.le_refl _) _).alloc (by simp) _).alloc (by simp; omega) _).alloc (by simp; omega) _ |>.trans ((below_keep hb2 hb1).mono (by simp; omega))⟩



end Go.Proofs.Ytifliljlacmmlaa