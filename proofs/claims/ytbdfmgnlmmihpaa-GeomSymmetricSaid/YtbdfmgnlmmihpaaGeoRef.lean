/-
  What the functions of layer 2's reference return: whole, Orient, Distance, On. Conditions: arguments are ints; no other.
-/
import Derived.Test.YtbdfmgnlmmihpaaGeoApi
import Derived.Deep.QuietTactic
import Derived.BigQuiet
namespace Go.Proofs.Ytbdfmgnlmmihpaa
open Go.RowKit

theorem below_drewN {B : Nat} {a w : World} (h : Below B a w) (n : Nat) : Below B a (w.drewN n) := h.trans ⟨rfl, rfl, rfl, Nat.le_refl _, fun _ _ => rfl⟩

theorem refValid_of (x y : Int) (v : Bool) (w : World) (hv : Hid (vld x y = v)) :
    Calls Try.prog 10 #[.agg #[.int .i64 x, .int .i64 y]] w fun e w' => e = .returned (.bool v) ∧ Below w.heap.size w w' := by
  have := refValid_any x y w
  rw [hv.out] at this
  exact this

theorem whole_of (a1 a2 b1 b2 : Int) (v : Bool) (w : World) (hv : Hid ((vld a1 a2 && vld b1 b2) = v)) :
    Calls Try.prog 28 #[.agg #[.int .i64 a1, .int .i64 a2, .int .i64 b1, .int .i64 b2]] w fun e w' => e = .returned (.bool v) ∧ Below w.heap.size w w' := by
  obtain ⟨p, hp⟩ : ∃ v, vld a1 a2 = v := ⟨_, rfl⟩
  obtain ⟨q, hq⟩ : ∃ v, vld b1 b2 = v := ⟨_, rfl⟩
  have HV : Hid (v = (p && q)) := Lib.hid (by rw [← hv.out, hp, hq])
  have HP := Lib.hid hp
  have HQ := Lib.hid hq
  clear hp hq
  go_enter Try.func28, Try.ntmps28
  go_wp2_with fail
  refine (refValid_of _ _ _ _ HP).mono ?_
  rintro e w1 ⟨rfl, hb1⟩
  obtain ⟨hc1, hf1⟩ := bcell hb1
  cases p
  · go_wp2
    go_ret
    exact ⟨ret_bool HV.out.symm, ((Below.refl _ _).alloc (Nat.le_refl _) _).trans (hb1.mono (by simp))⟩
  · go_wp2_with fail
    refine (refValid_of _ _ _ _ HQ).mono ?_
    rintro e w2 ⟨rfl, hb2⟩
    go_wp2
    go_ret
    exact ⟨ret_bool HV.out.symm, ((Below.refl _ _).alloc (Nat.le_refl _) _).trans ((below_keep hb2 hb1).mono (by simp))⟩

theorem refOrient_any (a1 a2 b1 b2 c1 c2 : Int) (w : World) :
    Calls Try.prog 12 #[.agg #[.int .i64 a1, .int .i64 a2], .agg #[.int .i64 b1, .int .i64 b2], .agg #[.int .i64 c1, .int .i64 c2]] w fun e w' => e = .returned (.int .i64 (orient a1 a2 b1 b2 c1 c2)) ∧ Below w.heap.size w w' := by
  obtain ⟨p, hp⟩ : ∃ v, vld a1 a2 = v := ⟨_, rfl⟩
  obtain ⟨q, hq⟩ : ∃ v, vld b1 b2 = v := ⟨_, rfl⟩
  obtain ⟨r, hr⟩ : ∃ v, vld c1 c2 = v := ⟨_, rfl⟩
  have HO : Hid (orient a1 a2 b1 b2 c1 c2 = if p && q && r then side a1 a2 b1 b2 c1 c2 else 0) := Lib.hid (by unfold orient vld3; rw [hp, hq, hr])
  have HP := Lib.hid hp
  have HQ := Lib.hid hq
  have HR := Lib.hid hr
  clear hp hq hr
  have base : Below w.heap.size w (((w.alloc (.cells #[.int .i64 a1, .int .i64 a2] 23)).alloc (.cells #[.int .i64 b1, .int .i64 b2] 23)).alloc (.cells #[.int .i64 c1, .int .i64 c2] 23)) :=
    (((Below.refl _ _).alloc (Nat.le_refl _) _).alloc (by simp) _).alloc (by simp; omega) _
  cases p
  · go_enter Try.func12, Try.ntmps12
    go_wp2_with fail
    refine (refValid_of _ _ _ _ HP).mono ?_
    rintro e w1 ⟨rfl, hb1⟩
    go_wp2
    go_ret
    exact ⟨ret_int HO.out.symm, base.trans (hb1.mono (by simp; omega))⟩
  cases q
  · go_enter Try.func12, Try.ntmps12
    go_wp2_with fail
    refine (refValid_of _ _ _ _ HP).mono ?_
    rintro e w1 ⟨rfl, hb1⟩
    obtain ⟨hc1, hf1⟩ := bcell hb1
    go_wp2_with fail
    refine (refValid_of _ _ _ _ HQ).mono ?_
    rintro e w2 ⟨rfl, hb2⟩
    go_wp2
    go_ret
    exact ⟨ret_int HO.out.symm, base.trans ((below_keep hb2 hb1).mono (by simp; omega))⟩
  cases r
  · go_enter Try.func12, Try.ntmps12
    go_wp2_with fail
    refine (refValid_of _ _ _ _ HP).mono ?_
    rintro e w1 ⟨rfl, hb1⟩
    obtain ⟨hc1, hf1⟩ := bcell hb1
    go_wp2_with fail
    refine (refValid_of _ _ _ _ HQ).mono ?_
    rintro e w2 ⟨rfl, hb2⟩
    obtain ⟨hc2, hf2⟩ := bcell (below_keep hb2 hb1)
    go_wp2_with fail
    refine (refValid_of _ _ _ _ HR).mono ?_
    rintro e w3 ⟨rfl, hb3⟩
    go_wp2
    go_ret
    exact ⟨ret_int HO.out.symm, base.trans ((below_keep hb3 (below_keep hb2 hb1)).mono (by simp; omega))⟩
  · obtain ⟨x1, x2, x3, x4⟩ := (vld_iff _ _).1 HP.out
    obtain ⟨y1, y2, y3, y4⟩ := (vld_iff _ _).1 HQ.out
    obtain ⟨z1, z2, z3, z4⟩ := (vld_iff _ _).1 HR.out
    obtain ⟨p1, p2⟩ := mul_small (b1 - a1) (c2 - a2) (by omega) (by omega) (by omega) (by omega)
    obtain ⟨q1, q2⟩ := mul_small (b2 - a2) (c1 - a1) (by omega) (by omega) (by omega) (by omega)
    go_enter Try.func12, Try.ntmps12
    go_wp2_with fail
    refine (refValid_of _ _ _ _ HP).mono ?_
    rintro e w1 ⟨rfl, hb1⟩
    obtain ⟨hc1, hf1⟩ := bcell hb1
    go_wp2_with fail
    refine (refValid_of _ _ _ _ HQ).mono ?_
    rintro e w2 ⟨rfl, hb2⟩
    obtain ⟨hc2, hf2⟩ := bcell (below_keep hb2 hb1)
    go_wp2_with fail
    refine (refValid_of _ _ _ _ HR).mono ?_
    rintro e w3 ⟨rfl, hb3⟩
    obtain ⟨hc3, hf3⟩ := bcell (below_keep hb3 (below_keep hb2 hb1))
    go_wp2_with fail
    refine (sign_any _ _).mono ?_
    rintro e w' ⟨rfl, rfl⟩
    go_wp2
    go_ret
    exact ⟨ret_int (by rw [HO.out]; exact area_sgn ..), base.trans ((below_keep hb3 (below_keep hb2 hb1)).mono (by simp; omega))⟩

theorem refDistance_any (a1 a2 b1 b2 : Int) (w : World) :
    Calls Try.prog 14 #[.agg #[.int .i64 a1, .int .i64 a2], .agg #[.int .i64 b1, .int .i64 b2]] w fun e w' => e = .returned (.int .i64 (dist a1 a2 b1 b2)) ∧ Below w.heap.size w w' := by
  obtain ⟨p, hp⟩ : ∃ v, vld a1 a2 = v := ⟨_, rfl⟩
  obtain ⟨q, hq⟩ : ∃ v, vld b1 b2 = v := ⟨_, rfl⟩
  have HO : Hid (dist a1 a2 b1 b2 = if p && q then max (a1 - b1) (b1 - a1) + max (a2 - b2) (b2 - a2) else 0) := Lib.hid (by unfold dist; rw [hp, hq])
  have HP := Lib.hid hp
  have HQ := Lib.hid hq
  clear hp hq
  have base : Below w.heap.size w ((w.alloc (.cells #[.int .i64 a1, .int .i64 a2] 23)).alloc (.cells #[.int .i64 b1, .int .i64 b2] 23)) :=
    ((Below.refl _ _).alloc (Nat.le_refl _) _).alloc (by simp) _
  cases p
  · go_enter Try.func14, Try.ntmps14
    go_wp2_with fail
    refine (refValid_of _ _ _ _ HP).mono ?_
    rintro e w1 ⟨rfl, hb1⟩
    go_wp2
    go_ret
    exact ⟨ret_int HO.out.symm, base.trans (hb1.mono (by simp; omega))⟩
  cases q
  · go_enter Try.func14, Try.ntmps14
    go_wp2_with fail
    refine (refValid_of _ _ _ _ HP).mono ?_
    rintro e w1 ⟨rfl, hb1⟩
    obtain ⟨hc1, hf1⟩ := bcell hb1
    go_wp2_with fail
    refine (refValid_of _ _ _ _ HQ).mono ?_
    rintro e w2 ⟨rfl, hb2⟩
    go_wp2
    go_ret
    exact ⟨ret_int HO.out.symm, base.trans ((below_keep hb2 hb1).mono (by simp; omega))⟩
  · obtain ⟨x1, x2, x3, x4⟩ := (vld_iff _ _).1 HP.out
    obtain ⟨y1, y2, y3, y4⟩ := (vld_iff _ _).1 HQ.out
    go_enter Try.func14, Try.ntmps14
    go_wp2_with fail
    refine (refValid_of _ _ _ _ HP).mono ?_
    rintro e w1 ⟨rfl, hb1⟩
    obtain ⟨hc1, hf1⟩ := bcell hb1
    go_wp2_with fail
    refine (refValid_of _ _ _ _ HQ).mono ?_
    rintro e w2 ⟨rfl, hb2⟩
    have hb3 := below_keep hb2 hb1
    have k0 : w2.cell? ⟨w.heap.size, 0, none⟩ = some (.int .i64 a1) := by rw [hb3.cell (p := ⟨w.heap.size, 0, none⟩) (by simp; omega)]; go_simp
    have k1 : w2.cell? ⟨w.heap.size, 1, none⟩ = some (.int .i64 a2) := by rw [hb3.cell (p := ⟨w.heap.size, 1, none⟩) (by simp; omega)]; go_simp
    have k2 : w2.cell? ⟨w.heap.size + 1, 0, none⟩ = some (.int .i64 b1) := by rw [hb3.cell (p := ⟨w.heap.size + 1, 0, none⟩) (by simp)]; go_simp
    have k3 : w2.cell? ⟨w.heap.size + 1, 1, none⟩ = some (.int .i64 b2) := by rw [hb3.cell (p := ⟨w.heap.size + 1, 1, none⟩) (by simp)]; go_simp
    have e1 : IntKind.i64.wrap (a1 - b1) = a1 - b1 := IntWalk.i64_in _ (by omega)
    have e2 : IntKind.i64.wrap (a2 - b2) = a2 - b2 := IntWalk.i64_in _ (by omega)
    go_wp2_with fail
    go_quiet ((go_at_call 26; exact Calls.quiet_of_same ((abs_any _ _ (by omega) (by omega)).mono fun _ _ h => ⟨h.1, h.2.symm⟩)))
    clear e1 e2
    go_wp2
    go_ret
    exact ⟨ret_int (a := max (a1 - b1) (-(a1 - b1)) + max (a2 - b2) (-(a2 - b2))) (by have := HO.out; simp at this; omega), below_drewN (base.trans (hb3.mono (by simp; omega))) _⟩

theorem refOrient_of (a1 a2 b1 b2 c1 c2 n : Int) (w : World) (hn : Hid (orient a1 a2 b1 b2 c1 c2 = n)) :
    Calls Try.prog 12 #[.agg #[.int .i64 a1, .int .i64 a2], .agg #[.int .i64 b1, .int .i64 b2], .agg #[.int .i64 c1, .int .i64 c2]] w fun e w' => e = .returned (.int .i64 n) ∧ Below w.heap.size w w' := by
  have := refOrient_any a1 a2 b1 b2 c1 c2 w
  rw [hn.out] at this
  exact this

/-- What the reference tests of a point on a segment. -/
theorem on_parts (p1 p2 a1 a2 b1 b2 : Int) : on p1 p2 a1 a2 b1 b2 = (vld p1 p2 && (vld a1 a2 && vld b1 b2) && decide (orient a1 a2 b1 b2 p1 p2 = 0) && (btw p1 a1 b1 && btw p2 a2 b2)) := by
  unfold on vld3 has orient vld3
  cases vld p1 p2 <;> cases vld a1 a2 <;> cases vld b1 b2 <;> simp [Bool.and_assoc]

set_option maxHeartbeats 1000000 in
theorem refOn_any (p1 p2 a1 a2 b1 b2 : Int) (w : World) :
    Calls Try.prog 17 #[.agg #[.int .i64 p1, .int .i64 p2], .agg #[.int .i64 a1, .int .i64 a2, .int .i64 b1, .int .i64 b2]] w fun e w' => e = .returned (.bool (on p1 p2 a1 a2 b1 b2)) ∧ Below w.heap.size w w' := by
  obtain ⟨p, hp⟩ : ∃ v, vld p1 p2 = v := ⟨_, rfl⟩
  obtain ⟨q, hq⟩ : ∃ v, (vld a1 a2 && vld b1 b2) = v := ⟨_, rfl⟩
  obtain ⟨n, hn⟩ : ∃ v, orient a1 a2 b1 b2 p1 p2 = v := ⟨_, rfl⟩
  have HO : Hid (on p1 p2 a1 a2 b1 b2 = (p && q && decide (n = 0) && (btw p1 a1 b1 && btw p2 a2 b2))) := Lib.hid (by rw [on_parts, hp, hq, hn])
  have HP := Lib.hid hp
  have HQ := Lib.hid hq
  have HN := Lib.hid hn
  clear hp hq hn
  have base : Below w.heap.size w ((w.alloc (.cells #[.int .i64 p1, .int .i64 p2] 23)).alloc (.cells #[.int .i64 a1, .int .i64 a2, .int .i64 b1, .int .i64 b2] 30)) :=
    ((Below.refl _ _).alloc (Nat.le_refl _) _).alloc (by simp) _
  cases p
  · go_enter Try.func17, Try.ntmps17
    go_wp2_with fail
    refine (refValid_of _ _ _ _ HP).mono ?_
    rintro e w1 ⟨rfl, hb1⟩
    go_wp2
    go_ret
    exact ⟨ret_bool HO.out.symm, base.trans (hb1.mono (by simp; omega))⟩
  cases q
  · go_enter Try.func17, Try.ntmps17
    go_wp2_with fail
    refine (refValid_of _ _ _ _ HP).mono ?_
    rintro e w1 ⟨rfl, hb1⟩
    obtain ⟨hc1, hf1⟩ := bcell hb1
    go_wp2_with fail
    refine (whole_of _ _ _ _ _ _ HQ).mono ?_
    rintro e w2 ⟨rfl, hb2⟩
    go_wp2
    go_ret
    exact ⟨ret_bool HO.out.symm, base.trans ((below_keep hb2 hb1).mono (by simp; omega))⟩
  · go_enter Try.func17, Try.ntmps17
    go_wp2_with fail
    refine (refValid_of _ _ _ _ HP).mono ?_
    rintro e w1 ⟨rfl, hb1⟩
    obtain ⟨hc1, hf1⟩ := bcell hb1
    go_wp2_with fail
    refine (whole_of _ _ _ _ _ _ HQ).mono ?_
    rintro e w2 ⟨rfl, hb2⟩
    obtain ⟨hc2, hf2⟩ := bcell (below_keep hb2 hb1)
    go_wp2_with fail
    refine (refOrient_of _ _ _ _ _ _ _ _ HN).mono ?_
    rintro e w3 ⟨rfl, hb3⟩
    obtain ⟨hc3, hf3⟩ := bcell (below_keep hb3 (below_keep hb2 hb1))
    by_cases h0 : n = 0
    · subst h0
      go_wp2
      all_goals go_ret
      all_goals refine ⟨ret_bool ?_, base.trans ((below_keep hb3 (below_keep hb2 hb1)).mono (by simp; omega))⟩
      all_goals (rw [HO.out, Bool.eq_iff_iff]; simp [btw_eq]; omega)
    · have ht : (n == 0) = false := by simpa using h0
      have ht' : (n != 0) = true := by simpa using h0
      go_wp2
      go_ret
      exact ⟨ret_bool (by rw [HO.out]; simp [h0]), base.trans ((below_keep hb3 (below_keep hb2 hb1)).mono (by simp; omega))⟩
end Go.Proofs.Ytbdfmgnlmmihpaa
