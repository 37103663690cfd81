/-
  The small functions of layer 4's reference: point, abs, sign, orient, bend. Condition for orient and bend: valid points.
-/
import Derived.Test.YtllhdalfhhjigaaPolyOf
import Derived.Lib.QuietBelow
namespace Go.Proofs.Ytllhdalfhhjigaa
open Go.RowKit Go.Sort

theorem mul_bd {u v : Int} (h1 : -536870912 ≤ u) (h2 : u ≤ 536870912) (h3 : -536870912 ≤ v) (h4 : v ≤ 536870912) : -288230376151711744 ≤ u * v ∧ u * v ≤ 288230376151711744 := by
  have a1 : 0 ≤ (536870912 - u) * (536870912 - v) := Int.mul_nonneg (by omega) (by omega)
  have a2 : 0 ≤ (536870912 + u) * (536870912 + v) := Int.mul_nonneg (by omega) (by omega)
  have a3 : 0 ≤ (536870912 - u) * (536870912 + v) := Int.mul_nonneg (by omega) (by omega)
  have a4 : 0 ≤ (536870912 + u) * (536870912 - v) := Int.mul_nonneg (by omega) (by omega)
  have e1 : (536870912 - u) * (536870912 - v) = 288230376151711744 - 536870912 * u - 536870912 * v + u * v := by grind
  have e2 : (536870912 + u) * (536870912 + v) = 288230376151711744 + 536870912 * u + 536870912 * v + u * v := by grind
  have e3 : (536870912 - u) * (536870912 + v) = 288230376151711744 - 536870912 * u + 536870912 * v - u * v := by grind
  have e4 : (536870912 + u) * (536870912 - v) = 288230376151711744 + 536870912 * u - 536870912 * v - u * v := by grind
  omega

theorem sign4_any (a : Int) (w : World) :
    Calls Try.prog 51 #[.int .i64 a] w fun e w' => e = .returned (.int .i64 (sgn a)) ∧ Below w.heap.size w w' := by
  go_enter Try.func51, Try.ntmps51
  go_wp2
  all_goals go_ret
  all_goals refine ⟨?_, Below.refl _ _⟩
  all_goals unfold sgn
  · rw [if_pos (by omega)]; rfl
  · rw [if_neg (by omega), if_pos (by omega)]; rfl
  · rw [if_neg (by omega), if_neg (by omega)]; rfl
theorem abs4_any (a : Int) (w : World) (h0 : -9223372036854775807 ≤ a) (h1 : a ≤ 9223372036854775807) :
    Calls Try.prog 32 #[.int .i64 a] w fun e w' => e = .returned (.int .i64 (max a (-a))) ∧ w' = w := by
  go_enter Try.func32, Try.ntmps32
  go_wp2
  all_goals go_ret
  all_goals refine ⟨?_, rfl⟩
  · rw [show max a (-a) = -a by omega]; rfl
  · rw [show max a (-a) = a by omega]; rfl
theorem point4_any (x y : Int) (w : World) :
    Calls Try.prog 29 #[.agg #[.int .i64 x, .int .i64 y]] w fun e w' => e = .returned (.bool (vld x y)) ∧ Below w.heap.size w w' := by
  go_enter Try.func29, Try.ntmps29
  go_wp2
  all_goals go_ret
  all_goals refine ⟨ret_bool ?_, (Below.refl _ _).alloc (Nat.le_refl _) _⟩
  all_goals (rw [Bool.eq_iff_iff, vld_iff]; simp; omega)
theorem point4_of (x y : Int) (v : Bool) (w : World) (h : Hid (vld x y = v)) :
    Calls Try.prog 29 #[.agg #[.int .i64 x, .int .i64 y]] w fun e w' => e = .returned (.bool v) ∧ Below w.heap.size w w' := by
  have := point4_any x y w
  rw [h.out] at this
  exact this

set_option maxHeartbeats 1000000 in
theorem orient4_of (a1 a2 b1 b2 c1 c2 m : Int) (w : World) (ha : Hid (vld a1 a2 = true)) (hb : Hid (vld b1 b2 = true)) (hc : Hid (vld c1 c2 = true)) (hm : Hid (area a1 a2 b1 b2 c1 c2 = m)) :
    Calls Try.prog 50 #[.agg #[.int .i64 a1, .int .i64 a2], .agg #[.int .i64 b1, .int .i64 b2], .agg #[.int .i64 c1, .int .i64 c2]] w fun e w' => e = .returned (.int .i64 m) ∧ Below w.heap.size w w' := by
  have h1 := (vld_iff _ _).1 ha.out
  have h2 := (vld_iff _ _).1 hb.out
  have h3 := (vld_iff _ _).1 hc.out
  have k1 := @mul_bd (b1 - a1) (c2 - a2) (by omega) (by omega) (by omega) (by omega)
  have k2 := @mul_bd (b2 - a2) (c1 - a1) (by omega) (by omega) (by omega) (by omega)
  have w1 : IntKind.i64.wrap (b1 - a1) = b1 - a1 := IntWalk.i64_in _ (by omega)
  have w2 : IntKind.i64.wrap (c2 - a2) = c2 - a2 := IntWalk.i64_in _ (by omega)
  have w3 : IntKind.i64.wrap (b2 - a2) = b2 - a2 := IntWalk.i64_in _ (by omega)
  have w4 : IntKind.i64.wrap (c1 - a1) = c1 - a1 := IntWalk.i64_in _ (by omega)
  have w5 : IntKind.i64.wrap ((b1 - a1) * (c2 - a2)) = (b1 - a1) * (c2 - a2) := IntWalk.i64_in _ (by omega)
  have w6 : IntKind.i64.wrap ((b2 - a2) * (c1 - a1)) = (b2 - a2) * (c1 - a1) := IntWalk.i64_in _ (by omega)
  have w7 : IntKind.i64.wrap ((b1 - a1) * (c2 - a2) - (b2 - a2) * (c1 - a1)) = (b1 - a1) * (c2 - a2) - (b2 - a2) * (c1 - a1) := IntWalk.i64_in _ (by omega)
  have HM : Hid ((b1 - a1) * (c2 - a2) - (b2 - a2) * (c1 - a1) = m) := Lib.hid hm.out
  clear h1 h2 h3 k1 k2
  go_enter Try.func50, Try.ntmps50
  go_wp2
  go_ret
  exact ⟨ret_int HM.out, al3 ..⟩

set_option maxHeartbeats 2000000 in
theorem bend4_of (p q r : Pt) (v : Bool) (w : World) (ha : Hid (vld p.1 p.2 = true)) (hb : Hid (vld q.1 q.2 = true)) (hc : Hid (vld r.1 r.2 = true)) (hv : Hid (bndB p q r = v)) :
    Calls Try.prog 35 #[.agg #[.int .i64 p.1, .int .i64 p.2], .agg #[.int .i64 q.1, .int .i64 q.2], .agg #[.int .i64 r.1, .int .i64 r.2]] w fun e w' => e = .returned (.bool v) ∧ Below w.heap.size w w' := by
  obtain ⟨m, hm⟩ : ∃ m, area p.1 p.2 q.1 q.2 r.1 r.2 = m := ⟨_, rfl⟩
  have HM := Lib.hid hm
  have h1 := (vld_iff _ _).1 ha.out
  have h2 := (vld_iff _ _).1 hb.out
  have h3 := (vld_iff _ _).1 hc.out
  have k1 := @mul_bd (q.1 - p.1) (r.1 - q.1) (by omega) (by omega) (by omega) (by omega)
  have k2 := @mul_bd (q.2 - p.2) (r.2 - q.2) (by omega) (by omega) (by omega) (by omega)
  have HV : Hid (v = (decide (m ≠ 0) || decide ((q.1 - p.1) * (r.1 - q.1) + (q.2 - p.2) * (r.2 - q.2) < 0))) := Lib.hid (by rw [← hv.out, ← hm]; rfl)
  have w1 : IntKind.i64.wrap (q.1 - p.1) = q.1 - p.1 := IntWalk.i64_in _ (by omega)
  have w2 : IntKind.i64.wrap (r.1 - q.1) = r.1 - q.1 := IntWalk.i64_in _ (by omega)
  have w3 : IntKind.i64.wrap (q.2 - p.2) = q.2 - p.2 := IntWalk.i64_in _ (by omega)
  have w4 : IntKind.i64.wrap (r.2 - q.2) = r.2 - q.2 := IntWalk.i64_in _ (by omega)
  have w5 : IntKind.i64.wrap ((q.1 - p.1) * (r.1 - q.1)) = (q.1 - p.1) * (r.1 - q.1) := IntWalk.i64_in _ (by omega)
  have w6 : IntKind.i64.wrap ((q.2 - p.2) * (r.2 - q.2)) = (q.2 - p.2) * (r.2 - q.2) := IntWalk.i64_in _ (by omega)
  have w7 : IntKind.i64.wrap ((q.1 - p.1) * (r.1 - q.1) + (q.2 - p.2) * (r.2 - q.2)) = (q.1 - p.1) * (r.1 - q.1) + (q.2 - p.2) * (r.2 - q.2) := IntWalk.i64_in _ (by omega)
  clear h1 h2 h3 k1 k2 hm
  by_cases h0 : m = 0
  · subst h0
    go_enter Try.func35, Try.ntmps35
    go_wp2_with fail
    refine (orient4_of _ _ _ _ _ _ 0 _ ha hb hc HM).mono ?_
    rintro e w9 ⟨rfl, hb9⟩
    obtain ⟨hc9, hf9⟩ := bcell hb9
    have hz9 := hb9.size
    simp only [World.size_alloc] at hz9
    go_wp2
    go_ret
    exact ⟨ret_bool (by rw [HV.out]; simp), below_keep hb9 (al3 ..)⟩
  · go_enter Try.func35, Try.ntmps35
    go_wp2_with fail
    refine (orient4_of _ _ _ _ _ _ m _ ha hb hc HM).mono ?_
    rintro e w9 ⟨rfl, hb9⟩
    go_wp2
    go_ret
    exact ⟨ret_bool (by rw [HV.out]; simp [h0]), below_keep hb9 (al3 ..)⟩
end Go.Proofs.Ytllhdalfhhjigaa
