/-
  What allValid of layer 2 returns of a slice of points that it is handed: whether all are valid. Conditions: the slice's cells hold the points.
-/
import Derived.Test.YtllhdalfhhjigaaGeoNum
import Derived.LoopTactic
namespace Go.Proofs.Ytllhdalfhhjigaa
open Go.RowKit

/-- The first k points are valid. -/
def allV (x y : Nat → Int) (k : Nat) : Bool := decide (∀ i, i < k → vld (x i) (y i) = true)
theorem allV_zero (x y : Nat → Int) : allV x y 0 = true := by unfold allV; simp
theorem allV_succ (x y : Nat → Int) (k : Nat) : allV x y (k + 1) = (allV x y k && vld (x k) (y k)) := by
  unfold allV
  rw [Bool.eq_iff_iff]
  simp only [decide_eq_true_eq, Bool.and_eq_true]
  constructor
  · intro h; exact ⟨fun i hi => h i (by omega), h k (by omega)⟩
  · intro h i hi
    rcases Nat.lt_or_ge i k with h1 | h1
    · exact h.1 i h1
    · obtain rfl : i = k := by omega
      exact h.2
theorem allV_no (x y : Nat → Int) {k n : Nat} (h : k < n) (hv : vld (x k) (y k) = false) : allV x y n = false := by
  unfold allV
  simp only [decide_eq_false_iff_not]
  intro hc
  have := hc k h
  rw [hv] at this
  cases this

theorem valid_of (x y : Int) (v : Bool) (w : World) (hv : Hid (vld x y = v)) :
    Calls Try.prog 54 #[.agg #[.int .i64 x, .int .i64 y]] w fun e w' => e = .returned (.bool v) ∧ Below w.heap.size w w' := by
  have := valid_any x y w
  rw [hv.out] at this
  exact this

set_option maxHeartbeats 1000000 in
theorem allValid_any (b n : Nat) (x y : Nat → Int) (w : World) (hn : n ≤ 1000) (hb : b < w.heap.size)
    (hc : Hid (∀ i, i < n → w.cell? ⟨b, i * 2, none⟩ = some (.int .i64 (x i)) ∧ w.cell? ⟨b, i * 2 + 1, none⟩ = some (.int .i64 (y i)))) :
    Calls Try.prog 46 #[.slice (some ⟨b, 0, none⟩) n n] w fun e w' => e = .returned (.bool (allV x y n)) ∧ Below w.heap.size w w' := by
  go_enter Try.func46, Try.ntmps46
  go_wp2
  go_loopw [7] (fun i wr => ∃ k : Nat, k ≤ n ∧ i = .int .i64 k ∧ allV x y k = true ∧ Below w.heap.size w wr) (fun i _ => n - (intOf i).toNat)
  case atStart => exact ⟨0, Nat.zero_le _, rfl, allV_zero x y, Below.refl _ _⟩
  case round =>
    obtain ⟨k, hk, rfl, hv, hB⟩ := hrel
    by_cases hlt : k < n
    · obtain ⟨g0, g1⟩ := hc.out k hlt
      rename_i wr
      have c0 : wr.cell? ⟨b, k * 2, none⟩ = some (.int .i64 (x k)) := by rw [hB.cell (p := ⟨b, k * 2, none⟩) hb]; exact g0
      have c1 : wr.cell? ⟨b, k * 2 + 1, none⟩ = some (.int .i64 (y k)) := by rw [hB.cell (p := ⟨b, k * 2 + 1, none⟩) hb]; exact g1
      clear g0 g1
      have HV := Lib.hid hv
      clear hv
      obtain ⟨v, hvv⟩ : ∃ v, vld (x k) (y k) = v := ⟨_, rfl⟩
      have HW := Lib.hid hvv
      clear hvv
      cases v
      · go_wp2_with fail
        refine (valid_of _ _ _ _ HW).mono ?_
        rintro e w1 ⟨rfl, hb1⟩
        go_wp2
        go_ret
        exact ⟨ret_bool (allV_no x y hlt HW.out).symm, hB.trans (((Below.refl _ _).alloc (Nat.le_refl _) _).trans (hb1.mono (by simp)) |>.mono hB.size)⟩
      · go_wp2_with fail
        refine (valid_of _ _ _ _ HW).mono ?_
        rintro e w1 ⟨rfl, hb1⟩
        go_wp2
        go_roundw
        case rel => exact ⟨k + 1, by omega, by go_num, by rw [allV_succ, HV.out, HW.out]; rfl, hB.trans (((Below.refl _ _).alloc (Nat.le_refl _) _).trans (hb1.mono (by simp)) |>.mono hB.size)⟩
        case measure => simp [intOf]; omega
    · obtain rfl : n = k := by omega
      have HV := Lib.hid hv
      clear hv
      go_wp2
      go_ret
      exact ⟨ret_bool HV.out.symm, hB⟩

theorem allValid3 (b : Nat) (a1 a2 b1 b2 c1 c2 : Int) (w : World)
    (g0 : w.cell? ⟨b, 0, none⟩ = some (.int .i64 a1)) (g1 : w.cell? ⟨b, 1, none⟩ = some (.int .i64 a2)) (g2 : w.cell? ⟨b, 2, none⟩ = some (.int .i64 b1)) (g3 : w.cell? ⟨b, 3, none⟩ = some (.int .i64 b2))
    (g4 : w.cell? ⟨b, 4, none⟩ = some (.int .i64 c1)) (g5 : w.cell? ⟨b, 5, none⟩ = some (.int .i64 c2)) (v : Bool) (hv : Hid (vld3 a1 a2 b1 b2 c1 c2 = v)) :
    Calls Try.prog 46 #[.slice (some ⟨b, 0, none⟩) 3 3] w fun e w' => e = .returned (.bool v) ∧ Below w.heap.size w w' := by
  have h := allValid_any b 3 (fun i => if i = 0 then a1 else if i = 1 then b1 else c1) (fun i => if i = 0 then a2 else if i = 1 then b2 else c2) w (by omega) (World.block_lt_of_cell? w _ g0)
    (Lib.hid fun i hi => by
      rcases (show i = 0 ∨ i = 1 ∨ i = 2 by omega) with rfl | rfl | rfl
      · exact ⟨g0, g1⟩
      · exact ⟨g2, g3⟩
      · exact ⟨g4, g5⟩)
  rw [allV_succ, allV_succ, allV_succ, allV_zero] at h
  rw [← hv.out]
  unfold vld3
  simpa using h

theorem allValid2 (b : Nat) (a1 a2 b1 b2 : Int) (w : World)
    (g0 : w.cell? ⟨b, 0, none⟩ = some (.int .i64 a1)) (g1 : w.cell? ⟨b, 1, none⟩ = some (.int .i64 a2)) (g2 : w.cell? ⟨b, 2, none⟩ = some (.int .i64 b1)) (g3 : w.cell? ⟨b, 3, none⟩ = some (.int .i64 b2))
    (v : Bool) (hv : Hid ((vld a1 a2 && vld b1 b2) = v)) :
    Calls Try.prog 46 #[.slice (some ⟨b, 0, none⟩) 2 2] w fun e w' => e = .returned (.bool v) ∧ Below w.heap.size w w' := by
  have h := allValid_any b 2 (fun i => if i = 0 then a1 else b1) (fun i => if i = 0 then a2 else b2) w (by omega) (World.block_lt_of_cell? w _ g0)
    (Lib.hid fun i hi => by
      rcases (show i = 0 ∨ i = 1 by omega) with rfl | rfl
      · exact ⟨g0, g1⟩
      · exact ⟨g2, g3⟩)
  rw [allV_succ, allV_succ, allV_zero] at h
  rw [← hv.out]
  simpa using h

theorem allValid4 (b : Nat) (a1 a2 b1 b2 c1 c2 d1 d2 : Int) (w : World)
    (g0 : w.cell? ⟨b, 0, none⟩ = some (.int .i64 a1)) (g1 : w.cell? ⟨b, 1, none⟩ = some (.int .i64 a2)) (g2 : w.cell? ⟨b, 2, none⟩ = some (.int .i64 b1)) (g3 : w.cell? ⟨b, 3, none⟩ = some (.int .i64 b2))
    (g4 : w.cell? ⟨b, 4, none⟩ = some (.int .i64 c1)) (g5 : w.cell? ⟨b, 5, none⟩ = some (.int .i64 c2)) (g6 : w.cell? ⟨b, 6, none⟩ = some (.int .i64 d1)) (g7 : w.cell? ⟨b, 7, none⟩ = some (.int .i64 d2)) (v : Bool) (hv : Hid (vld4 a1 a2 b1 b2 c1 c2 d1 d2 = v)) :
    Calls Try.prog 46 #[.slice (some ⟨b, 0, none⟩) 4 4] w fun e w' => e = .returned (.bool v) ∧ Below w.heap.size w w' := by
  have h := allValid_any b 4 (fun i => if i = 0 then a1 else if i = 1 then b1 else if i = 2 then c1 else d1) (fun i => if i = 0 then a2 else if i = 1 then b2 else if i = 2 then c2 else d2) w (by omega) (World.block_lt_of_cell? w _ g0)
    (Lib.hid fun i hi => by
      rcases (show i = 0 ∨ i = 1 ∨ i = 2 ∨ i = 3 by omega) with rfl | rfl | rfl | rfl
      · exact ⟨g0, g1⟩
      · exact ⟨g2, g3⟩
      · exact ⟨g4, g5⟩
      · exact ⟨g6, g7⟩)
  rw [allV_succ, allV_succ, allV_succ, allV_succ, allV_zero] at h
  rw [← hv.out]
  unfold vld4
  simpa using h
end Go.Proofs.Ytllhdalfhhjigaa
