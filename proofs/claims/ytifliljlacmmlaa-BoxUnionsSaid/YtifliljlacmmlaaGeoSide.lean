/-
  What the methods of a segment of layer 2 return: side, contains, crosses. Conditions: the points are valid.
-/
import Derived.Test.YtifliljlacmmlaaGeoNum
import Derived.Deep.RegionHeld3
import Derived.IntWalk
namespace Go.Proofs.Ytifliljlacmmlaa
open Go.RowKit

theorem area_sgn (a1 a2 b1 b2 c1 c2 : Int) : sgn ((b1 - a1) * (c2 - a2) - (b2 - a2) * (c1 - a1)) = side a1 a2 b1 b2 c1 c2 := rfl

theorem side_any (a1 a2 b1 b2 c1 c2 : Int) (w : World) (ha : vld a1 a2 = true) (hb : vld b1 b2 = true) (hc : vld c1 c2 = true) :
    Calls Try.prog 45 #[.agg #[.int .i64 a1, .int .i64 a2, .int .i64 b1, .int .i64 b2], .agg #[.int .i64 c1, .int .i64 c2]] w fun e w' => e = .returned (.int .i64 (side a1 a2 b1 b2 c1 c2)) ∧ Below w.heap.size w w' := by
  rw [vld_iff] at ha hb hc
  obtain ⟨x1, x2, x3, x4⟩ := ha
  obtain ⟨y1, y2, y3, y4⟩ := hb
  obtain ⟨z1, z2, z3, z4⟩ := hc
  obtain ⟨p1, p2⟩ := mul_small (b1 - a1) (c2 - a2) (by omega) (by omega) (by omega) (by omega)
  obtain ⟨q1, q2⟩ := mul_small (b2 - a2) (c1 - a1) (by omega) (by omega) (by omega) (by omega)
  go_enter Try.func45, Try.ntmps45
  go_wp2_with fail
  refine (compare_any _ _ _).mono ?_
  rintro e w' ⟨rfl, rfl⟩
  go_wp2
  go_ret
  exact ⟨ret_int (area_sgn ..), ((Below.refl _ _).alloc (Nat.le_refl _) _).alloc (by simp) _⟩

theorem side_of (a1 a2 b1 b2 c1 c2 n : Int) (w : World) (ha : vld a1 a2 = true) (hb : vld b1 b2 = true) (hc : vld c1 c2 = true) (hn : Hid (side a1 a2 b1 b2 c1 c2 = n)) :
    Calls Try.prog 45 #[.agg #[.int .i64 a1, .int .i64 a2, .int .i64 b1, .int .i64 b2], .agg #[.int .i64 c1, .int .i64 c2]] w fun e w' => e = .returned (.int .i64 n) ∧ Below w.heap.size w w' := by
  have := side_any a1 a2 b1 b2 c1 c2 w ha hb hc
  rw [hn.out] at this
  exact this

theorem bcell {W w1 : World} (hb : Below W.heap.size W w1) : (∀ b o, b < W.heap.size → w1.cell? ⟨b, o, none⟩ = W.cell? ⟨b, o, none⟩) ∧ (∀ b o, b < W.heap.size → w1.frozen? ⟨b, o, none⟩ = W.frozen? ⟨b, o, none⟩) :=
  ⟨fun b o h => hb.cell (p := ⟨b, o, none⟩) h, fun b o h => hb.frozen (p := ⟨b, o, none⟩) h⟩


theorem below_keep {W w1 w2 : World} (h2 : Below w1.heap.size w1 w2) (h1 : Below W.heap.size W w1) : Below W.heap.size W w2 := h1.trans (h2.mono h1.size)
theorem cell_keep {w1 w2 : World} {b o : Nat} {v : Value} (h2 : Below w1.heap.size w1 w2) (h1 : w1.cell? ⟨b, o, none⟩ = some v) : w2.cell? ⟨b, o, none⟩ = some v := by
  rw [h2.cell (p := ⟨b, o, none⟩) (World.block_lt_of_cell? w1 _ h1)]; exact h1

/-- The value of the method value 'side' of a segment. -/
abbrev sideV (a1 a2 b1 b2 : Int) : Value := .func (.func 45) #[.agg #[.int .i64 a1, .int .i64 a2, .int .i64 b1, .int .i64 b2]] #[]

theorem sep_sign (m n : Int) (hm0 : -1 ≤ m) (hm1 : m ≤ 1) (hn0 : -1 ≤ n) (hn1 : n ≤ 1) : -1 ≤ m * n ∧ m * n ≤ 1 := by
  rcases (show m = -1 ∨ m = 0 ∨ m = 1 by omega) with rfl | rfl | rfl <;> rcases (show n = -1 ∨ n = 0 ∨ n = 1 by omega) with rfl | rfl | rfl <;> decide



end Go.Proofs.Ytifliljlacmmlaa