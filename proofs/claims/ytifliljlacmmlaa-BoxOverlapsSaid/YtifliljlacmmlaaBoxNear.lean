/-
  What near and within of layer 3's statements return; the search over points with half coordinates. Conditions: of within, small numbers.
-/
import Derived.Test.YtifliljlacmmlaaBoxFrame
import Derived.Test.YtifliljlacmmlaaBoxAwake
import Derived.LoopTactic
namespace Go.Proofs.Ytifliljlacmmlaa
open Go.RowKit

theorem near_of (x y z u : Int) (v : Bool) (w : World) (hv : Hid (nearB x y z u = v)) :
    Calls Try.prog 22 #[.agg #[.int .i64 x, .int .i64 y, .int .i64 z, .int .i64 u]] w fun e w' => e = .returned (.bool v) ∧ Below w.heap.size w w' := by
  obtain ⟨p, hp⟩ : ∃ v, bvld x y z u = v := ⟨_, rfl⟩
  have HP := Lib.hid hp
  have HO : Hid ((decide (-12 ≤ x) && decide (z ≤ 12) && decide (-12 ≤ y) && decide (u ≤ 12) && p) = v) := Lib.hid (by rw [← hv.out, ← hp]; rfl)
  clear hp hv
  go_enter Try.func22, Try.ntmps22
  go_wp2_with (go_at_call 10; refine (rvalid_of _ _ _ _ _ _ HP).mono ?_; rintro e w1 ⟨rfl, hb1⟩)
  all_goals go_ret
  all_goals first
    | exact ⟨ret_bool (by rw [← HO.out, Bool.eq_iff_iff]; simp; omega), al1 ..⟩
    | exact ⟨ret_bool (by rw [← HO.out]; simp_all), below_keep hb1 (al1 ..)⟩

theorem half_of (x y z u p q : Int) (v : Bool) (w : World) (h1 : -12 ≤ x) (h2 : x ≤ 12) (h3 : -12 ≤ y) (h4 : y ≤ 12) (h5 : -12 ≤ z) (h6 : z ≤ 12) (h7 : -12 ≤ u) (h8 : u ≤ 12) (hv : Hid (half x y z u p q = v)) :
    Calls Try.prog 23 #[.agg #[.int .i64 x, .int .i64 y, .int .i64 z, .int .i64 u], .int .i64 p, .int .i64 q] w fun e w' => e = .returned (.bool v) ∧ Below w.heap.size w w' := by
  go_enter Try.func23, Try.ntmps23
  go_wp2
  all_goals go_ret
  all_goals exact ⟨ret_bool (by rw [← hv.out, Bool.eq_iff_iff]; unfold half; simp; omega), al1 ..⟩

/-- Whether a point before (X, Y), row by row, was found. -/
def Seen (f : Int → Int → Bool) (X Y : Int) (s : Bool) : Prop := s = true ↔ ∃ p q : Int, -24 ≤ p ∧ -24 ≤ q ∧ q ≤ 24 ∧ (p < X ∨ (p = X ∧ q < Y)) ∧ f p q = true
theorem seen_start (f : Int → Int → Bool) : Seen f (-24) (-24) false := by
  unfold Seen; simp; intro p hp q hq _ h; omega
theorem seen_next (f : Int → Int → Bool) (X Y : Int) (s : Bool) (hX : -24 ≤ X) (hY : -24 ≤ Y) (hY' : Y ≤ 24) (h : Seen f X Y s) : Seen f X (Y + 1) (s || f X Y) := by
  unfold Seen at *
  rw [Bool.or_eq_true, h]
  constructor
  · rintro (⟨p, q, h1, h2, h3, h4, h5⟩ | h5)
    · exact ⟨p, q, h1, h2, h3, by omega, h5⟩
    · exact ⟨X, Y, hX, hY, hY', by omega, h5⟩
  · rintro ⟨p, q, h1, h2, h3, h4, h5⟩
    by_cases hc : p = X ∧ q = Y
    · obtain ⟨rfl, rfl⟩ := hc; exact Or.inr h5
    · exact Or.inl ⟨p, q, h1, h2, h3, by omega, h5⟩
theorem seen_row (f : Int → Int → Bool) (X : Int) (s : Bool) (h : Seen f X 25 s) : Seen f (X + 1) (-24) s := by
  unfold Seen at *
  rw [h]
  constructor
  · rintro ⟨p, q, h1, h2, h3, h4, h5⟩; exact ⟨p, q, h1, h2, h3, by omega, h5⟩
  · rintro ⟨p, q, h1, h2, h3, h4, h5⟩; exact ⟨p, q, h1, h2, h3, by omega, h5⟩
theorem seen_end (a b c d x y z u : Int) (s : Bool) (h1 : nearB a b c d = true) (h2 : nearB x y z u = true) (h : Seen (fun p q => half a b c d p q && half x y z u p q) 25 (-24) s) : ovl a b c d x y z u = s := by
  unfold Seen at h
  rw [Bool.eq_iff_iff, h]
  constructor
  · intro ho
    obtain ⟨p, q, g1, g2, g3, g4, g5, g6⟩ := half_ovl a b c d x y z u h1 h2 ho
    exact ⟨p, q, g1, g3, g4, by omega, by simp [g5, g6]⟩
  · rintro ⟨p, q, g1, g2, g3, g4, g5⟩
    rw [Bool.and_eq_true] at g5
    exact ovl_half a b c d x y z u p q h1 h2 g5.1 g5.2
end Go.Proofs.Ytifliljlacmmlaa
