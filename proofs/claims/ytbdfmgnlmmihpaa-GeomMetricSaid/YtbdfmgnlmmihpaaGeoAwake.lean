/-
  The examples of the chapter of layer 2 come out as it says: awake returns true. No condition.
-/
import Derived.Test.YtbdfmgnlmmihpaaGeoMeet
namespace Go.Proofs.Ytbdfmgnlmmihpaa
open Go.RowKit

theorem orient_of (a1 a2 b1 b2 c1 c2 n : Int) (w : World) (hn : Hid (orient a1 a2 b1 b2 c1 c2 = n)) :
    Calls Try.prog 11 #[.agg #[.int .i64 a1, .int .i64 a2], .agg #[.int .i64 b1, .int .i64 b2], .agg #[.int .i64 c1, .int .i64 c2]] w fun e w' => e = .returned (.int .i64 n) ∧ Below w.heap.size w w' := by
  have := orient_any a1 a2 b1 b2 c1 c2 w
  rw [hn.out] at this
  exact this
theorem distance_of (a1 a2 b1 b2 n : Int) (w : World) (hn : Hid (dist a1 a2 b1 b2 = n)) :
    Calls Try.prog 13 #[.agg #[.int .i64 a1, .int .i64 a2], .agg #[.int .i64 b1, .int .i64 b2]] w fun e w' => e = .returned (.int .i64 n) ∧ Below w.heap.size w w' := by
  have := distance_any a1 a2 b1 b2 w
  rw [hn.out] at this
  exact this
theorem on_of (p1 p2 a1 a2 b1 b2 : Int) (v : Bool) (w : World) (hv : Hid (on p1 p2 a1 a2 b1 b2 = v)) :
    Calls Try.prog 16 #[.agg #[.int .i64 p1, .int .i64 p2], .agg #[.int .i64 a1, .int .i64 a2, .int .i64 b1, .int .i64 b2]] w fun e w' => e = .returned (.bool v) ∧ Below w.heap.size w w' := by
  have := on_any p1 p2 a1 a2 b1 b2 w
  rw [hv.out] at this
  exact this
theorem cross_of (a1 a2 b1 b2 c1 c2 d1 d2 : Int) (v : Bool) (w : World) (hv : Hid (cross a1 a2 b1 b2 c1 c2 d1 d2 = v)) :
    Calls Try.prog 20 #[.agg #[.int .i64 a1, .int .i64 a2, .int .i64 b1, .int .i64 b2], .agg #[.int .i64 c1, .int .i64 c2, .int .i64 d1, .int .i64 d2]] w fun e w' => e = .returned (.bool v) ∧ Below w.heap.size w w' := by
  have := cross_any a1 a2 b1 b2 c1 c2 d1 d2 w
  rw [hv.out] at this
  exact this
theorem meet_of (a1 a2 b1 b2 c1 c2 d1 d2 : Int) (v : Bool) (w : World) (hv : Hid (meet a1 a2 b1 b2 c1 c2 d1 d2 = v)) :
    Calls Try.prog 18 #[.agg #[.int .i64 a1, .int .i64 a2, .int .i64 b1, .int .i64 b2], .agg #[.int .i64 c1, .int .i64 c2, .int .i64 d1, .int .i64 d2]] w fun e w' => e = .returned (.bool v) ∧ Below w.heap.size w w' := by
  have := meet_any a1 a2 b1 b2 c1 c2 d1 d2 w
  rw [hv.out] at this
  exact this

theorem ex1 : orient 0 0 2 0 2 2 = 1 := by decide
theorem ex2 : cross 0 0 4 4 0 4 4 0 = true := by decide
theorem ex3 : meet 0 0 4 0 2 0 2 5 = true := by decide
theorem ex4 : cross 0 0 4 0 2 0 2 5 = false := by decide
theorem ex5 : on 2 2 0 0 4 4 = true := by decide
theorem ex6 : on 5 5 0 0 4 4 = false := by decide
theorem ex7 : dist 0 0 3 (-4) = 7 := by decide
theorem ex8 : vld 4 4 = true := by decide
theorem ex9 : vld 536870912 0 = false := by decide

set_option maxHeartbeats 2000000 in
theorem awake_any (w : World) :
    Calls Try.prog 15 #[] w fun e w' => e = .returned (.bool true) ∧ Below w.heap.size w w' := by
  go_enter Try.func15, Try.ntmps15
  go_wp2_with fail
  refine (orient_of _ _ _ _ _ _ _ _ (Lib.hid ex1)).mono ?_
  rintro e w1 ⟨rfl, hb1⟩
  obtain ⟨hc1, hf1⟩ := bcell hb1
  go_wp2_with fail
  refine (cross_of _ _ _ _ _ _ _ _ _ _ (Lib.hid ex2)).mono ?_
  rintro e w2 ⟨rfl, hb2⟩
  have hb2 := below_keep hb2 hb1
  obtain ⟨hc2, hf2⟩ := bcell hb2
  go_wp2_with fail
  refine (meet_of _ _ _ _ _ _ _ _ _ _ (Lib.hid ex3)).mono ?_
  rintro e w3 ⟨rfl, hb3⟩
  have hb3 := below_keep hb3 hb2
  obtain ⟨hc3, hf3⟩ := bcell hb3
  go_wp2_with fail
  refine (cross_of _ _ _ _ _ _ _ _ _ _ (Lib.hid ex4)).mono ?_
  rintro e w4 ⟨rfl, hb4⟩
  have hb4 := below_keep hb4 hb3
  obtain ⟨hc4, hf4⟩ := bcell hb4
  go_wp2_with fail
  refine (on_of _ _ _ _ _ _ _ _ (Lib.hid ex5)).mono ?_
  rintro e w5 ⟨rfl, hb5⟩
  have hb5 := below_keep hb5 hb4
  obtain ⟨hc5, hf5⟩ := bcell hb5
  go_wp2_with fail
  refine (on_of _ _ _ _ _ _ _ _ (Lib.hid ex6)).mono ?_
  rintro e w6 ⟨rfl, hb6⟩
  have hb6 := below_keep hb6 hb5
  obtain ⟨hc6, hf6⟩ := bcell hb6
  go_wp2_with fail
  refine (distance_of _ _ _ _ _ _ (Lib.hid ex7)).mono ?_
  rintro e w7 ⟨rfl, hb7⟩
  have hb7 := below_keep hb7 hb6
  obtain ⟨hc7, hf7⟩ := bcell hb7
  go_wp2_with fail
  refine (valid_of _ _ _ _ (Lib.hid ex8)).mono ?_
  rintro e w8 ⟨rfl, hb8⟩
  have hb8 := below_keep hb8 hb7
  go_wp2_with fail
  refine (valid_of _ _ _ _ (Lib.hid ex9)).mono ?_
  rintro e w9 ⟨rfl, hb9⟩
  have hb9 := below_keep hb9 hb8
  go_wp2
  go_ret
  exact ⟨rfl, ((((((Below.refl _ _).alloc (Nat.le_refl _) _).alloc (by simp) _).alloc (by simp; omega) _).alloc (by simp; omega) _).alloc (by simp; omega) _).alloc (by simp; omega) _ |>.trans (hb9.mono (by simp; omega))⟩
end Go.Proofs.Ytbdfmgnlmmihpaa
