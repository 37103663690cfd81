/-
  What Hits of layer 3 returns: whether the segment has a point in the interior of the box. No condition.
-/
import Derived.Test.YtifliljlacmmlaaBoxHit
import Derived.Test.YtifliljlacmmlaaBoxEq
namespace Go.Proofs.Ytifliljlacmmlaa
open Go.RowKit

theorem bvld_parts {x y z u : Int} (h : bvld x y z u = true) : vld x y = true ∧ vld z u = true := by
  unfold bvld at h; simp only [Bool.and_eq_true] at h; exact ⟨h.1.1.1, h.1.1.2⟩

set_option maxHeartbeats 2000000 in
theorem hits_of (x y z u a1 a2 b1 b2 : Int) (v : Bool) (w : World) (hv : Hid (hits x y z u a1 a2 b1 b2 = v)) :
    Calls Try.prog 29 #[.agg #[.int .i64 x, .int .i64 y, .int .i64 z, .int .i64 u], .agg #[.int .i64 a1, .int .i64 a2, .int .i64 b1, .int .i64 b2]] w fun e w' => e = .returned (.bool v) ∧ Below w.heap.size w w' := by
  have hG := guard_pt
  obtain ⟨p, hp⟩ : ∃ v, bvld x y z u = v := ⟨_, rfl⟩
  obtain ⟨q, hq⟩ : ∃ v, inr x y z u = v := ⟨_, rfl⟩
  obtain ⟨r, hr⟩ : ∃ v, vld a1 a2 = v := ⟨_, rfl⟩
  obtain ⟨s, hs⟩ : ∃ v, vld b1 b2 = v := ⟨_, rfl⟩
  have hO := hv.out
  unfold hits hitB at hO
  rw [hp, hq, hr, hs] at hO
  have HO := Lib.hid hO
  have HP := Lib.hid hp
  have HQ := Lib.hid hq
  have HR := Lib.hid hr
  have HS := Lib.hid hs
  clear hv hO hp hq hr hs
  cases p
  · obtain rfl : false = v := by simpa using HO.out
    go_enter Try.func29, Try.ntmps29
    go_wp2_with fail
    refine (bvalid_of _ _ _ _ _ _ HP).mono ?_
    rintro e w1 ⟨rfl, hb1⟩
    have hq1 := below_keep hb1 (al2 ..)
    have f0_1 : at4 w1 (w.heap.size) x y z u := by simpa using at4_keep hb1 (at4_keep (al1 ..) (at4_new w x y z u 23))
    have f1_1 : at4 w1 (w.heap.size + 1) a1 a2 b1 b2 := by simpa using at4_keep hb1 (at4_new (w.alloc (.cells #[.int .i64 x, .int .i64 y, .int .i64 z, .int .i64 u] 23)) a1 a2 b1 b2 42)
    have g := f0_1; obtain ⟨c0_1_0, c0_1_1, c0_1_2, c0_1_3⟩ := g
    have g := f1_1; obtain ⟨c1_1_0, c1_1_1, c1_1_2, c1_1_3⟩ := g
    go_wp2
    go_ret
    exact ⟨rfl, hq1⟩
  cases q
  · obtain rfl : false = v := by simpa using HO.out
    go_enter Try.func29, Try.ntmps29
    go_wp2_with fail
    refine (bvalid_of _ _ _ _ _ _ HP).mono ?_
    rintro e w1 ⟨rfl, hb1⟩
    have hq1 := below_keep hb1 (al2 ..)
    have f0_1 : at4 w1 (w.heap.size) x y z u := by simpa using at4_keep hb1 (at4_keep (al1 ..) (at4_new w x y z u 23))
    have f1_1 : at4 w1 (w.heap.size + 1) a1 a2 b1 b2 := by simpa using at4_keep hb1 (at4_new (w.alloc (.cells #[.int .i64 x, .int .i64 y, .int .i64 z, .int .i64 u] 23)) a1 a2 b1 b2 42)
    have g := f0_1; obtain ⟨c0_1_0, c0_1_1, c0_1_2, c0_1_3⟩ := g
    have g := f1_1; obtain ⟨c1_1_0, c1_1_1, c1_1_2, c1_1_3⟩ := g
    go_wp2_with fail
    refine (inr_of _ _ _ _ _ _ HQ).mono ?_
    rintro e w2 ⟨rfl, hb2⟩
    have hq2 := below_keep hb2 (hq1)
    have f0_2 : at4 w2 (w.heap.size) x y z u := at4_keep hb2 (f0_1)
    have f1_2 : at4 w2 (w.heap.size + 1) a1 a2 b1 b2 := at4_keep hb2 (f1_1)
    clear f0_1 c0_1_0 c0_1_1 c0_1_2 c0_1_3
    clear f1_1 c1_1_0 c1_1_1 c1_1_2 c1_1_3
    have g := f0_2; obtain ⟨c0_2_0, c0_2_1, c0_2_2, c0_2_3⟩ := g
    have g := f1_2; obtain ⟨c1_2_0, c1_2_1, c1_2_2, c1_2_3⟩ := g
    go_wp2
    go_ret
    exact ⟨rfl, hq2⟩
  cases r
  · obtain rfl : false = v := by simpa using HO.out
    go_enter Try.func29, Try.ntmps29
    go_wp2_with fail
    refine (bvalid_of _ _ _ _ _ _ HP).mono ?_
    rintro e w1 ⟨rfl, hb1⟩
    have hq1 := below_keep hb1 (al2 ..)
    have f0_1 : at4 w1 (w.heap.size) x y z u := by simpa using at4_keep hb1 (at4_keep (al1 ..) (at4_new w x y z u 23))
    have f1_1 : at4 w1 (w.heap.size + 1) a1 a2 b1 b2 := by simpa using at4_keep hb1 (at4_new (w.alloc (.cells #[.int .i64 x, .int .i64 y, .int .i64 z, .int .i64 u] 23)) a1 a2 b1 b2 42)
    have g := f0_1; obtain ⟨c0_1_0, c0_1_1, c0_1_2, c0_1_3⟩ := g
    have g := f1_1; obtain ⟨c1_1_0, c1_1_1, c1_1_2, c1_1_3⟩ := g
    go_wp2_with fail
    refine (inr_of _ _ _ _ _ _ HQ).mono ?_
    rintro e w2 ⟨rfl, hb2⟩
    have hq2 := below_keep hb2 (hq1)
    have f0_2 : at4 w2 (w.heap.size) x y z u := at4_keep hb2 (f0_1)
    have f1_2 : at4 w2 (w.heap.size + 1) a1 a2 b1 b2 := at4_keep hb2 (f1_1)
    clear f0_1 c0_1_0 c0_1_1 c0_1_2 c0_1_3
    clear f1_1 c1_1_0 c1_1_1 c1_1_2 c1_1_3
    have g := f0_2; obtain ⟨c0_2_0, c0_2_1, c0_2_2, c0_2_3⟩ := g
    have g := f1_2; obtain ⟨c1_2_0, c1_2_1, c1_2_2, c1_2_3⟩ := g
    go_wp2_with fail
    refine (valid_of _ _ _ _ HR).mono ?_
    rintro e w3 ⟨rfl, hb3⟩
    have hq3 := below_keep hb3 (hq2)
    have f0_3 : at4 w3 (w.heap.size) x y z u := at4_keep hb3 (f0_2)
    have f1_3 : at4 w3 (w.heap.size + 1) a1 a2 b1 b2 := at4_keep hb3 (f1_2)
    clear f0_2 c0_2_0 c0_2_1 c0_2_2 c0_2_3
    clear f1_2 c1_2_0 c1_2_1 c1_2_2 c1_2_3
    have g := f0_3; obtain ⟨c0_3_0, c0_3_1, c0_3_2, c0_3_3⟩ := g
    have g := f1_3; obtain ⟨c1_3_0, c1_3_1, c1_3_2, c1_3_3⟩ := g
    go_wp2
    go_ret
    exact ⟨rfl, hq3⟩
  cases s
  · obtain rfl : false = v := by simpa using HO.out
    go_enter Try.func29, Try.ntmps29
    go_wp2_with fail
    refine (bvalid_of _ _ _ _ _ _ HP).mono ?_
    rintro e w1 ⟨rfl, hb1⟩
    have hq1 := below_keep hb1 (al2 ..)
    have f0_1 : at4 w1 (w.heap.size) x y z u := by simpa using at4_keep hb1 (at4_keep (al1 ..) (at4_new w x y z u 23))
    have f1_1 : at4 w1 (w.heap.size + 1) a1 a2 b1 b2 := by simpa using at4_keep hb1 (at4_new (w.alloc (.cells #[.int .i64 x, .int .i64 y, .int .i64 z, .int .i64 u] 23)) a1 a2 b1 b2 42)
    have g := f0_1; obtain ⟨c0_1_0, c0_1_1, c0_1_2, c0_1_3⟩ := g
    have g := f1_1; obtain ⟨c1_1_0, c1_1_1, c1_1_2, c1_1_3⟩ := g
    go_wp2_with fail
    refine (inr_of _ _ _ _ _ _ HQ).mono ?_
    rintro e w2 ⟨rfl, hb2⟩
    have hq2 := below_keep hb2 (hq1)
    have f0_2 : at4 w2 (w.heap.size) x y z u := at4_keep hb2 (f0_1)
    have f1_2 : at4 w2 (w.heap.size + 1) a1 a2 b1 b2 := at4_keep hb2 (f1_1)
    clear f0_1 c0_1_0 c0_1_1 c0_1_2 c0_1_3
    clear f1_1 c1_1_0 c1_1_1 c1_1_2 c1_1_3
    have g := f0_2; obtain ⟨c0_2_0, c0_2_1, c0_2_2, c0_2_3⟩ := g
    have g := f1_2; obtain ⟨c1_2_0, c1_2_1, c1_2_2, c1_2_3⟩ := g
    go_wp2_with fail
    refine (valid_of _ _ _ _ HR).mono ?_
    rintro e w3 ⟨rfl, hb3⟩
    have hq3 := below_keep hb3 (hq2)
    have f0_3 : at4 w3 (w.heap.size) x y z u := at4_keep hb3 (f0_2)
    have f1_3 : at4 w3 (w.heap.size + 1) a1 a2 b1 b2 := at4_keep hb3 (f1_2)
    clear f0_2 c0_2_0 c0_2_1 c0_2_2 c0_2_3
    clear f1_2 c1_2_0 c1_2_1 c1_2_2 c1_2_3
    have g := f0_3; obtain ⟨c0_3_0, c0_3_1, c0_3_2, c0_3_3⟩ := g
    have g := f1_3; obtain ⟨c1_3_0, c1_3_1, c1_3_2, c1_3_3⟩ := g
    go_wp2_with fail
    refine (valid_of _ _ _ _ HS).mono ?_
    rintro e w4 ⟨rfl, hb4⟩
    have hq4 := below_keep hb4 (hq3)
    have f0_4 : at4 w4 (w.heap.size) x y z u := at4_keep hb4 (f0_3)
    have f1_4 : at4 w4 (w.heap.size + 1) a1 a2 b1 b2 := at4_keep hb4 (f1_3)
    clear f0_3 c0_3_0 c0_3_1 c0_3_2 c0_3_3
    clear f1_3 c1_3_0 c1_3_1 c1_3_2 c1_3_3
    have g := f0_4; obtain ⟨c0_4_0, c0_4_1, c0_4_2, c0_4_3⟩ := g
    have g := f1_4; obtain ⟨c1_4_0, c1_4_1, c1_4_2, c1_4_3⟩ := g
    go_wp2
    go_ret
    exact ⟨rfl, hq4⟩
  have hO := HO.out
  simp only [Bool.true_and] at hO
  obtain ⟨m1, hm1⟩ : ∃ m, min a1 b1 = m := ⟨_, rfl⟩
  obtain ⟨m2, hm2⟩ : ∃ m, max a1 b1 = m := ⟨_, rfl⟩
  obtain ⟨m3, hm3⟩ : ∃ m, min a2 b2 = m := ⟨_, rfl⟩
  obtain ⟨m4, hm4⟩ : ∃ m, max a2 b2 = m := ⟨_, rfl⟩
  unfold rch at hO
  rw [hm1, hm2, hm3, hm4] at hO
  by_cases g1 : m1 < z
  case neg =>
    obtain rfl : false = v := by simpa [g1] using hO
    clear hO HO
    go_enter Try.func29, Try.ntmps29
    go_wp2_with fail
    refine (bvalid_of _ _ _ _ _ _ HP).mono ?_
    rintro e w1 ⟨rfl, hb1⟩
    have hq1 := below_keep hb1 (al2 ..)
    have f0_1 : at4 w1 (w.heap.size) x y z u := by simpa using at4_keep hb1 (at4_keep (al1 ..) (at4_new w x y z u 23))
    have f1_1 : at4 w1 (w.heap.size + 1) a1 a2 b1 b2 := by simpa using at4_keep hb1 (at4_new (w.alloc (.cells #[.int .i64 x, .int .i64 y, .int .i64 z, .int .i64 u] 23)) a1 a2 b1 b2 42)
    have g := f0_1; obtain ⟨c0_1_0, c0_1_1, c0_1_2, c0_1_3⟩ := g
    have g := f1_1; obtain ⟨c1_1_0, c1_1_1, c1_1_2, c1_1_3⟩ := g
    go_wp2_with fail
    refine (inr_of _ _ _ _ _ _ HQ).mono ?_
    rintro e w2 ⟨rfl, hb2⟩
    have hq2 := below_keep hb2 (hq1)
    have f0_2 : at4 w2 (w.heap.size) x y z u := at4_keep hb2 (f0_1)
    have f1_2 : at4 w2 (w.heap.size + 1) a1 a2 b1 b2 := at4_keep hb2 (f1_1)
    clear f0_1 c0_1_0 c0_1_1 c0_1_2 c0_1_3
    clear f1_1 c1_1_0 c1_1_1 c1_1_2 c1_1_3
    have g := f0_2; obtain ⟨c0_2_0, c0_2_1, c0_2_2, c0_2_3⟩ := g
    have g := f1_2; obtain ⟨c1_2_0, c1_2_1, c1_2_2, c1_2_3⟩ := g
    go_wp2_with fail
    refine (valid_of _ _ _ _ HR).mono ?_
    rintro e w3 ⟨rfl, hb3⟩
    have hq3 := below_keep hb3 (hq2)
    have f0_3 : at4 w3 (w.heap.size) x y z u := at4_keep hb3 (f0_2)
    have f1_3 : at4 w3 (w.heap.size + 1) a1 a2 b1 b2 := at4_keep hb3 (f1_2)
    clear f0_2 c0_2_0 c0_2_1 c0_2_2 c0_2_3
    clear f1_2 c1_2_0 c1_2_1 c1_2_2 c1_2_3
    have g := f0_3; obtain ⟨c0_3_0, c0_3_1, c0_3_2, c0_3_3⟩ := g
    have g := f1_3; obtain ⟨c1_3_0, c1_3_1, c1_3_2, c1_3_3⟩ := g
    go_wp2_with fail
    refine (valid_of _ _ _ _ HS).mono ?_
    rintro e w4 ⟨rfl, hb4⟩
    have hq4 := below_keep hb4 (hq3)
    have f0_4 : at4 w4 (w.heap.size) x y z u := at4_keep hb4 (f0_3)
    have f1_4 : at4 w4 (w.heap.size + 1) a1 a2 b1 b2 := at4_keep hb4 (f1_3)
    clear f0_3 c0_3_0 c0_3_1 c0_3_2 c0_3_3
    clear f1_3 c1_3_0 c1_3_1 c1_3_2 c1_3_3
    have g := f0_4; obtain ⟨c0_4_0, c0_4_1, c0_4_2, c0_4_3⟩ := g
    have g := f1_4; obtain ⟨c1_4_0, c1_4_1, c1_4_2, c1_4_3⟩ := g
    go_wp2
    go_ret
    exact ⟨rfl, hq4⟩
  by_cases g2 : x < m2
  case neg =>
    obtain rfl : false = v := by simpa [g2] using hO
    clear hO HO
    go_enter Try.func29, Try.ntmps29
    go_wp2_with fail
    refine (bvalid_of _ _ _ _ _ _ HP).mono ?_
    rintro e w1 ⟨rfl, hb1⟩
    have hq1 := below_keep hb1 (al2 ..)
    have f0_1 : at4 w1 (w.heap.size) x y z u := by simpa using at4_keep hb1 (at4_keep (al1 ..) (at4_new w x y z u 23))
    have f1_1 : at4 w1 (w.heap.size + 1) a1 a2 b1 b2 := by simpa using at4_keep hb1 (at4_new (w.alloc (.cells #[.int .i64 x, .int .i64 y, .int .i64 z, .int .i64 u] 23)) a1 a2 b1 b2 42)
    have g := f0_1; obtain ⟨c0_1_0, c0_1_1, c0_1_2, c0_1_3⟩ := g
    have g := f1_1; obtain ⟨c1_1_0, c1_1_1, c1_1_2, c1_1_3⟩ := g
    go_wp2_with fail
    refine (inr_of _ _ _ _ _ _ HQ).mono ?_
    rintro e w2 ⟨rfl, hb2⟩
    have hq2 := below_keep hb2 (hq1)
    have f0_2 : at4 w2 (w.heap.size) x y z u := at4_keep hb2 (f0_1)
    have f1_2 : at4 w2 (w.heap.size + 1) a1 a2 b1 b2 := at4_keep hb2 (f1_1)
    clear f0_1 c0_1_0 c0_1_1 c0_1_2 c0_1_3
    clear f1_1 c1_1_0 c1_1_1 c1_1_2 c1_1_3
    have g := f0_2; obtain ⟨c0_2_0, c0_2_1, c0_2_2, c0_2_3⟩ := g
    have g := f1_2; obtain ⟨c1_2_0, c1_2_1, c1_2_2, c1_2_3⟩ := g
    go_wp2_with fail
    refine (valid_of _ _ _ _ HR).mono ?_
    rintro e w3 ⟨rfl, hb3⟩
    have hq3 := below_keep hb3 (hq2)
    have f0_3 : at4 w3 (w.heap.size) x y z u := at4_keep hb3 (f0_2)
    have f1_3 : at4 w3 (w.heap.size + 1) a1 a2 b1 b2 := at4_keep hb3 (f1_2)
    clear f0_2 c0_2_0 c0_2_1 c0_2_2 c0_2_3
    clear f1_2 c1_2_0 c1_2_1 c1_2_2 c1_2_3
    have g := f0_3; obtain ⟨c0_3_0, c0_3_1, c0_3_2, c0_3_3⟩ := g
    have g := f1_3; obtain ⟨c1_3_0, c1_3_1, c1_3_2, c1_3_3⟩ := g
    go_wp2_with fail
    refine (valid_of _ _ _ _ HS).mono ?_
    rintro e w4 ⟨rfl, hb4⟩
    have hq4 := below_keep hb4 (hq3)
    have f0_4 : at4 w4 (w.heap.size) x y z u := at4_keep hb4 (f0_3)
    have f1_4 : at4 w4 (w.heap.size + 1) a1 a2 b1 b2 := at4_keep hb4 (f1_3)
    clear f0_3 c0_3_0 c0_3_1 c0_3_2 c0_3_3
    clear f1_3 c1_3_0 c1_3_1 c1_3_2 c1_3_3
    have g := f0_4; obtain ⟨c0_4_0, c0_4_1, c0_4_2, c0_4_3⟩ := g
    have g := f1_4; obtain ⟨c1_4_0, c1_4_1, c1_4_2, c1_4_3⟩ := g
    go_wp2
    go_ret
    exact ⟨rfl, hq4⟩
  by_cases g3 : m3 < u
  case neg =>
    obtain rfl : false = v := by simpa [g3] using hO
    clear hO HO
    go_enter Try.func29, Try.ntmps29
    go_wp2_with fail
    refine (bvalid_of _ _ _ _ _ _ HP).mono ?_
    rintro e w1 ⟨rfl, hb1⟩
    have hq1 := below_keep hb1 (al2 ..)
    have f0_1 : at4 w1 (w.heap.size) x y z u := by simpa using at4_keep hb1 (at4_keep (al1 ..) (at4_new w x y z u 23))
    have f1_1 : at4 w1 (w.heap.size + 1) a1 a2 b1 b2 := by simpa using at4_keep hb1 (at4_new (w.alloc (.cells #[.int .i64 x, .int .i64 y, .int .i64 z, .int .i64 u] 23)) a1 a2 b1 b2 42)
    have g := f0_1; obtain ⟨c0_1_0, c0_1_1, c0_1_2, c0_1_3⟩ := g
    have g := f1_1; obtain ⟨c1_1_0, c1_1_1, c1_1_2, c1_1_3⟩ := g
    go_wp2_with fail
    refine (inr_of _ _ _ _ _ _ HQ).mono ?_
    rintro e w2 ⟨rfl, hb2⟩
    have hq2 := below_keep hb2 (hq1)
    have f0_2 : at4 w2 (w.heap.size) x y z u := at4_keep hb2 (f0_1)
    have f1_2 : at4 w2 (w.heap.size + 1) a1 a2 b1 b2 := at4_keep hb2 (f1_1)
    clear f0_1 c0_1_0 c0_1_1 c0_1_2 c0_1_3
    clear f1_1 c1_1_0 c1_1_1 c1_1_2 c1_1_3
    have g := f0_2; obtain ⟨c0_2_0, c0_2_1, c0_2_2, c0_2_3⟩ := g
    have g := f1_2; obtain ⟨c1_2_0, c1_2_1, c1_2_2, c1_2_3⟩ := g
    go_wp2_with fail
    refine (valid_of _ _ _ _ HR).mono ?_
    rintro e w3 ⟨rfl, hb3⟩
    have hq3 := below_keep hb3 (hq2)
    have f0_3 : at4 w3 (w.heap.size) x y z u := at4_keep hb3 (f0_2)
    have f1_3 : at4 w3 (w.heap.size + 1) a1 a2 b1 b2 := at4_keep hb3 (f1_2)
    clear f0_2 c0_2_0 c0_2_1 c0_2_2 c0_2_3
    clear f1_2 c1_2_0 c1_2_1 c1_2_2 c1_2_3
    have g := f0_3; obtain ⟨c0_3_0, c0_3_1, c0_3_2, c0_3_3⟩ := g
    have g := f1_3; obtain ⟨c1_3_0, c1_3_1, c1_3_2, c1_3_3⟩ := g
    go_wp2_with fail
    refine (valid_of _ _ _ _ HS).mono ?_
    rintro e w4 ⟨rfl, hb4⟩
    have hq4 := below_keep hb4 (hq3)
    have f0_4 : at4 w4 (w.heap.size) x y z u := at4_keep hb4 (f0_3)
    have f1_4 : at4 w4 (w.heap.size + 1) a1 a2 b1 b2 := at4_keep hb4 (f1_3)
    clear f0_3 c0_3_0 c0_3_1 c0_3_2 c0_3_3
    clear f1_3 c1_3_0 c1_3_1 c1_3_2 c1_3_3
    have g := f0_4; obtain ⟨c0_4_0, c0_4_1, c0_4_2, c0_4_3⟩ := g
    have g := f1_4; obtain ⟨c1_4_0, c1_4_1, c1_4_2, c1_4_3⟩ := g
    go_wp2
    go_ret
    exact ⟨rfl, hq4⟩
  by_cases g4 : y < m4
  case neg =>
    obtain rfl : false = v := by simpa [g4] using hO
    clear hO HO
    go_enter Try.func29, Try.ntmps29
    go_wp2_with fail
    refine (bvalid_of _ _ _ _ _ _ HP).mono ?_
    rintro e w1 ⟨rfl, hb1⟩
    have hq1 := below_keep hb1 (al2 ..)
    have f0_1 : at4 w1 (w.heap.size) x y z u := by simpa using at4_keep hb1 (at4_keep (al1 ..) (at4_new w x y z u 23))
    have f1_1 : at4 w1 (w.heap.size + 1) a1 a2 b1 b2 := by simpa using at4_keep hb1 (at4_new (w.alloc (.cells #[.int .i64 x, .int .i64 y, .int .i64 z, .int .i64 u] 23)) a1 a2 b1 b2 42)
    have g := f0_1; obtain ⟨c0_1_0, c0_1_1, c0_1_2, c0_1_3⟩ := g
    have g := f1_1; obtain ⟨c1_1_0, c1_1_1, c1_1_2, c1_1_3⟩ := g
    go_wp2_with fail
    refine (inr_of _ _ _ _ _ _ HQ).mono ?_
    rintro e w2 ⟨rfl, hb2⟩
    have hq2 := below_keep hb2 (hq1)
    have f0_2 : at4 w2 (w.heap.size) x y z u := at4_keep hb2 (f0_1)
    have f1_2 : at4 w2 (w.heap.size + 1) a1 a2 b1 b2 := at4_keep hb2 (f1_1)
    clear f0_1 c0_1_0 c0_1_1 c0_1_2 c0_1_3
    clear f1_1 c1_1_0 c1_1_1 c1_1_2 c1_1_3
    have g := f0_2; obtain ⟨c0_2_0, c0_2_1, c0_2_2, c0_2_3⟩ := g
    have g := f1_2; obtain ⟨c1_2_0, c1_2_1, c1_2_2, c1_2_3⟩ := g
    go_wp2_with fail
    refine (valid_of _ _ _ _ HR).mono ?_
    rintro e w3 ⟨rfl, hb3⟩
    have hq3 := below_keep hb3 (hq2)
    have f0_3 : at4 w3 (w.heap.size) x y z u := at4_keep hb3 (f0_2)
    have f1_3 : at4 w3 (w.heap.size + 1) a1 a2 b1 b2 := at4_keep hb3 (f1_2)
    clear f0_2 c0_2_0 c0_2_1 c0_2_2 c0_2_3
    clear f1_2 c1_2_0 c1_2_1 c1_2_2 c1_2_3
    have g := f0_3; obtain ⟨c0_3_0, c0_3_1, c0_3_2, c0_3_3⟩ := g
    have g := f1_3; obtain ⟨c1_3_0, c1_3_1, c1_3_2, c1_3_3⟩ := g
    go_wp2_with fail
    refine (valid_of _ _ _ _ HS).mono ?_
    rintro e w4 ⟨rfl, hb4⟩
    have hq4 := below_keep hb4 (hq3)
    have f0_4 : at4 w4 (w.heap.size) x y z u := at4_keep hb4 (f0_3)
    have f1_4 : at4 w4 (w.heap.size + 1) a1 a2 b1 b2 := at4_keep hb4 (f1_3)
    clear f0_3 c0_3_0 c0_3_1 c0_3_2 c0_3_3
    clear f1_3 c1_3_0 c1_3_1 c1_3_2 c1_3_3
    have g := f0_4; obtain ⟨c0_4_0, c0_4_1, c0_4_2, c0_4_3⟩ := g
    have g := f1_4; obtain ⟨c1_4_0, c1_4_1, c1_4_2, c1_4_3⟩ := g
    go_wp2
    go_ret
    exact ⟨rfl, hq4⟩
  obtain ⟨e, he⟩ : ∃ v, eq2 a1 a2 b1 b2 = v := ⟨_, rfl⟩
  have hOO : (e || dvds a1 a2 b1 b2 x y z u) = v := by rw [← he, eq2_dec]; simpa [g1, g2, g3, g4] using hO
  have HE := Lib.hid he
  clear he hO HO
  cases e
  · have HD : Hid (dvds a1 a2 b1 b2 x y z u = v) := Lib.hid (by simpa using hOO)
    clear hOO
    have heq := eql_pt HE
    go_enter Try.func29, Try.ntmps29
    go_wp2_with fail
    refine (bvalid_of _ _ _ _ _ _ HP).mono ?_
    rintro e w1 ⟨rfl, hb1⟩
    have hq1 := below_keep hb1 (al2 ..)
    have f0_1 : at4 w1 (w.heap.size) x y z u := by simpa using at4_keep hb1 (at4_keep (al1 ..) (at4_new w x y z u 23))
    have f1_1 : at4 w1 (w.heap.size + 1) a1 a2 b1 b2 := by simpa using at4_keep hb1 (at4_new (w.alloc (.cells #[.int .i64 x, .int .i64 y, .int .i64 z, .int .i64 u] 23)) a1 a2 b1 b2 42)
    have g := f0_1; obtain ⟨c0_1_0, c0_1_1, c0_1_2, c0_1_3⟩ := g
    have g := f1_1; obtain ⟨c1_1_0, c1_1_1, c1_1_2, c1_1_3⟩ := g
    go_wp2_with fail
    refine (inr_of _ _ _ _ _ _ HQ).mono ?_
    rintro e w2 ⟨rfl, hb2⟩
    have hq2 := below_keep hb2 (hq1)
    have f0_2 : at4 w2 (w.heap.size) x y z u := at4_keep hb2 (f0_1)
    have f1_2 : at4 w2 (w.heap.size + 1) a1 a2 b1 b2 := at4_keep hb2 (f1_1)
    clear f0_1 c0_1_0 c0_1_1 c0_1_2 c0_1_3
    clear f1_1 c1_1_0 c1_1_1 c1_1_2 c1_1_3
    have g := f0_2; obtain ⟨c0_2_0, c0_2_1, c0_2_2, c0_2_3⟩ := g
    have g := f1_2; obtain ⟨c1_2_0, c1_2_1, c1_2_2, c1_2_3⟩ := g
    go_wp2_with fail
    refine (valid_of _ _ _ _ HR).mono ?_
    rintro e w3 ⟨rfl, hb3⟩
    have hq3 := below_keep hb3 (hq2)
    have f0_3 : at4 w3 (w.heap.size) x y z u := at4_keep hb3 (f0_2)
    have f1_3 : at4 w3 (w.heap.size + 1) a1 a2 b1 b2 := at4_keep hb3 (f1_2)
    clear f0_2 c0_2_0 c0_2_1 c0_2_2 c0_2_3
    clear f1_2 c1_2_0 c1_2_1 c1_2_2 c1_2_3
    have g := f0_3; obtain ⟨c0_3_0, c0_3_1, c0_3_2, c0_3_3⟩ := g
    have g := f1_3; obtain ⟨c1_3_0, c1_3_1, c1_3_2, c1_3_3⟩ := g
    go_wp2_with fail
    refine (valid_of _ _ _ _ HS).mono ?_
    rintro e w4 ⟨rfl, hb4⟩
    have hq4 := below_keep hb4 (hq3)
    have f0_4 : at4 w4 (w.heap.size) x y z u := at4_keep hb4 (f0_3)
    have f1_4 : at4 w4 (w.heap.size + 1) a1 a2 b1 b2 := at4_keep hb4 (f1_3)
    clear f0_3 c0_3_0 c0_3_1 c0_3_2 c0_3_3
    clear f1_3 c1_3_0 c1_3_1 c1_3_2 c1_3_3
    have g := f0_4; obtain ⟨c0_4_0, c0_4_1, c0_4_2, c0_4_3⟩ := g
    have g := f1_4; obtain ⟨c1_4_0, c1_4_1, c1_4_2, c1_4_3⟩ := g
    go_wp2_with fail
    refine (divides_of _ _ _ _ _ _ _ _ _ _ HR.out HS.out (bvld_parts HP.out).1 (bvld_parts HP.out).2 HD).mono ?_
    rintro e w5 ⟨rfl, hb5⟩
    have hq5 := below_keep hb5 (hq4)
    have f0_5 : at4 w5 (w.heap.size) x y z u := at4_keep hb5 (f0_4)
    have f1_5 : at4 w5 (w.heap.size + 1) a1 a2 b1 b2 := at4_keep hb5 (f1_4)
    clear f0_4 c0_4_0 c0_4_1 c0_4_2 c0_4_3
    clear f1_4 c1_4_0 c1_4_1 c1_4_2 c1_4_3
    have g := f0_5; obtain ⟨c0_5_0, c0_5_1, c0_5_2, c0_5_3⟩ := g
    have g := f1_5; obtain ⟨c1_5_0, c1_5_1, c1_5_2, c1_5_3⟩ := g
    go_wp2
    go_ret
    exact ⟨rfl, hq5⟩
  · obtain rfl : true = v := by simpa using hOO
    clear hOO
    have heq := eql_pt HE
    go_enter Try.func29, Try.ntmps29
    go_wp2_with fail
    refine (bvalid_of _ _ _ _ _ _ HP).mono ?_
    rintro e w1 ⟨rfl, hb1⟩
    have hq1 := below_keep hb1 (al2 ..)
    have f0_1 : at4 w1 (w.heap.size) x y z u := by simpa using at4_keep hb1 (at4_keep (al1 ..) (at4_new w x y z u 23))
    have f1_1 : at4 w1 (w.heap.size + 1) a1 a2 b1 b2 := by simpa using at4_keep hb1 (at4_new (w.alloc (.cells #[.int .i64 x, .int .i64 y, .int .i64 z, .int .i64 u] 23)) a1 a2 b1 b2 42)
    have g := f0_1; obtain ⟨c0_1_0, c0_1_1, c0_1_2, c0_1_3⟩ := g
    have g := f1_1; obtain ⟨c1_1_0, c1_1_1, c1_1_2, c1_1_3⟩ := g
    go_wp2_with fail
    refine (inr_of _ _ _ _ _ _ HQ).mono ?_
    rintro e w2 ⟨rfl, hb2⟩
    have hq2 := below_keep hb2 (hq1)
    have f0_2 : at4 w2 (w.heap.size) x y z u := at4_keep hb2 (f0_1)
    have f1_2 : at4 w2 (w.heap.size + 1) a1 a2 b1 b2 := at4_keep hb2 (f1_1)
    clear f0_1 c0_1_0 c0_1_1 c0_1_2 c0_1_3
    clear f1_1 c1_1_0 c1_1_1 c1_1_2 c1_1_3
    have g := f0_2; obtain ⟨c0_2_0, c0_2_1, c0_2_2, c0_2_3⟩ := g
    have g := f1_2; obtain ⟨c1_2_0, c1_2_1, c1_2_2, c1_2_3⟩ := g
    go_wp2_with fail
    refine (valid_of _ _ _ _ HR).mono ?_
    rintro e w3 ⟨rfl, hb3⟩
    have hq3 := below_keep hb3 (hq2)
    have f0_3 : at4 w3 (w.heap.size) x y z u := at4_keep hb3 (f0_2)
    have f1_3 : at4 w3 (w.heap.size + 1) a1 a2 b1 b2 := at4_keep hb3 (f1_2)
    clear f0_2 c0_2_0 c0_2_1 c0_2_2 c0_2_3
    clear f1_2 c1_2_0 c1_2_1 c1_2_2 c1_2_3
    have g := f0_3; obtain ⟨c0_3_0, c0_3_1, c0_3_2, c0_3_3⟩ := g
    have g := f1_3; obtain ⟨c1_3_0, c1_3_1, c1_3_2, c1_3_3⟩ := g
    go_wp2_with fail
    refine (valid_of _ _ _ _ HS).mono ?_
    rintro e w4 ⟨rfl, hb4⟩
    have hq4 := below_keep hb4 (hq3)
    have f0_4 : at4 w4 (w.heap.size) x y z u := at4_keep hb4 (f0_3)
    have f1_4 : at4 w4 (w.heap.size + 1) a1 a2 b1 b2 := at4_keep hb4 (f1_3)
    clear f0_3 c0_3_0 c0_3_1 c0_3_2 c0_3_3
    clear f1_3 c1_3_0 c1_3_1 c1_3_2 c1_3_3
    have g := f0_4; obtain ⟨c0_4_0, c0_4_1, c0_4_2, c0_4_3⟩ := g
    have g := f1_4; obtain ⟨c1_4_0, c1_4_1, c1_4_2, c1_4_3⟩ := g
    go_wp2
    go_ret
    exact ⟨rfl, hq4⟩
end Go.Proofs.Ytifliljlacmmlaa
