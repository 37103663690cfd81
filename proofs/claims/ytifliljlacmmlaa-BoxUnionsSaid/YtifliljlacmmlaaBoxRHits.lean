/-
  What Hits of layer 3's reference returns: the same. No condition.
-/
import Derived.Test.YtifliljlacmmlaaBoxSpan
import Derived.Test.YtifliljlacmmlaaBoxHits
namespace Go.Proofs.Ytifliljlacmmlaa
open Go.RowKit

theorem spL_range (a d lo hi : Int) (h1 : -268435456 ≤ a) (h2 : a ≤ 268435456) (h3 : -268435456 ≤ lo) (h4 : lo ≤ 268435456) (h5 : -268435456 ≤ hi) (h6 : hi ≤ 268435456) : -536870912 ≤ spL a d lo hi ∧ spL a d lo hi ≤ 536870912 := by
  unfold spL; split <;> omega
theorem spH_range (a d lo hi : Int) (h1 : -268435456 ≤ a) (h2 : a ≤ 268435456) (h3 : -268435456 ≤ lo) (h4 : lo ≤ 268435456) (h5 : -268435456 ≤ hi) (h6 : hi ≤ 268435456) : -536870912 ≤ spH a d lo hi ∧ spH a d lo hi ≤ 536870912 := by
  unfold spH; split <;> omega
theorem spD_range (d : Int) (h1 : -536870912 ≤ d) (h2 : d ≤ 536870912) : -536870912 ≤ spD d ∧ spD d ≤ 536870912 := by
  unfold spD; split <;> omega

set_option maxHeartbeats 2000000 in
theorem rhits_of (x y z u a1 a2 b1 b2 : Int) (v : Bool) (w : World) (hv : Hid (hits x y z u a1 a2 b1 b2 = v)) :
    Calls Try.prog 28 #[.agg #[.int .i64 x, .int .i64 y, .int .i64 z, .int .i64 u], .agg #[.int .i64 a1, .int .i64 a2, .int .i64 b1, .int .i64 b2]] w fun e w' => e = .returned (.bool v) ∧ Below w.heap.size w w' := by
  obtain ⟨p, hp⟩ : ∃ v, bvld x y z u = v := ⟨_, rfl⟩
  obtain ⟨r, hr⟩ : ∃ v, vld a1 a2 = v := ⟨_, rfl⟩
  obtain ⟨s, hs⟩ : ∃ v, vld b1 b2 = v := ⟨_, rfl⟩
  have hO := hv.out
  unfold hits at hO
  rw [← hitS_eq, hp, hr, hs] at hO
  have HO := Lib.hid hO
  have HP := Lib.hid hp
  have HR := Lib.hid hr
  have HS := Lib.hid hs
  clear hv hO hp hr hs
  cases p
  · obtain rfl : false = v := by simpa using HO.out
    go_enter Try.func28, Try.ntmps28
    go_wp2_with fail
    refine (rvalid_of _ _ _ _ _ _ HP).mono ?_
    rintro e w1 ⟨rfl, hb1⟩
    have hq1 := below_keep hb1 (al2 ..)
    have f0_1 : at4 w1 (w.heap.size) x y z u := by simpa using at4_keep hb1 (at4_keep (al1 ..) (at4_new w x y z u 23))
    have f1_1 : at4 w1 (w.heap.size + 1) a1 a2 b1 b2 := by simpa using at4_keep hb1 (at4_new (w.alloc (.cells #[.int .i64 x, .int .i64 y, .int .i64 z, .int .i64 u] 23)) a1 a2 b1 b2 42)
    have g := f0_1; obtain ⟨c0_1_0, c0_1_1, c0_1_2, c0_1_3⟩ := g
    have g := f1_1; obtain ⟨c1_1_0, c1_1_1, c1_1_2, c1_1_3⟩ := g
    go_wp2
    go_ret
    exact ⟨rfl, hq1⟩
  cases r
  · obtain rfl : false = v := by simpa using HO.out
    go_enter Try.func28, Try.ntmps28
    go_wp2_with fail
    refine (rvalid_of _ _ _ _ _ _ HP).mono ?_
    rintro e w1 ⟨rfl, hb1⟩
    have hq1 := below_keep hb1 (al2 ..)
    have f0_1 : at4 w1 (w.heap.size) x y z u := by simpa using at4_keep hb1 (at4_keep (al1 ..) (at4_new w x y z u 23))
    have f1_1 : at4 w1 (w.heap.size + 1) a1 a2 b1 b2 := by simpa using at4_keep hb1 (at4_new (w.alloc (.cells #[.int .i64 x, .int .i64 y, .int .i64 z, .int .i64 u] 23)) a1 a2 b1 b2 42)
    have g := f0_1; obtain ⟨c0_1_0, c0_1_1, c0_1_2, c0_1_3⟩ := g
    have g := f1_1; obtain ⟨c1_1_0, c1_1_1, c1_1_2, c1_1_3⟩ := g
    go_wp2_with fail
    refine (point_of _ _ _ _ HR).mono ?_
    rintro e w2 ⟨rfl, hb2⟩
    have hq2 := below_keep hb2 (hq1)
    have f0_2 : at4 w2 (w.heap.size) x y z u := at4_keep hb2 (f0_1)
    have f1_2 : at4 w2 (w.heap.size + 1) a1 a2 b1 b2 := at4_keep hb2 (f1_1)
    clear f0_1 c0_1_0 c0_1_1 c0_1_2 c0_1_3
    clear f1_1 c1_1_0 c1_1_1 c1_1_2 c1_1_3
    have g := f0_2; obtain ⟨c0_2_0, c0_2_1, c0_2_2, c0_2_3⟩ := g
    have g := f1_2; obtain ⟨c1_2_0, c1_2_1, c1_2_2, c1_2_3⟩ := g
    go_wp2
    go_ret
    exact ⟨rfl, hq2⟩
  cases s
  · obtain rfl : false = v := by simpa using HO.out
    go_enter Try.func28, Try.ntmps28
    go_wp2_with fail
    refine (rvalid_of _ _ _ _ _ _ HP).mono ?_
    rintro e w1 ⟨rfl, hb1⟩
    have hq1 := below_keep hb1 (al2 ..)
    have f0_1 : at4 w1 (w.heap.size) x y z u := by simpa using at4_keep hb1 (at4_keep (al1 ..) (at4_new w x y z u 23))
    have f1_1 : at4 w1 (w.heap.size + 1) a1 a2 b1 b2 := by simpa using at4_keep hb1 (at4_new (w.alloc (.cells #[.int .i64 x, .int .i64 y, .int .i64 z, .int .i64 u] 23)) a1 a2 b1 b2 42)
    have g := f0_1; obtain ⟨c0_1_0, c0_1_1, c0_1_2, c0_1_3⟩ := g
    have g := f1_1; obtain ⟨c1_1_0, c1_1_1, c1_1_2, c1_1_3⟩ := g
    go_wp2_with fail
    refine (point_of _ _ _ _ HR).mono ?_
    rintro e w2 ⟨rfl, hb2⟩
    have hq2 := below_keep hb2 (hq1)
    have f0_2 : at4 w2 (w.heap.size) x y z u := at4_keep hb2 (f0_1)
    have f1_2 : at4 w2 (w.heap.size + 1) a1 a2 b1 b2 := at4_keep hb2 (f1_1)
    clear f0_1 c0_1_0 c0_1_1 c0_1_2 c0_1_3
    clear f1_1 c1_1_0 c1_1_1 c1_1_2 c1_1_3
    have g := f0_2; obtain ⟨c0_2_0, c0_2_1, c0_2_2, c0_2_3⟩ := g
    have g := f1_2; obtain ⟨c1_2_0, c1_2_1, c1_2_2, c1_2_3⟩ := g
    go_wp2_with fail
    refine (point_of _ _ _ _ HS).mono ?_
    rintro e w3 ⟨rfl, hb3⟩
    have hq3 := below_keep hb3 (hq2)
    have f0_3 : at4 w3 (w.heap.size) x y z u := at4_keep hb3 (f0_2)
    have f1_3 : at4 w3 (w.heap.size + 1) a1 a2 b1 b2 := at4_keep hb3 (f1_2)
    clear f0_2 c0_2_0 c0_2_1 c0_2_2 c0_2_3
    clear f1_2 c1_2_0 c1_2_1 c1_2_2 c1_2_3
    have g := f0_3; obtain ⟨c0_3_0, c0_3_1, c0_3_2, c0_3_3⟩ := g
    have g := f1_3; obtain ⟨c1_3_0, c1_3_1, c1_3_2, c1_3_3⟩ := g
    go_wp2
    go_ret
    exact ⟨rfl, hq3⟩
  have hO := HO.out
  simp only [Bool.true_and] at hO
  unfold hitS at hO
  have hb := (bvld_iff _ _ _ _).1 HP.out
  have ha := (vld_iff _ _).1 HR.out
  have hc := (vld_iff _ _).1 HS.out
  obtain ⟨x1, x2, x3, x4, x5, x6⟩ := hb
  obtain ⟨y1, y2, y3, y4⟩ := ha
  obtain ⟨z1, z2, z3, z4⟩ := hc
  have rl1 := spL_range a1 (b1 - a1) x z (by omega) (by omega) (by omega) (by omega) (by omega) (by omega)
  have rh1 := spH_range a1 (b1 - a1) x z (by omega) (by omega) (by omega) (by omega) (by omega) (by omega)
  have rd1 := spD_range (b1 - a1) (by omega) (by omega)
  have rl2 := spL_range a2 (b2 - a2) y u (by omega) (by omega) (by omega) (by omega) (by omega) (by omega)
  have rh2 := spH_range a2 (b2 - a2) y u (by omega) (by omega) (by omega) (by omega) (by omega) (by omega)
  have rd2 := spD_range (b2 - a2) (by omega) (by omega)
  obtain ⟨l1, hl1⟩ : ∃ n, spL a1 (b1 - a1) x z = n := ⟨_, rfl⟩
  obtain ⟨h1, hh1⟩ : ∃ n, spH a1 (b1 - a1) x z = n := ⟨_, rfl⟩
  obtain ⟨d1, hd1⟩ : ∃ n, spD (b1 - a1) = n := ⟨_, rfl⟩
  obtain ⟨o1, ho1⟩ : ∃ n, spO a1 (b1 - a1) x z = n := ⟨_, rfl⟩
  obtain ⟨l2, hl2⟩ : ∃ n, spL a2 (b2 - a2) y u = n := ⟨_, rfl⟩
  obtain ⟨h2, hh2⟩ : ∃ n, spH a2 (b2 - a2) y u = n := ⟨_, rfl⟩
  obtain ⟨d2, hd2⟩ : ∃ n, spD (b2 - a2) = n := ⟨_, rfl⟩
  obtain ⟨o2, ho2⟩ : ∃ n, spO a2 (b2 - a2) y u = n := ⟨_, rfl⟩
  rw [hl1, hh1, hd1, ho1, hl2, hh2, hd2, ho2] at hO
  rw [hl1] at rl1
  rw [hh1] at rh1
  rw [hd1] at rd1
  rw [hl2] at rl2
  rw [hh2] at rh2
  rw [hd2] at rd2
  obtain ⟨s1, hs1⟩ : ∃ v, someB l1 h1 d1 o1 = v := ⟨_, rfl⟩
  obtain ⟨s2, hs2⟩ : ∃ v, someB l2 h2 d2 o2 = v := ⟨_, rfl⟩
  rw [hs1, hs2] at hO
  have HO := Lib.hid hO
  obtain ⟨t1, t2⟩ := mul_small l1 d2 rl1.1 rl1.2 rd2.1 rd2.2
  obtain ⟨t3, t4⟩ := mul_small h2 d1 rh2.1 rh2.2 rd1.1 rd1.2
  obtain ⟨t5, t6⟩ := mul_small l2 d1 rl2.1 rl2.2 rd1.1 rd1.2
  obtain ⟨t7, t8⟩ := mul_small h1 d2 rh1.1 rh1.2 rd2.1 rd2.2
  obtain ⟨rl11, rl12⟩ := rl1
  obtain ⟨rh11, rh12⟩ := rh1
  obtain ⟨rd11, rd12⟩ := rd1
  obtain ⟨rl21, rl22⟩ := rl2
  obtain ⟨rh21, rh22⟩ := rh2
  obtain ⟨rd21, rd22⟩ := rd2
  have HL1 := Lib.hid hl1
  have HH1 := Lib.hid hh1
  have HD1 := Lib.hid hd1
  have HO1 := Lib.hid ho1
  have HL2 := Lib.hid hl2
  have HH2 := Lib.hid hh2
  have HD2 := Lib.hid hd2
  have HO2 := Lib.hid ho2
  have HS1 := Lib.hid hs1
  have HS2 := Lib.hid hs2
  clear hO hl1 hh1 hd1 ho1 hl2 hh2 hd2 ho2 hs1 hs2
  cases s1
  · obtain rfl : false = v := by simpa using HO.out
    go_enter Try.func28, Try.ntmps28
    go_wp2_with fail
    refine (rvalid_of _ _ _ _ _ _ HP).mono ?_
    rintro e w1 ⟨rfl, hb1⟩
    have hq1 := below_keep hb1 (al2 ..)
    have f0_1 : at4 w1 (w.heap.size) x y z u := by simpa using at4_keep hb1 (at4_keep (al1 ..) (at4_new w x y z u 23))
    have f1_1 : at4 w1 (w.heap.size + 1) a1 a2 b1 b2 := by simpa using at4_keep hb1 (at4_new (w.alloc (.cells #[.int .i64 x, .int .i64 y, .int .i64 z, .int .i64 u] 23)) a1 a2 b1 b2 42)
    have g := f0_1; obtain ⟨c0_1_0, c0_1_1, c0_1_2, c0_1_3⟩ := g
    have g := f1_1; obtain ⟨c1_1_0, c1_1_1, c1_1_2, c1_1_3⟩ := g
    go_wp2_with fail
    refine (point_of _ _ _ _ HR).mono ?_
    rintro e w2 ⟨rfl, hb2⟩
    have hq2 := below_keep hb2 (hq1)
    have f0_2 : at4 w2 (w.heap.size) x y z u := at4_keep hb2 (f0_1)
    have f1_2 : at4 w2 (w.heap.size + 1) a1 a2 b1 b2 := at4_keep hb2 (f1_1)
    clear f0_1 c0_1_0 c0_1_1 c0_1_2 c0_1_3
    clear f1_1 c1_1_0 c1_1_1 c1_1_2 c1_1_3
    have g := f0_2; obtain ⟨c0_2_0, c0_2_1, c0_2_2, c0_2_3⟩ := g
    have g := f1_2; obtain ⟨c1_2_0, c1_2_1, c1_2_2, c1_2_3⟩ := g
    go_wp2_with fail
    refine (point_of _ _ _ _ HS).mono ?_
    rintro e w3 ⟨rfl, hb3⟩
    have hq3 := below_keep hb3 (hq2)
    have f0_3 : at4 w3 (w.heap.size) x y z u := at4_keep hb3 (f0_2)
    have f1_3 : at4 w3 (w.heap.size + 1) a1 a2 b1 b2 := at4_keep hb3 (f1_2)
    clear f0_2 c0_2_0 c0_2_1 c0_2_2 c0_2_3
    clear f1_2 c1_2_0 c1_2_1 c1_2_2 c1_2_3
    have g := f0_3; obtain ⟨c0_3_0, c0_3_1, c0_3_2, c0_3_3⟩ := g
    have g := f1_3; obtain ⟨c1_3_0, c1_3_1, c1_3_2, c1_3_3⟩ := g
    go_wp2_with fail
    refine (span_of a1 (b1 - a1) x z l1 h1 d1 o1 _ (by omega) (by omega) (by omega) (by omega) (by omega) (by omega) (by omega) (by omega) HL1 HH1 HD1 HO1).mono ?_
    rintro e w4 ⟨rfl, hb4⟩
    have hq4 := below_keep hb4 (hq3)
    have f0_4 : at4 w4 (w.heap.size) x y z u := at4_keep hb4 (f0_3)
    have f1_4 : at4 w4 (w.heap.size + 1) a1 a2 b1 b2 := at4_keep hb4 (f1_3)
    clear f0_3 c0_3_0 c0_3_1 c0_3_2 c0_3_3
    clear f1_3 c1_3_0 c1_3_1 c1_3_2 c1_3_3
    have g := f0_4; obtain ⟨c0_4_0, c0_4_1, c0_4_2, c0_4_3⟩ := g
    have g := f1_4; obtain ⟨c1_4_0, c1_4_1, c1_4_2, c1_4_3⟩ := g
    have z0_4 : w.heap.size < w4.heap.size := World.block_lt_of_cell? w4 _ c0_4_0
    have z1_4 : w.heap.size + 1 < w4.heap.size := World.block_lt_of_cell? w4 _ c1_4_0
    go_wp2_with fail
    refine (span_of a2 (b2 - a2) y u l2 h2 d2 o2 _ (by omega) (by omega) (by omega) (by omega) (by omega) (by omega) (by omega) (by omega) HL2 HH2 HD2 HO2).mono ?_
    rintro e w5 ⟨rfl, hb5⟩
    have hq5 := below_keep hb5 (below_keep (al1 ..) hq4)
    have f0_5 : at4 w5 (w.heap.size) x y z u := at4_keep hb5 (at4_keep (al1 ..) f0_4)
    have f1_5 : at4 w5 (w.heap.size + 1) a1 a2 b1 b2 := at4_keep hb5 (at4_keep (al1 ..) f1_4)
    have f2_5 : atS w5 (w4.heap.size) l1 h1 d1 o1 := by simpa using atS_keep hb5 (atS_new w4 l1 h1 d1 o1 52)
    clear f0_4 c0_4_0 c0_4_1 c0_4_2 c0_4_3
    clear f1_4 c1_4_0 c1_4_1 c1_4_2 c1_4_3
    have g := f0_5; obtain ⟨c0_5_0, c0_5_1, c0_5_2, c0_5_3⟩ := g
    have g := f1_5; obtain ⟨c1_5_0, c1_5_1, c1_5_2, c1_5_3⟩ := g
    have g := f2_5; obtain ⟨c2_5_0, c2_5_1, c2_5_2, c2_5_3⟩ := g
    have z0_5 : w.heap.size < w5.heap.size := World.block_lt_of_cell? w5 _ c0_5_0
    have z1_5 : w.heap.size + 1 < w5.heap.size := World.block_lt_of_cell? w5 _ c1_5_0
    have z2_5 : w4.heap.size < w5.heap.size := World.block_lt_of_cell? w5 _ c2_5_0
    go_wp2_with fail
    refine (some_of _ _ _ _ _ _ HS1).mono ?_
    rintro e w6 ⟨rfl, hb6⟩
    have hq6 := below_keep hb6 (below_keep (al1 ..) hq5)
    have f0_6 : at4 w6 (w.heap.size) x y z u := at4_keep hb6 (at4_keep (al1 ..) f0_5)
    have f1_6 : at4 w6 (w.heap.size + 1) a1 a2 b1 b2 := at4_keep hb6 (at4_keep (al1 ..) f1_5)
    have f2_6 : atS w6 (w4.heap.size) l1 h1 d1 o1 := atS_keep hb6 (atS_keep (al1 ..) f2_5)
    have f3_6 : atS w6 (w5.heap.size) l2 h2 d2 o2 := by simpa using atS_keep hb6 (atS_new w5 l2 h2 d2 o2 52)
    clear f0_5 c0_5_0 c0_5_1 c0_5_2 c0_5_3
    clear f1_5 c1_5_0 c1_5_1 c1_5_2 c1_5_3
    clear f2_5 c2_5_0 c2_5_1 c2_5_2 c2_5_3
    have g := f0_6; obtain ⟨c0_6_0, c0_6_1, c0_6_2, c0_6_3⟩ := g
    have g := f1_6; obtain ⟨c1_6_0, c1_6_1, c1_6_2, c1_6_3⟩ := g
    have g := f2_6; obtain ⟨c2_6_0, c2_6_1, c2_6_2, c2_6_3⟩ := g
    have g := f3_6; obtain ⟨c3_6_0, c3_6_1, c3_6_2, c3_6_3⟩ := g
    have z0_6 : w.heap.size < w6.heap.size := World.block_lt_of_cell? w6 _ c0_6_0
    have z1_6 : w.heap.size + 1 < w6.heap.size := World.block_lt_of_cell? w6 _ c1_6_0
    have z2_6 : w4.heap.size < w6.heap.size := World.block_lt_of_cell? w6 _ c2_6_0
    have z3_6 : w5.heap.size < w6.heap.size := World.block_lt_of_cell? w6 _ c3_6_0
    go_wp2
    go_ret
    exact ⟨rfl, hq6⟩
  cases s2
  · obtain rfl : false = v := by simpa using HO.out
    go_enter Try.func28, Try.ntmps28
    go_wp2_with fail
    refine (rvalid_of _ _ _ _ _ _ HP).mono ?_
    rintro e w1 ⟨rfl, hb1⟩
    have hq1 := below_keep hb1 (al2 ..)
    have f0_1 : at4 w1 (w.heap.size) x y z u := by simpa using at4_keep hb1 (at4_keep (al1 ..) (at4_new w x y z u 23))
    have f1_1 : at4 w1 (w.heap.size + 1) a1 a2 b1 b2 := by simpa using at4_keep hb1 (at4_new (w.alloc (.cells #[.int .i64 x, .int .i64 y, .int .i64 z, .int .i64 u] 23)) a1 a2 b1 b2 42)
    have g := f0_1; obtain ⟨c0_1_0, c0_1_1, c0_1_2, c0_1_3⟩ := g
    have g := f1_1; obtain ⟨c1_1_0, c1_1_1, c1_1_2, c1_1_3⟩ := g
    go_wp2_with fail
    refine (point_of _ _ _ _ HR).mono ?_
    rintro e w2 ⟨rfl, hb2⟩
    have hq2 := below_keep hb2 (hq1)
    have f0_2 : at4 w2 (w.heap.size) x y z u := at4_keep hb2 (f0_1)
    have f1_2 : at4 w2 (w.heap.size + 1) a1 a2 b1 b2 := at4_keep hb2 (f1_1)
    clear f0_1 c0_1_0 c0_1_1 c0_1_2 c0_1_3
    clear f1_1 c1_1_0 c1_1_1 c1_1_2 c1_1_3
    have g := f0_2; obtain ⟨c0_2_0, c0_2_1, c0_2_2, c0_2_3⟩ := g
    have g := f1_2; obtain ⟨c1_2_0, c1_2_1, c1_2_2, c1_2_3⟩ := g
    go_wp2_with fail
    refine (point_of _ _ _ _ HS).mono ?_
    rintro e w3 ⟨rfl, hb3⟩
    have hq3 := below_keep hb3 (hq2)
    have f0_3 : at4 w3 (w.heap.size) x y z u := at4_keep hb3 (f0_2)
    have f1_3 : at4 w3 (w.heap.size + 1) a1 a2 b1 b2 := at4_keep hb3 (f1_2)
    clear f0_2 c0_2_0 c0_2_1 c0_2_2 c0_2_3
    clear f1_2 c1_2_0 c1_2_1 c1_2_2 c1_2_3
    have g := f0_3; obtain ⟨c0_3_0, c0_3_1, c0_3_2, c0_3_3⟩ := g
    have g := f1_3; obtain ⟨c1_3_0, c1_3_1, c1_3_2, c1_3_3⟩ := g
    go_wp2_with fail
    refine (span_of a1 (b1 - a1) x z l1 h1 d1 o1 _ (by omega) (by omega) (by omega) (by omega) (by omega) (by omega) (by omega) (by omega) HL1 HH1 HD1 HO1).mono ?_
    rintro e w4 ⟨rfl, hb4⟩
    have hq4 := below_keep hb4 (hq3)
    have f0_4 : at4 w4 (w.heap.size) x y z u := at4_keep hb4 (f0_3)
    have f1_4 : at4 w4 (w.heap.size + 1) a1 a2 b1 b2 := at4_keep hb4 (f1_3)
    clear f0_3 c0_3_0 c0_3_1 c0_3_2 c0_3_3
    clear f1_3 c1_3_0 c1_3_1 c1_3_2 c1_3_3
    have g := f0_4; obtain ⟨c0_4_0, c0_4_1, c0_4_2, c0_4_3⟩ := g
    have g := f1_4; obtain ⟨c1_4_0, c1_4_1, c1_4_2, c1_4_3⟩ := g
    have z0_4 : w.heap.size < w4.heap.size := World.block_lt_of_cell? w4 _ c0_4_0
    have z1_4 : w.heap.size + 1 < w4.heap.size := World.block_lt_of_cell? w4 _ c1_4_0
    go_wp2_with fail
    refine (span_of a2 (b2 - a2) y u l2 h2 d2 o2 _ (by omega) (by omega) (by omega) (by omega) (by omega) (by omega) (by omega) (by omega) HL2 HH2 HD2 HO2).mono ?_
    rintro e w5 ⟨rfl, hb5⟩
    have hq5 := below_keep hb5 (below_keep (al1 ..) hq4)
    have f0_5 : at4 w5 (w.heap.size) x y z u := at4_keep hb5 (at4_keep (al1 ..) f0_4)
    have f1_5 : at4 w5 (w.heap.size + 1) a1 a2 b1 b2 := at4_keep hb5 (at4_keep (al1 ..) f1_4)
    have f2_5 : atS w5 (w4.heap.size) l1 h1 d1 o1 := by simpa using atS_keep hb5 (atS_new w4 l1 h1 d1 o1 52)
    clear f0_4 c0_4_0 c0_4_1 c0_4_2 c0_4_3
    clear f1_4 c1_4_0 c1_4_1 c1_4_2 c1_4_3
    have g := f0_5; obtain ⟨c0_5_0, c0_5_1, c0_5_2, c0_5_3⟩ := g
    have g := f1_5; obtain ⟨c1_5_0, c1_5_1, c1_5_2, c1_5_3⟩ := g
    have g := f2_5; obtain ⟨c2_5_0, c2_5_1, c2_5_2, c2_5_3⟩ := g
    have z0_5 : w.heap.size < w5.heap.size := World.block_lt_of_cell? w5 _ c0_5_0
    have z1_5 : w.heap.size + 1 < w5.heap.size := World.block_lt_of_cell? w5 _ c1_5_0
    have z2_5 : w4.heap.size < w5.heap.size := World.block_lt_of_cell? w5 _ c2_5_0
    go_wp2_with fail
    refine (some_of _ _ _ _ _ _ HS1).mono ?_
    rintro e w6 ⟨rfl, hb6⟩
    have hq6 := below_keep hb6 (below_keep (al1 ..) hq5)
    have f0_6 : at4 w6 (w.heap.size) x y z u := at4_keep hb6 (at4_keep (al1 ..) f0_5)
    have f1_6 : at4 w6 (w.heap.size + 1) a1 a2 b1 b2 := at4_keep hb6 (at4_keep (al1 ..) f1_5)
    have f2_6 : atS w6 (w4.heap.size) l1 h1 d1 o1 := atS_keep hb6 (atS_keep (al1 ..) f2_5)
    have f3_6 : atS w6 (w5.heap.size) l2 h2 d2 o2 := by simpa using atS_keep hb6 (atS_new w5 l2 h2 d2 o2 52)
    clear f0_5 c0_5_0 c0_5_1 c0_5_2 c0_5_3
    clear f1_5 c1_5_0 c1_5_1 c1_5_2 c1_5_3
    clear f2_5 c2_5_0 c2_5_1 c2_5_2 c2_5_3
    have g := f0_6; obtain ⟨c0_6_0, c0_6_1, c0_6_2, c0_6_3⟩ := g
    have g := f1_6; obtain ⟨c1_6_0, c1_6_1, c1_6_2, c1_6_3⟩ := g
    have g := f2_6; obtain ⟨c2_6_0, c2_6_1, c2_6_2, c2_6_3⟩ := g
    have g := f3_6; obtain ⟨c3_6_0, c3_6_1, c3_6_2, c3_6_3⟩ := g
    have z0_6 : w.heap.size < w6.heap.size := World.block_lt_of_cell? w6 _ c0_6_0
    have z1_6 : w.heap.size + 1 < w6.heap.size := World.block_lt_of_cell? w6 _ c1_6_0
    have z2_6 : w4.heap.size < w6.heap.size := World.block_lt_of_cell? w6 _ c2_6_0
    have z3_6 : w5.heap.size < w6.heap.size := World.block_lt_of_cell? w6 _ c3_6_0
    go_wp2_with fail
    refine (some_of _ _ _ _ _ _ HS2).mono ?_
    rintro e w7 ⟨rfl, hb7⟩
    have hq7 := below_keep hb7 (hq6)
    have f0_7 : at4 w7 (w.heap.size) x y z u := at4_keep hb7 (f0_6)
    have f1_7 : at4 w7 (w.heap.size + 1) a1 a2 b1 b2 := at4_keep hb7 (f1_6)
    have f2_7 : atS w7 (w4.heap.size) l1 h1 d1 o1 := atS_keep hb7 (f2_6)
    have f3_7 : atS w7 (w5.heap.size) l2 h2 d2 o2 := atS_keep hb7 (f3_6)
    clear f0_6 c0_6_0 c0_6_1 c0_6_2 c0_6_3
    clear f1_6 c1_6_0 c1_6_1 c1_6_2 c1_6_3
    clear f2_6 c2_6_0 c2_6_1 c2_6_2 c2_6_3
    clear f3_6 c3_6_0 c3_6_1 c3_6_2 c3_6_3
    have g := f0_7; obtain ⟨c0_7_0, c0_7_1, c0_7_2, c0_7_3⟩ := g
    have g := f1_7; obtain ⟨c1_7_0, c1_7_1, c1_7_2, c1_7_3⟩ := g
    have g := f2_7; obtain ⟨c2_7_0, c2_7_1, c2_7_2, c2_7_3⟩ := g
    have g := f3_7; obtain ⟨c3_7_0, c3_7_1, c3_7_2, c3_7_3⟩ := g
    have z0_7 : w.heap.size < w7.heap.size := World.block_lt_of_cell? w7 _ c0_7_0
    have z1_7 : w.heap.size + 1 < w7.heap.size := World.block_lt_of_cell? w7 _ c1_7_0
    have z2_7 : w4.heap.size < w7.heap.size := World.block_lt_of_cell? w7 _ c2_7_0
    have z3_7 : w5.heap.size < w7.heap.size := World.block_lt_of_cell? w7 _ c3_7_0
    go_wp2
    go_ret
    exact ⟨rfl, hq7⟩
  ·
    go_enter Try.func28, Try.ntmps28
    go_wp2_with fail
    refine (rvalid_of _ _ _ _ _ _ HP).mono ?_
    rintro e w1 ⟨rfl, hb1⟩
    have hq1 := below_keep hb1 (al2 ..)
    have f0_1 : at4 w1 (w.heap.size) x y z u := by simpa using at4_keep hb1 (at4_keep (al1 ..) (at4_new w x y z u 23))
    have f1_1 : at4 w1 (w.heap.size + 1) a1 a2 b1 b2 := by simpa using at4_keep hb1 (at4_new (w.alloc (.cells #[.int .i64 x, .int .i64 y, .int .i64 z, .int .i64 u] 23)) a1 a2 b1 b2 42)
    have g := f0_1; obtain ⟨c0_1_0, c0_1_1, c0_1_2, c0_1_3⟩ := g
    have g := f1_1; obtain ⟨c1_1_0, c1_1_1, c1_1_2, c1_1_3⟩ := g
    go_wp2_with fail
    refine (point_of _ _ _ _ HR).mono ?_
    rintro e w2 ⟨rfl, hb2⟩
    have hq2 := below_keep hb2 (hq1)
    have f0_2 : at4 w2 (w.heap.size) x y z u := at4_keep hb2 (f0_1)
    have f1_2 : at4 w2 (w.heap.size + 1) a1 a2 b1 b2 := at4_keep hb2 (f1_1)
    clear f0_1 c0_1_0 c0_1_1 c0_1_2 c0_1_3
    clear f1_1 c1_1_0 c1_1_1 c1_1_2 c1_1_3
    have g := f0_2; obtain ⟨c0_2_0, c0_2_1, c0_2_2, c0_2_3⟩ := g
    have g := f1_2; obtain ⟨c1_2_0, c1_2_1, c1_2_2, c1_2_3⟩ := g
    go_wp2_with fail
    refine (point_of _ _ _ _ HS).mono ?_
    rintro e w3 ⟨rfl, hb3⟩
    have hq3 := below_keep hb3 (hq2)
    have f0_3 : at4 w3 (w.heap.size) x y z u := at4_keep hb3 (f0_2)
    have f1_3 : at4 w3 (w.heap.size + 1) a1 a2 b1 b2 := at4_keep hb3 (f1_2)
    clear f0_2 c0_2_0 c0_2_1 c0_2_2 c0_2_3
    clear f1_2 c1_2_0 c1_2_1 c1_2_2 c1_2_3
    have g := f0_3; obtain ⟨c0_3_0, c0_3_1, c0_3_2, c0_3_3⟩ := g
    have g := f1_3; obtain ⟨c1_3_0, c1_3_1, c1_3_2, c1_3_3⟩ := g
    go_wp2_with fail
    refine (span_of a1 (b1 - a1) x z l1 h1 d1 o1 _ (by omega) (by omega) (by omega) (by omega) (by omega) (by omega) (by omega) (by omega) HL1 HH1 HD1 HO1).mono ?_
    rintro e w4 ⟨rfl, hb4⟩
    have hq4 := below_keep hb4 (hq3)
    have f0_4 : at4 w4 (w.heap.size) x y z u := at4_keep hb4 (f0_3)
    have f1_4 : at4 w4 (w.heap.size + 1) a1 a2 b1 b2 := at4_keep hb4 (f1_3)
    clear f0_3 c0_3_0 c0_3_1 c0_3_2 c0_3_3
    clear f1_3 c1_3_0 c1_3_1 c1_3_2 c1_3_3
    have g := f0_4; obtain ⟨c0_4_0, c0_4_1, c0_4_2, c0_4_3⟩ := g
    have g := f1_4; obtain ⟨c1_4_0, c1_4_1, c1_4_2, c1_4_3⟩ := g
    have z0_4 : w.heap.size < w4.heap.size := World.block_lt_of_cell? w4 _ c0_4_0
    have z1_4 : w.heap.size + 1 < w4.heap.size := World.block_lt_of_cell? w4 _ c1_4_0
    go_wp2_with fail
    refine (span_of a2 (b2 - a2) y u l2 h2 d2 o2 _ (by omega) (by omega) (by omega) (by omega) (by omega) (by omega) (by omega) (by omega) HL2 HH2 HD2 HO2).mono ?_
    rintro e w5 ⟨rfl, hb5⟩
    have hq5 := below_keep hb5 (below_keep (al1 ..) hq4)
    have f0_5 : at4 w5 (w.heap.size) x y z u := at4_keep hb5 (at4_keep (al1 ..) f0_4)
    have f1_5 : at4 w5 (w.heap.size + 1) a1 a2 b1 b2 := at4_keep hb5 (at4_keep (al1 ..) f1_4)
    have f2_5 : atS w5 (w4.heap.size) l1 h1 d1 o1 := by simpa using atS_keep hb5 (atS_new w4 l1 h1 d1 o1 52)
    clear f0_4 c0_4_0 c0_4_1 c0_4_2 c0_4_3
    clear f1_4 c1_4_0 c1_4_1 c1_4_2 c1_4_3
    have g := f0_5; obtain ⟨c0_5_0, c0_5_1, c0_5_2, c0_5_3⟩ := g
    have g := f1_5; obtain ⟨c1_5_0, c1_5_1, c1_5_2, c1_5_3⟩ := g
    have g := f2_5; obtain ⟨c2_5_0, c2_5_1, c2_5_2, c2_5_3⟩ := g
    have z0_5 : w.heap.size < w5.heap.size := World.block_lt_of_cell? w5 _ c0_5_0
    have z1_5 : w.heap.size + 1 < w5.heap.size := World.block_lt_of_cell? w5 _ c1_5_0
    have z2_5 : w4.heap.size < w5.heap.size := World.block_lt_of_cell? w5 _ c2_5_0
    go_wp2_with fail
    refine (some_of _ _ _ _ _ _ HS1).mono ?_
    rintro e w6 ⟨rfl, hb6⟩
    have hq6 := below_keep hb6 (below_keep (al1 ..) hq5)
    have f0_6 : at4 w6 (w.heap.size) x y z u := at4_keep hb6 (at4_keep (al1 ..) f0_5)
    have f1_6 : at4 w6 (w.heap.size + 1) a1 a2 b1 b2 := at4_keep hb6 (at4_keep (al1 ..) f1_5)
    have f2_6 : atS w6 (w4.heap.size) l1 h1 d1 o1 := atS_keep hb6 (atS_keep (al1 ..) f2_5)
    have f3_6 : atS w6 (w5.heap.size) l2 h2 d2 o2 := by simpa using atS_keep hb6 (atS_new w5 l2 h2 d2 o2 52)
    clear f0_5 c0_5_0 c0_5_1 c0_5_2 c0_5_3
    clear f1_5 c1_5_0 c1_5_1 c1_5_2 c1_5_3
    clear f2_5 c2_5_0 c2_5_1 c2_5_2 c2_5_3
    have g := f0_6; obtain ⟨c0_6_0, c0_6_1, c0_6_2, c0_6_3⟩ := g
    have g := f1_6; obtain ⟨c1_6_0, c1_6_1, c1_6_2, c1_6_3⟩ := g
    have g := f2_6; obtain ⟨c2_6_0, c2_6_1, c2_6_2, c2_6_3⟩ := g
    have g := f3_6; obtain ⟨c3_6_0, c3_6_1, c3_6_2, c3_6_3⟩ := g
    have z0_6 : w.heap.size < w6.heap.size := World.block_lt_of_cell? w6 _ c0_6_0
    have z1_6 : w.heap.size + 1 < w6.heap.size := World.block_lt_of_cell? w6 _ c1_6_0
    have z2_6 : w4.heap.size < w6.heap.size := World.block_lt_of_cell? w6 _ c2_6_0
    have z3_6 : w5.heap.size < w6.heap.size := World.block_lt_of_cell? w6 _ c3_6_0
    go_wp2_with fail
    refine (some_of _ _ _ _ _ _ HS2).mono ?_
    rintro e w7 ⟨rfl, hb7⟩
    have hq7 := below_keep hb7 (hq6)
    have f0_7 : at4 w7 (w.heap.size) x y z u := at4_keep hb7 (f0_6)
    have f1_7 : at4 w7 (w.heap.size + 1) a1 a2 b1 b2 := at4_keep hb7 (f1_6)
    have f2_7 : atS w7 (w4.heap.size) l1 h1 d1 o1 := atS_keep hb7 (f2_6)
    have f3_7 : atS w7 (w5.heap.size) l2 h2 d2 o2 := atS_keep hb7 (f3_6)
    clear f0_6 c0_6_0 c0_6_1 c0_6_2 c0_6_3
    clear f1_6 c1_6_0 c1_6_1 c1_6_2 c1_6_3
    clear f2_6 c2_6_0 c2_6_1 c2_6_2 c2_6_3
    clear f3_6 c3_6_0 c3_6_1 c3_6_2 c3_6_3
    have g := f0_7; obtain ⟨c0_7_0, c0_7_1, c0_7_2, c0_7_3⟩ := g
    have g := f1_7; obtain ⟨c1_7_0, c1_7_1, c1_7_2, c1_7_3⟩ := g
    have g := f2_7; obtain ⟨c2_7_0, c2_7_1, c2_7_2, c2_7_3⟩ := g
    have g := f3_7; obtain ⟨c3_7_0, c3_7_1, c3_7_2, c3_7_3⟩ := g
    have z0_7 : w.heap.size < w7.heap.size := World.block_lt_of_cell? w7 _ c0_7_0
    have z1_7 : w.heap.size + 1 < w7.heap.size := World.block_lt_of_cell? w7 _ c1_7_0
    have z2_7 : w4.heap.size < w7.heap.size := World.block_lt_of_cell? w7 _ c2_7_0
    have z3_7 : w5.heap.size < w7.heap.size := World.block_lt_of_cell? w7 _ c3_7_0
    go_wp2
    all_goals go_ret
    all_goals refine ⟨ret_bool ?_, hq7⟩
    all_goals (rw [← HO.out, Bool.eq_iff_iff]; unfold lapB; simp)
    all_goals omega
end Go.Proofs.Ytifliljlacmmlaa
