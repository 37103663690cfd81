/-
  What Make of layer 3's reference and Inflate of both return. Conditions: arguments are ints; of Inflate: the number is one of 64 bits.
-/
import Derived.Test.YtifliljlacmmlaaBoxMake
namespace Go.Proofs.Ytifliljlacmmlaa
open Go.RowKit

theorem siz_no {n : Int} (h : siz n = false) : n < 0 ∨ 1048576 < n := by
  by_cases h1 : n < 0
  · exact Or.inl h1
  · by_cases h2 : 1048576 < n
    · exact Or.inr h2
    · exact absurd ((siz_iff n).2 (by omega)) (by rw [h]; simp)

set_option maxHeartbeats 1000000 in
theorem rmk_of (c d m n x y z u : Int) (w : World) (hm : Hid (mk c d m n = (x, y, z, u))) :
    Calls Try.prog 14 #[.agg #[.int .i64 c, .int .i64 d], .int .i64 m, .int .i64 n] w fun e w' => e = .returned (.agg #[.int .i64 x, .int .i64 y, .int .i64 z, .int .i64 u]) ∧ Below w.heap.size w w' := by
  obtain ⟨p, hp⟩ : ∃ v, vld c d = v := ⟨_, rfl⟩
  obtain ⟨q, hq⟩ : ∃ v, siz m = v := ⟨_, rfl⟩
  obtain ⟨r, hr⟩ : ∃ v, siz n = v := ⟨_, rfl⟩
  have HP := Lib.hid hp
  cases p
  · obtain ⟨rfl, rfl, rfl, rfl⟩ := mk_no (by rw [hp]; rfl) hm.out
    clear hp hq hr hm
    go_enter Try.func14, Try.ntmps14
    go_wp2_with fail
    refine (point_of _ _ _ _ HP).mono ?_
    rintro e w1 ⟨rfl, hb1⟩
    have hq1 := below_keep hb1 (al2 ..)
    have f0 : ow4 w1 (w.heap.size + 1) 0 0 0 0 := by simpa using ow4_keep hb1 (ow4_new (w.alloc (.cells #[.int .i64 c, .int .i64 d] 25)) 0 0 0 0 23)
    obtain ⟨c0, c1, c2, c3, c4, c5, c6, c7⟩ := f0
    clear hb1
    go_wp2
    exact bodyPost_ret (v := .agg #[.int .i64 0, .int .i64 0, .int .i64 0, .int .i64 0]) (by simp [results, Try.results14, go_sem, c0, c1, c2, c3]) rfl ⟨rfl, set4 hq1 (by omega)⟩
  by_cases hqr : (q && r) = false
  · obtain ⟨rfl, rfl, rfl, rfl⟩ := mk_no (by rw [hp, hq, hr]; simpa using hqr) hm.out
    have hc : (m < 0 ∨ 1048576 < m) ∨ ((0 ≤ m ∧ m ≤ 1048576) ∧ (n < 0 ∨ 1048576 < n)) := by
      cases q
      · exact Or.inl (siz_no hq)
      · cases r
        · exact Or.inr ⟨(siz_iff _).1 hq, siz_no hr⟩
        · cases hqr
    clear hp hq hr hm hqr
    rcases hc with (h1 | h1) | ⟨⟨h0, h1⟩, h2 | h2⟩
    all_goals
      go_enter Try.func14, Try.ntmps14
      go_wp2_with fail
      refine (point_of _ _ _ _ HP).mono ?_
      rintro e w1 ⟨rfl, hb1⟩
      have hq1 := below_keep hb1 (al2 ..)
      have f0 : ow4 w1 (w.heap.size + 1) 0 0 0 0 := by simpa using ow4_keep hb1 (ow4_new (w.alloc (.cells #[.int .i64 c, .int .i64 d] 25)) 0 0 0 0 23)
      obtain ⟨c0, c1, c2, c3, c4, c5, c6, c7⟩ := f0
      clear hb1
      go_wp2
      exact bodyPost_ret (v := .agg #[.int .i64 0, .int .i64 0, .int .i64 0, .int .i64 0]) (by simp [results, Try.results14, go_sem, c0, c1, c2, c3]) rfl ⟨rfl, set4 hq1 (by omega)⟩
  · have hq' : q = true := by cases q <;> simp_all
    have hr' : r = true := by cases r <;> simp_all
    subst hq' hr'
    have HO := mk_yes (by rw [hp, hq, hr]; rfl) hm.out
    rw [vld_iff] at hp
    rw [siz_iff] at hq hr
    obtain ⟨x1, x2, x3, x4⟩ := hp
    obtain ⟨y1, y2⟩ := hq
    obtain ⟨z1, z2⟩ := hr
    clear hqr hm
    obtain ⟨v, hv⟩ : ∃ v, bvld (c - m / 2) (d - n / 2) (c - m / 2 + m) (d - n / 2 + n) = v := ⟨_, rfl⟩
    have HV := Lib.hid hv
    cases v
    · obtain ⟨rfl, rfl, rfl, rfl⟩ := orZero_no hv HO
      clear hv HO
      go_enter Try.func14, Try.ntmps14
      go_wp2_with fail
      refine (point_of _ _ _ _ HP).mono ?_
      rintro e w1 ⟨rfl, hb1⟩
      have hq1 := below_keep hb1 (al2 ..)
      have f0 : ow4 w1 (w.heap.size + 1) 0 0 0 0 := by simpa using ow4_keep hb1 (ow4_new (w.alloc (.cells #[.int .i64 c, .int .i64 d] 25)) 0 0 0 0 23)
      have f1 := at2_keep hb1 (at2_keep (al1 ..) (at2_new w c d 25))
      obtain ⟨d0, d1⟩ := f1
      clear hb1
      go_wp2_with fail
      go_quiet (fail)
      have g0 : ow4 (w1.drewN nq) (w.heap.size + 1) 0 0 0 0 := f0
      have g1 : Below w.heap.size w (w1.drewN nq) := below_drewN hq1 _
      clear hq1 f0 d0 d1
      generalize w1.drewN nq = wd at *
      go_wp2_with fail
      refine (rvalid_of _ _ _ _ _ _ HV).mono ?_
      rintro e w2 ⟨rfl, hb2⟩
      have hq2 : Below w.heap.size w w2 := below_keep hb2 (below_keep (al1 ..) g1)
      have g2 := ow4_keep hb2 (ow4_keep (al1 ..) g0)
      obtain ⟨c0, c1, c2, c3, c4, c5, c6, c7⟩ := g2
      clear hb2 g1 g0
      go_wp2
      exact bodyPost_ret (v := .agg #[.int .i64 0, .int .i64 0, .int .i64 0, .int .i64 0]) (by simp [results, Try.results14, go_sem, c0, c1, c2, c3]) rfl ⟨rfl, set4 hq2 (by omega)⟩
    · obtain ⟨rfl, rfl, rfl, rfl⟩ := orZero_yes hv HO
      clear hv HO
      go_enter Try.func14, Try.ntmps14
      go_wp2_with fail
      refine (point_of _ _ _ _ HP).mono ?_
      rintro e w1 ⟨rfl, hb1⟩
      have hq1 := below_keep hb1 (al2 ..)
      have f0 : ow4 w1 (w.heap.size + 1) 0 0 0 0 := by simpa using ow4_keep hb1 (ow4_new (w.alloc (.cells #[.int .i64 c, .int .i64 d] 25)) 0 0 0 0 23)
      have f1 := at2_keep hb1 (at2_keep (al1 ..) (at2_new w c d 25))
      obtain ⟨d0, d1⟩ := f1
      clear hb1
      go_wp2_with fail
      go_quiet (fail)
      have g0 : ow4 (w1.drewN nq) (w.heap.size + 1) 0 0 0 0 := f0
      have g1 : Below w.heap.size w (w1.drewN nq) := below_drewN hq1 _
      clear hq1 f0 d0 d1
      generalize w1.drewN nq = wd at *
      go_wp2_with fail
      refine (rvalid_of _ _ _ _ _ _ HV).mono ?_
      rintro e w2 ⟨rfl, hb2⟩
      have hq2 : Below w.heap.size w w2 := below_keep hb2 (below_keep (al1 ..) g1)
      have g2 := ow4_keep hb2 (ow4_keep (al1 ..) g0)
      have g3 := at4_keep hb2 (at4_new wd (c - m / 2) (d - n / 2) (c - m / 2 + m) (d - n / 2 + n) 23)
      obtain ⟨c0, c1, c2, c3, c4, c5, c6, c7⟩ := g2
      obtain ⟨e0, e1, e2, e3⟩ := g3
      clear hb2 g1 g0
      go_wp2
      exact bodyPost_ret (v := .agg #[.int .i64 (c - m / 2), .int .i64 (d - n / 2), .int .i64 (c - m / 2 + m), .int .i64 (d - n / 2 + n)]) (by simp [results, Try.results14, go_sem, c0, c1, c2, c3]) rfl ⟨rfl, set4 hq2 (by omega)⟩

theorem infl_no {x y z u n a b c d : Int} (hv : bvld x y z u = false) (h : infl x y z u n = (a, b, c, d)) : a = 0 ∧ b = 0 ∧ c = 0 ∧ d = 0 := by
  unfold infl at h; rw [if_neg (by rw [hv]; simp)] at h; simp only [Prod.mk.injEq] at h; omega
theorem infl_yes {x y z u n a b c d : Int} (hv : bvld x y z u = true) (h : infl x y z u n = (a, b, c, d)) : orZero (x - n) (y - n) (z + n) (u + n) = (a, b, c, d) := by
  unfold infl at h; rw [if_pos hv] at h; exact h
theorem orZero_far (x y z u : Int) (h : bvld x y z u = false) : orZero x y z u = (0, 0, 0, 0) := by unfold orZero; rw [if_neg (by rw [h]; simp)]
theorem bvld_far (x y z u : Int) (h : x < -268435456 ∨ 268435456 < x) : bvld x y z u = false := by
  rw [Bool.eq_false_iff]; intro hc; rw [bvld_iff] at hc; omega
theorem orZero_wrap (x y z u n : Int) (hv : bvld x y z u = true) (h0 : -9223372036854775808 ≤ n) (h1 : n ≤ 9223372036854775807) :
    orZero (wrap64 (x - n)) (wrap64 (y - n)) (wrap64 (z + n)) (wrap64 (u + n)) = orZero (x - n) (y - n) (z + n) (u + n) := by
  rw [bvld_iff] at hv
  by_cases h : -4611686018427387904 ≤ n ∧ n ≤ 4611686018427387904
  · rw [show wrap64 (x - n) = x - n by unfold wrap64; omega, show wrap64 (y - n) = y - n by unfold wrap64; omega, show wrap64 (z + n) = z + n by unfold wrap64; omega, show wrap64 (u + n) = u + n by unfold wrap64; omega]
  · rw [orZero_far _ _ _ _ (bvld_far (x - n) _ _ _ (by omega)), orZero_far _ _ _ _ (bvld_far (wrap64 (x - n)) _ _ _ (by unfold wrap64; omega))]

set_option maxHeartbeats 1000000 in
theorem infl_of (x y z u n a b c d : Int) (w : World) (hm : Hid (infl x y z u n = (a, b, c, d))) (h0 : -9223372036854775808 ≤ n) (h1 : n ≤ 9223372036854775807) :
    Calls Try.prog 26 #[.agg #[.int .i64 x, .int .i64 y, .int .i64 z, .int .i64 u], .int .i64 n] w fun e w' => e = .returned (.agg #[.int .i64 a, .int .i64 b, .int .i64 c, .int .i64 d]) ∧ Below w.heap.size w w' := by
  obtain ⟨p, hp⟩ : ∃ v, bvld x y z u = v := ⟨_, rfl⟩
  have HP := Lib.hid hp
  cases p
  · obtain ⟨rfl, rfl, rfl, rfl⟩ := infl_no hp hm.out
    clear hp hm h0 h1
    go_enter Try.func26, Try.ntmps26
    go_wp2_with fail
    refine (bvalid_of _ _ _ _ _ _ HP).mono ?_
    rintro e w1 ⟨rfl, hb1⟩
    have hq1 := below_keep hb1 (al2 ..)
    have f0 : ow4 w1 (w.heap.size + 1) 0 0 0 0 := by simpa using ow4_keep hb1 (ow4_new (w.alloc (.cells #[.int .i64 x, .int .i64 y, .int .i64 z, .int .i64 u] 23)) 0 0 0 0 23)
    obtain ⟨c0, c1, c2, c3, c4, c5, c6, c7⟩ := f0
    clear hb1
    go_wp2
    exact bodyPost_ret (v := .agg #[.int .i64 0, .int .i64 0, .int .i64 0, .int .i64 0]) (by simp [results, Try.results26, go_sem, c0, c1, c2, c3]) rfl ⟨rfl, set4 hq1 (by omega)⟩
  · have HO := Lib.hid ((orZero_wrap x y z u n hp h0 h1).trans (infl_yes hp hm.out))
    clear hp hm h0 h1
    go_enter Try.func26, Try.ntmps26
    go_wp2_with fail
    refine (bvalid_of _ _ _ _ _ _ HP).mono ?_
    rintro e w1 ⟨rfl, hb1⟩
    have hq1 := below_keep hb1 (al2 ..)
    have f0 : ow4 w1 (w.heap.size + 1) 0 0 0 0 := by simpa using ow4_keep hb1 (ow4_new (w.alloc (.cells #[.int .i64 x, .int .i64 y, .int .i64 z, .int .i64 u] 23)) 0 0 0 0 23)
    have f1 := at4_keep hb1 (at4_keep (al1 ..) (at4_new w x y z u 23))
    obtain ⟨e0, e1, e2, e3⟩ := f1
    clear hb1
    go_wp2_with fail
    refine (validOrZero_of _ _ _ _ _ _ _ _ _ HO).mono ?_
    rintro e w2 ⟨rfl, hb2⟩
    have hq2 : Below w.heap.size w w2 := below_keep hb2 hq1
    have g0 := ow4_keep hb2 f0
    obtain ⟨c0, c1, c2, c3, c4, c5, c6, c7⟩ := g0
    clear hb2 f0 hq1 HO
    go_wp2
    exact bodyPost_ret (v := .agg #[.int .i64 a, .int .i64 b, .int .i64 c, .int .i64 d]) (by simp [results, Try.results26, go_sem, c0, c1, c2, c3]) rfl ⟨rfl, set4 hq2 (by omega)⟩

set_option maxHeartbeats 1000000 in
theorem rinfl_of (x y z u n a b c d : Int) (w : World) (hm : Hid (infl x y z u n = (a, b, c, d))) :
    Calls Try.prog 27 #[.agg #[.int .i64 x, .int .i64 y, .int .i64 z, .int .i64 u], .int .i64 n] w fun e w' => e = .returned (.agg #[.int .i64 a, .int .i64 b, .int .i64 c, .int .i64 d]) ∧ Below w.heap.size w w' := by
  obtain ⟨p, hp⟩ : ∃ v, bvld x y z u = v := ⟨_, rfl⟩
  have HP := Lib.hid hp
  cases p
  · obtain ⟨rfl, rfl, rfl, rfl⟩ := infl_no hp hm.out
    clear hp hm
    go_enter Try.func27, Try.ntmps27
    go_wp2_with fail
    refine (rvalid_of _ _ _ _ _ _ HP).mono ?_
    rintro e w1 ⟨rfl, hb1⟩
    have hq1 := below_keep hb1 (al2 ..)
    have f0 : ow4 w1 (w.heap.size + 1) 0 0 0 0 := by simpa using ow4_keep hb1 (ow4_new (w.alloc (.cells #[.int .i64 x, .int .i64 y, .int .i64 z, .int .i64 u] 23)) 0 0 0 0 23)
    obtain ⟨c0, c1, c2, c3, c4, c5, c6, c7⟩ := f0
    clear hb1
    go_wp2
    exact bodyPost_ret (v := .agg #[.int .i64 0, .int .i64 0, .int .i64 0, .int .i64 0]) (by simp [results, Try.results27, go_sem, c0, c1, c2, c3]) rfl ⟨rfl, set4 hq1 (by omega)⟩
  · have HO := infl_yes hp hm.out
    by_cases hr : n < -536870912 ∨ 536870912 < n
    · rw [orZero_far _ _ _ _ (bvld_far _ _ _ _ (by rw [bvld_iff] at hp; omega))] at HO
      simp only [Prod.mk.injEq] at HO
      obtain ⟨rfl, rfl, rfl, rfl⟩ := HO
      clear hp hm
      rcases hr with hr | hr
      all_goals
        go_enter Try.func27, Try.ntmps27
        go_wp2_with fail
        refine (rvalid_of _ _ _ _ _ _ HP).mono ?_
        rintro e w1 ⟨rfl, hb1⟩
        have hq1 := below_keep hb1 (al2 ..)
        have f0 : ow4 w1 (w.heap.size + 1) 0 0 0 0 := by simpa using ow4_keep hb1 (ow4_new (w.alloc (.cells #[.int .i64 x, .int .i64 y, .int .i64 z, .int .i64 u] 23)) 0 0 0 0 23)
        obtain ⟨c0, c1, c2, c3, c4, c5, c6, c7⟩ := f0
        clear hb1
        go_wp2
        exact bodyPost_ret (v := .agg #[.int .i64 0, .int .i64 0, .int .i64 0, .int .i64 0]) (by simp [results, Try.results27, go_sem, c0, c1, c2, c3]) rfl ⟨rfl, set4 hq1 (by omega)⟩
    · have hr0 : -536870912 ≤ n := by omega
      have hr1 : n ≤ 536870912 := by omega
      rw [bvld_iff] at hp
      obtain ⟨x1, x2, x3, x4, x5, x6⟩ := hp
      clear hr hm
      obtain ⟨v, hv⟩ : ∃ v, bvld (x - n) (y - n) (z + n) (u + n) = v := ⟨_, rfl⟩
      have HV := Lib.hid hv
      cases v
      · obtain ⟨rfl, rfl, rfl, rfl⟩ := orZero_no hv HO
        clear hv HO
        go_enter Try.func27, Try.ntmps27
        go_wp2_with fail
        refine (rvalid_of _ _ _ _ _ _ HP).mono ?_
        rintro e w1 ⟨rfl, hb1⟩
        have hq1 := below_keep hb1 (al2 ..)
        have f0 : ow4 w1 (w.heap.size + 1) 0 0 0 0 := by simpa using ow4_keep hb1 (ow4_new (w.alloc (.cells #[.int .i64 x, .int .i64 y, .int .i64 z, .int .i64 u] 23)) 0 0 0 0 23)
        have f1 := at4_keep hb1 (at4_keep (al1 ..) (at4_new w x y z u 23))
        obtain ⟨e0, e1, e2, e3⟩ := f1
        clear hb1
        go_wp2_with fail
        refine (rvalid_of _ _ _ _ _ _ HV).mono ?_
        rintro e w2 ⟨rfl, hb2⟩
        have hq2 : Below w.heap.size w w2 := below_keep hb2 (below_keep (al1 ..) hq1)
        have g0 := ow4_keep hb2 (ow4_keep (al1 ..) f0)
        obtain ⟨c0, c1, c2, c3, c4, c5, c6, c7⟩ := g0
        clear hb2 f0 hq1
        go_wp2
        exact bodyPost_ret (v := .agg #[.int .i64 0, .int .i64 0, .int .i64 0, .int .i64 0]) (by simp [results, Try.results27, go_sem, c0, c1, c2, c3]) rfl ⟨rfl, set4 hq2 (by omega)⟩
      · obtain ⟨rfl, rfl, rfl, rfl⟩ := orZero_yes hv HO
        clear hv HO
        go_enter Try.func27, Try.ntmps27
        go_wp2_with fail
        refine (rvalid_of _ _ _ _ _ _ HP).mono ?_
        rintro e w1 ⟨rfl, hb1⟩
        have hq1 := below_keep hb1 (al2 ..)
        have f0 : ow4 w1 (w.heap.size + 1) 0 0 0 0 := by simpa using ow4_keep hb1 (ow4_new (w.alloc (.cells #[.int .i64 x, .int .i64 y, .int .i64 z, .int .i64 u] 23)) 0 0 0 0 23)
        have f1 := at4_keep hb1 (at4_keep (al1 ..) (at4_new w x y z u 23))
        obtain ⟨e0, e1, e2, e3⟩ := f1
        clear hb1
        go_wp2_with fail
        refine (rvalid_of _ _ _ _ _ _ HV).mono ?_
        rintro e w2 ⟨rfl, hb2⟩
        have hq2 : Below w.heap.size w w2 := below_keep hb2 (below_keep (al1 ..) hq1)
        have g0 := ow4_keep hb2 (ow4_keep (al1 ..) f0)
        have g1 := at4_keep hb2 (at4_new w1 (x - n) (y - n) (z + n) (u + n) 23)
        obtain ⟨c0, c1, c2, c3, c4, c5, c6, c7⟩ := g0
        obtain ⟨d0, d1, d2, d3⟩ := g1
        clear hb2 f0 hq1
        go_wp2
        exact bodyPost_ret (v := .agg #[.int .i64 (x - n), .int .i64 (y - n), .int .i64 (z + n), .int .i64 (u + n)]) (by simp [results, Try.results27, go_sem, c0, c1, c2, c3]) rfl ⟨rfl, set4 hq2 (by omega)⟩
end Go.Proofs.Ytifliljlacmmlaa
