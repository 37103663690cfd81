/-
  Plain facts on the sines of whole degrees (layer 5): the table, the angle from 0 to 359, symmetry, the rounded parts of a radius. No program is named here; no condition.
-/
import Derived.Test.YtfdhnjoiklhiaaaGeoPlain
namespace Go.Proofs.Ytfdhnjoiklhiaaa

/-- The sines of 0 to 90 degrees. -/
def sinL : List Int := [0, 175, 349, 523, 698, 872, 1045, 1219, 1392, 1564, 1736, 1908, 2079, 2250, 2419, 2588, 2756, 2924, 3090, 3256, 3420, 3584, 3746, 3907, 4067, 4226, 4384, 4540, 4695, 4848, 5000, 5150, 5299, 5446, 5592, 5736, 5878, 6018, 6157, 6293, 6428, 6561, 6691, 6820, 6947, 7071, 7193, 7314, 7431, 7547, 7660, 7771, 7880, 7986, 8090, 8192, 8290, 8387, 8480, 8572, 8660, 8746, 8829, 8910, 8988, 9063, 9135, 9205, 9272, 9336, 9397, 9455, 9511, 9563, 9613, 9659, 9703, 9744, 9781, 9816, 9848, 9877, 9903, 9925, 9945, 9962, 9976, 9986, 9994, 9998, 10000]
def sinT (k : Int) : Int := sinL.getD k.toNat 0
/-- The sine of an angle from 0 to 359. -/
def sinR (k : Int) : Int := if 180 < k then -(if 270 < k then sinT (360 - k) else sinT (k - 180)) else if 90 < k then sinT (180 - k) else sinT k
def sinD (d : Int) : Int := sinR (d % 360)
def cosD (d : Int) : Int := sinR ((d % 360 + 90) % 360)

/-- What holds at each of the 360 angles. -/
def sinOk (n : Nat) : Bool :=
  decide (sinR ((360 - (n : Int)) % 360) = -sinR n) && decide (sinR (((360 - (n : Int)) % 360 + 90) % 360) = sinR (((n : Int) + 90) % 360)) &&
  decide (sinR (((n : Int) + 180) % 360) = -sinR n) && decide (-10000 ≤ sinR n ∧ sinR n ≤ 10000) &&
  decide (-15000 ≤ sinR n * sinR n + sinR (((n : Int) + 90) % 360) * sinR (((n : Int) + 90) % 360) - 100000000 ∧ sinR n * sinR n + sinR (((n : Int) + 90) % 360) * sinR (((n : Int) + 90) % 360) - 100000000 ≤ 15000)
theorem sinOk_all : (List.range 360).all sinOk = true := by decide +kernel
theorem sinOk_at (n : Nat) (h : n < 360) : sinOk n = true := List.all_eq_true.1 sinOk_all n (List.mem_range.2 h)
theorem ang (d : Int) : ∃ n : Nat, n < 360 ∧ d % 360 = n := ⟨(d % 360).toNat, by omega, by omega⟩

theorem sinL_len : sinL.length = 91 := rfl
theorem sin_neg (d : Int) : sinD (-d) = -sinD d := by
  obtain ⟨n, hn, h⟩ := ang d
  have e := sinOk_at n hn
  simp only [sinOk, Bool.and_eq_true, decide_eq_true_eq] at e
  unfold sinD
  rw [show (-d) % 360 = (360 - (n : Int)) % 360 by omega, h]
  exact e.1.1.1.1
theorem cos_neg (d : Int) : cosD (-d) = cosD d := by
  obtain ⟨n, hn, h⟩ := ang d
  have e := sinOk_at n hn
  simp only [sinOk, Bool.and_eq_true, decide_eq_true_eq] at e
  unfold cosD
  rw [show (-d) % 360 = (360 - (n : Int)) % 360 by omega, h]
  exact e.1.1.1.2
theorem sin_half (d : Int) : sinD (d + 180) = -sinD d := by
  obtain ⟨n, hn, h⟩ := ang d
  have e := sinOk_at n hn
  simp only [sinOk, Bool.and_eq_true, decide_eq_true_eq] at e
  unfold sinD
  rw [show (d + 180) % 360 = ((n : Int) + 180) % 360 by omega, h]
  exact e.1.1.2
theorem sin_quarter (d : Int) : sinD (d + 90) = cosD d := by
  unfold sinD cosD; rw [show (d + 90) % 360 = (d % 360 + 90) % 360 by omega]
theorem cos_half (d : Int) : cosD (d + 180) = -cosD d := by
  rw [← sin_quarter, ← sin_quarter, show d + 180 + 90 = d + 90 + 180 by omega, sin_half]
theorem sin_range (d : Int) : -10000 ≤ sinD d ∧ sinD d ≤ 10000 := by
  obtain ⟨n, hn, h⟩ := ang d
  have e := sinOk_at n hn
  simp only [sinOk, Bool.and_eq_true, decide_eq_true_eq] at e
  unfold sinD
  rw [h]
  exact e.1.2
theorem cos_range (d : Int) : -10000 ≤ cosD d ∧ cosD d ≤ 10000 := by rw [← sin_quarter]; exact sin_range _
theorem sin_one (d : Int) : -15000 ≤ sinD d * sinD d + cosD d * cosD d - 100000000 ∧ sinD d * sinD d + cosD d * cosD d - 100000000 ≤ 15000 := by
  obtain ⟨n, hn, h⟩ := ang d
  have e := sinOk_at n hn
  simp only [sinOk, Bool.and_eq_true, decide_eq_true_eq] at e
  unfold sinD cosD
  rw [h]
  exact e.2
/-- The angle as Go reckons it. -/
theorem ang_go (d : Int) : (d.tmod 360 + 360).tmod 360 = d % 360 := by
  rcases Int.lt_or_le d 0 with h | h
  · have e : d.tmod 360 = -((-d) % 360) := by rw [show d = -(-d) by omega, Int.neg_tmod, Int.tmod_eq_emod_of_nonneg (by omega)]; omega
    rw [e, Int.tmod_eq_emod_of_nonneg (by omega)]; omega
  · rw [Int.tmod_eq_emod_of_nonneg h, Int.tmod_eq_emod_of_nonneg (by omega)]; omega
/-- The other way to reckon it: divide, and add 360 to what is negative. -/
theorem ang_if (d : Int) : (if d.tmod 360 < 0 then d.tmod 360 + 360 else d.tmod 360) = d % 360 := by
  rcases Int.lt_or_le d 0 with h | h
  · have e : d.tmod 360 = -((-d) % 360) := by rw [show d = -(-d) by omega, Int.neg_tmod, Int.tmod_eq_emod_of_nonneg (by omega)]; omega
    rw [e]; split <;> omega
  · rw [Int.tmod_eq_emod_of_nonneg h]; split <;> omega
theorem ang_range (d : Int) : 0 ≤ d % 360 ∧ d % 360 < 360 := by omega
theorem tmod_range (d : Int) : -360 < d.tmod 360 ∧ d.tmod 360 < 360 := by
  rcases Int.lt_or_le d 0 with h | h
  · have e : d.tmod 360 = -((-d) % 360) := by rw [show d = -(-d) by omega, Int.neg_tmod, Int.tmod_eq_emod_of_nonneg (by omega)]; omega
    rw [e]; omega
  · rw [Int.tmod_eq_emod_of_nonneg h]; omega

/-! ### The parts of a radius -/
/-- radius * n / 10000, rounded, half away from zero. -/
def prt (r n : Int) : Int := if n < 0 then -((r * -n + 5000) / 10000) else (r * n + 5000) / 10000
theorem prt_neg (r n : Int) : prt r (-n) = -prt r n := by
  unfold prt
  rcases Int.lt_or_le n 0 with h | h
  · rw [if_neg (by omega), if_pos h, Int.neg_neg]
  · rcases Int.lt_or_le 0 n with k | k
    · rw [if_pos (by omega), if_neg (by omega), Int.neg_neg]
    · have : n = 0 := by omega
      subst this
      simp
theorem mul_le (r n : Int) (hr : 0 ≤ r) (hn : 0 ≤ n) (h : n ≤ 10000) : 0 ≤ r * n ∧ r * n ≤ r * 10000 := ⟨Int.mul_nonneg hr hn, Int.mul_le_mul_of_nonneg_left h hr⟩
theorem prt_nn (r n : Int) (hr : 0 ≤ r) (hn : 0 ≤ n) (h : n ≤ 10000) : 0 ≤ prt r n ∧ prt r n ≤ r := by
  have := mul_le r n hr hn h
  unfold prt
  rw [if_neg (by omega)]
  omega
theorem prt_range (r n : Int) (hr : 0 ≤ r) (h0 : -10000 ≤ n) (h : n ≤ 10000) : -r ≤ prt r n ∧ prt r n ≤ r := by
  rcases Int.lt_or_le n 0 with k | k
  · have := prt_nn r (-n) hr (by omega) (by omega)
    rw [prt_neg] at this
    omega
  · have := prt_nn r n hr k h
    omega
/-- The absolute value. -/
def absI (n : Int) : Int := if n < 0 then -n else n
theorem absI_neg (n : Int) : absI (-n) = absI n := by unfold absI; split <;> split <;> omega
theorem prt_mono (a b n : Int) (ha : 0 ≤ a) (hb : a ≤ b) (h0 : -10000 ≤ n) (h : n ≤ 10000) : absI (prt a n) ≤ absI (prt b n) := by
  have key : ∀ m : Int, 0 ≤ m → m ≤ 10000 → absI (prt a m) ≤ absI (prt b m) := by
    intro m m0 m1
    have p := prt_nn a m ha m0 m1
    have q := prt_nn b m (by omega) m0 m1
    have e : a * m ≤ b * m := Int.mul_le_mul_of_nonneg_right hb m0
    unfold absI
    rw [if_neg (by omega), if_neg (by omega)]
    unfold prt
    rw [if_neg (by omega), if_neg (by omega)]
    omega
  rcases Int.lt_or_le n 0 with k | k
  · have := key (-n) (by omega) (by omega)
    rw [prt_neg, prt_neg, absI_neg, absI_neg] at this
    exact this
  · exact key n k h
theorem absI_prt (r n : Int) (hr : 0 ≤ r) (h0 : -10000 ≤ n) (h : n ≤ 10000) : absI (prt r n) ≤ r := by
  have := prt_range r n hr h0 h
  unfold absI; split <;> omega

/-- Other ways in which Go reckons a part: the quotient cut off behind the half added with the sign. -/
theorem prt_tdiv (r n : Int) (hr : 0 ≤ r) : prt r n = if r * n < 0 then (r * n - 5000).tdiv 10000 else (r * n + 5000).tdiv 10000 := by
  unfold prt
  rcases Int.lt_or_le n 0 with h | h
  · rw [if_pos h]
    have e : r * n = -(r * -n) := by rw [Int.mul_neg, Int.neg_neg]
    have p : 0 ≤ r * -n := Int.mul_nonneg hr (by omega)
    rw [e]
    generalize r * -n = q at *
    split
    · rw [show -q - 5000 = -(q + 5000) by omega, Int.neg_tdiv, Int.tdiv_eq_ediv_of_nonneg (by omega)]
    · have : q = 0 := by omega
      subst this
      rfl
  · rw [if_neg (by omega)]
    have p : 0 ≤ r * n := Int.mul_nonneg hr h
    rw [if_neg (by omega), Int.tdiv_eq_ediv_of_nonneg (by omega)]

/-! ### The point -/
/-- Center, radius and point are valid. -/
def polB (c1 c2 r d : Int) : Bool := vld c1 c2 && decide (0 ≤ r ∧ r ≤ 1048576) && vld (c1 + prt r (cosD d)) (c2 + prt r (sinD d))
def polX (c1 c2 r d : Int) : Int := if polB c1 c2 r d then c1 + prt r (cosD d) else 0
def polY (c1 c2 r d : Int) : Int := if polB c1 c2 r d then c2 + prt r (sinD d) else 0

theorem polB_near (c1 c2 r d : Int) (h1 : -1048576 ≤ c1) (h2 : c1 ≤ 1048576) (h3 : -1048576 ≤ c2) (h4 : c2 ≤ 1048576) (h5 : 0 ≤ r) (h6 : r ≤ 1048576) : polB c1 c2 r d = true := by
  have p := prt_range r (cosD d) h5 (cos_range d).1 (cos_range d).2
  have q := prt_range r (sinD d) h5 (sin_range d).1 (sin_range d).2
  unfold polB
  rw [Bool.and_eq_true, Bool.and_eq_true, vld_iff, vld_iff, decide_eq_true_eq]
  omega
theorem polX_near (c1 c2 r d : Int) (h1 : -1048576 ≤ c1) (h2 : c1 ≤ 1048576) (h3 : -1048576 ≤ c2) (h4 : c2 ≤ 1048576) (h5 : 0 ≤ r) (h6 : r ≤ 1048576) : polX c1 c2 r d = c1 + prt r (cosD d) := by
  unfold polX; rw [polB_near c1 c2 r d h1 h2 h3 h4 h5 h6]; rfl
theorem polY_near (c1 c2 r d : Int) (h1 : -1048576 ≤ c1) (h2 : c1 ≤ 1048576) (h3 : -1048576 ≤ c2) (h4 : c2 ≤ 1048576) (h5 : 0 ≤ r) (h6 : r ≤ 1048576) : polY c1 c2 r d = c2 + prt r (sinD d) := by
  unfold polY; rw [polB_near c1 c2 r d h1 h2 h3 h4 h5 h6]; rfl
theorem pol_range (c1 c2 r d : Int) : -268435456 ≤ polX c1 c2 r d ∧ polX c1 c2 r d ≤ 268435456 ∧ -268435456 ≤ polY c1 c2 r d ∧ polY c1 c2 r d ≤ 268435456 := by
  unfold polX polY
  cases h : polB c1 c2 r d
  · simp
  · unfold polB at h
    rw [Bool.and_eq_true, Bool.and_eq_true, vld_iff, vld_iff] at h
    simp only [if_true]
    exact h.2
/-- P5.4: opposite points have the center as their midpoint; with a greater radius no coordinate comes nearer. -/
theorem pol_opposite (c1 c2 r d : Int) (h1 : -1048576 ≤ c1) (h2 : c1 ≤ 1048576) (h3 : -1048576 ≤ c2) (h4 : c2 ≤ 1048576) (h5 : 0 ≤ r) (h6 : r ≤ 1048576) :
    polX c1 c2 r d + polX c1 c2 r (d + 180) = 2 * c1 ∧ polY c1 c2 r d + polY c1 c2 r (d + 180) = 2 * c2 := by
  rw [polX_near c1 c2 r d h1 h2 h3 h4 h5 h6, polY_near c1 c2 r d h1 h2 h3 h4 h5 h6, polX_near c1 c2 r _ h1 h2 h3 h4 h5 h6, polY_near c1 c2 r _ h1 h2 h3 h4 h5 h6, cos_half, sin_half, prt_neg, prt_neg]
  omega
theorem pol_grows (c1 c2 a b d : Int) (h1 : -1048576 ≤ c1) (h2 : c1 ≤ 1048576) (h3 : -1048576 ≤ c2) (h4 : c2 ≤ 1048576) (h5 : 0 ≤ a) (h : a ≤ b) (h6 : b ≤ 1048576) :
    absI (polX c1 c2 a d - c1) ≤ absI (polX c1 c2 b d - c1) ∧ absI (polY c1 c2 a d - c2) ≤ absI (polY c1 c2 b d - c2) ∧ absI (polX c1 c2 b d - c1) ≤ b ∧ absI (polY c1 c2 b d - c2) ≤ b := by
  rw [polX_near c1 c2 a d h1 h2 h3 h4 h5 (by omega), polY_near c1 c2 a d h1 h2 h3 h4 h5 (by omega), polX_near c1 c2 b d h1 h2 h3 h4 (by omega) h6, polY_near c1 c2 b d h1 h2 h3 h4 (by omega) h6]
  rw [show ∀ x y : Int, x + y - x = y by omega, show ∀ x y : Int, x + y - x = y by omega, show ∀ x y : Int, x + y - x = y by omega, show ∀ x y : Int, x + y - x = y by omega]
  exact ⟨prt_mono a b _ h5 h (cos_range d).1 (cos_range d).2, prt_mono a b _ h5 h (sin_range d).1 (sin_range d).2, absI_prt b _ (by omega) (cos_range d).1 (cos_range d).2, absI_prt b _ (by omega) (sin_range d).1 (sin_range d).2⟩
/-- The chapter's examples. -/
theorem ex_sin30 : sinD 30 = 5000 := by decide
theorem ex_sin90 : sinD (-90) = -10000 := by decide
theorem ex_cos120 : cosD 120 = -5000 := by decide
theorem ex_pol30 : polX 0 0 1000 30 = 866 ∧ polY 0 0 1000 30 = 500 := by decide
theorem ex_pol90 : polX 0 0 1000 90 = 0 ∧ polY 0 0 1000 90 = 1000 := by decide
end Go.Proofs.Ytfdhnjoiklhiaaa
