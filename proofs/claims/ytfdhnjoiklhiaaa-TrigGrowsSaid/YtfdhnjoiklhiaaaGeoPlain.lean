/-
  Plain facts on points and segments of layer 2: validity, orientation, distance, points on segments, crossing and meeting. No program is named here; no condition.
-/
namespace Go.Proofs.Ytfdhnjoiklhiaaa

/-- n lies between a and b, in either order. -/
def btw (n a b : Int) : Bool := decide (min a b ≤ n) && decide (n ≤ max a b)
/-- A valid point. -/
def vld (x y : Int) : Bool := decide (-268435456 ≤ x ∧ x ≤ 268435456 ∧ -268435456 ≤ y ∧ y ≤ 268435456)
/-- The sign of a number. -/
def sgn (n : Int) : Int := if n < 0 then -1 else if 0 < n then 1 else 0
/-- Twice the area of the triangle a, b, c, with a sign. -/
def area (a1 a2 b1 b2 c1 c2 : Int) : Int := (b1 - a1) * (c2 - a2) - (b2 - a2) * (c1 - a1)
/-- The orientation of three valid points. -/
def side (a1 a2 b1 b2 c1 c2 : Int) : Int := sgn (area a1 a2 b1 b2 c1 c2)
def vld3 (a1 a2 b1 b2 c1 c2 : Int) : Bool := vld a1 a2 && vld b1 b2 && vld c1 c2
def vld4 (a1 a2 b1 b2 c1 c2 d1 d2 : Int) : Bool := vld a1 a2 && vld b1 b2 && vld c1 c2 && vld d1 d2
def orient (a1 a2 b1 b2 c1 c2 : Int) : Int := if vld3 a1 a2 b1 b2 c1 c2 then side a1 a2 b1 b2 c1 c2 else 0
def dist (a1 a2 b1 b2 : Int) : Int := if vld a1 a2 && vld b1 b2 then max (a1 - b1) (b1 - a1) + max (a2 - b2) (b2 - a2) else 0
/-- The valid point p lies on the valid segment from a to b. -/
def has (a1 a2 b1 b2 p1 p2 : Int) : Bool := decide (side a1 a2 b1 b2 p1 p2 = 0) && btw p1 a1 b1 && btw p2 a2 b2
def on (p1 p2 a1 a2 b1 b2 : Int) : Bool := vld3 p1 p2 a1 a2 b1 b2 && has a1 a2 b1 b2 p1 p2
/-- The line through a and b separates c and d. -/
def sep (a1 a2 b1 b2 c1 c2 d1 d2 : Int) : Bool := decide (side a1 a2 b1 b2 c1 c2 * side a1 a2 b1 b2 d1 d2 < 0)
def crs (a1 a2 b1 b2 c1 c2 d1 d2 : Int) : Bool := sep a1 a2 b1 b2 c1 c2 d1 d2 && sep c1 c2 d1 d2 a1 a2 b1 b2
def cross (a1 a2 b1 b2 c1 c2 d1 d2 : Int) : Bool := vld4 a1 a2 b1 b2 c1 c2 d1 d2 && crs a1 a2 b1 b2 c1 c2 d1 d2
def meet (a1 a2 b1 b2 c1 c2 d1 d2 : Int) : Bool :=
  vld4 a1 a2 b1 b2 c1 c2 d1 d2 && (crs a1 a2 b1 b2 c1 c2 d1 d2 || has a1 a2 b1 b2 c1 c2 || has a1 a2 b1 b2 d1 d2 || has c1 c2 d1 d2 a1 a2 || has c1 c2 d1 d2 b1 b2)

theorem btw_of (n a b : Int) : btw n a b = decide (min a b ≤ n ∧ n ≤ max a b) := by unfold btw; rw [Bool.decide_and]
theorem btw_eq (n a b : Int) : btw n a b = true ↔ (a ≤ n ∨ b ≤ n) ∧ (n ≤ a ∨ n ≤ b) := by rw [btw_of]; simp only [decide_eq_true_eq]; omega
theorem vld_iff (x y : Int) : vld x y = true ↔ -268435456 ≤ x ∧ x ≤ 268435456 ∧ -268435456 ≤ y ∧ y ≤ 268435456 := by unfold vld; simp
theorem vld_btw (x y : Int) : vld x y = (btw x (-268435456) 268435456 && btw y (-268435456) 268435456) := by
  rw [Bool.eq_iff_iff, vld_iff, Bool.and_eq_true, btw_eq, btw_eq]; omega
theorem sgn_range (n : Int) : -1 ≤ sgn n ∧ sgn n ≤ 1 := by unfold sgn; split <;> (try split) <;> omega
theorem side_range (a1 a2 b1 b2 c1 c2 : Int) : -1 ≤ side a1 a2 b1 b2 c1 c2 ∧ side a1 a2 b1 b2 c1 c2 ≤ 1 := sgn_range _
theorem sgn_neg (n : Int) : sgn (-n) = -sgn n := by unfold sgn; split <;> split <;> (try split) <;> omega
theorem area_turn (a1 a2 b1 b2 c1 c2 : Int) : area b1 b2 c1 c2 a1 a2 = area a1 a2 b1 b2 c1 c2 := by unfold area; grind
theorem area_swap (a1 a2 b1 b2 c1 c2 : Int) : area b1 b2 a1 a2 c1 c2 = -area a1 a2 b1 b2 c1 c2 := by unfold area; grind
theorem side_turn (a1 a2 b1 b2 c1 c2 : Int) : side b1 b2 c1 c2 a1 a2 = side a1 a2 b1 b2 c1 c2 := by unfold side; rw [area_turn]
theorem side_swap (a1 a2 b1 b2 c1 c2 : Int) : side b1 b2 a1 a2 c1 c2 = -side a1 a2 b1 b2 c1 c2 := by unfold side; rw [area_swap, sgn_neg]
theorem orient_turn (a1 a2 b1 b2 c1 c2 : Int) : orient b1 b2 c1 c2 a1 a2 = orient a1 a2 b1 b2 c1 c2 := by
  unfold orient vld3; rw [side_turn]; cases vld a1 a2 <;> cases vld b1 b2 <;> cases vld c1 c2 <;> rfl
theorem orient_swap (a1 a2 b1 b2 c1 c2 : Int) : orient b1 b2 a1 a2 c1 c2 = -orient a1 a2 b1 b2 c1 c2 := by
  unfold orient vld3; rw [side_swap]; cases vld a1 a2 <;> cases vld b1 b2 <;> cases vld c1 c2 <;> rfl
theorem orient_range (a1 a2 b1 b2 c1 c2 : Int) : -1 ≤ orient a1 a2 b1 b2 c1 c2 ∧ orient a1 a2 b1 b2 c1 c2 ≤ 1 := by
  unfold orient; split
  · exact side_range ..
  · omega
theorem dist_comm (a1 a2 b1 b2 : Int) : dist b1 b2 a1 a2 = dist a1 a2 b1 b2 := by
  unfold dist; rw [Bool.and_comm, Int.max_comm (b1 - a1), Int.max_comm (b2 - a2)]
theorem dist_range (a1 a2 b1 b2 : Int) : 0 ≤ dist a1 a2 b1 b2 ∧ dist a1 a2 b1 b2 ≤ 1073741824 := by
  unfold dist; split
  · rename_i h; rw [Bool.and_eq_true, vld_iff, vld_iff] at h; omega
  · omega
theorem dist_valid (a1 a2 b1 b2 : Int) (ha : vld a1 a2 = true) (hb : vld b1 b2 = true) : dist a1 a2 b1 b2 = max (a1 - b1) (b1 - a1) + max (a2 - b2) (b2 - a2) := by
  unfold dist; rw [ha, hb]; rfl
theorem dist_three (a1 a2 b1 b2 c1 c2 : Int) (ha : vld a1 a2 = true) (hb : vld b1 b2 = true) (hc : vld c1 c2 = true) : dist a1 a2 c1 c2 ≤ dist a1 a2 b1 b2 + dist b1 b2 c1 c2 := by
  rw [dist_valid _ _ _ _ ha hb, dist_valid _ _ _ _ hb hc, dist_valid _ _ _ _ ha hc]; omega
theorem dist_zero (a1 a2 b1 b2 : Int) (ha : vld a1 a2 = true) (hb : vld b1 b2 = true) : dist a1 a2 b1 b2 = 0 ↔ a1 = b1 ∧ a2 = b2 := by
  rw [dist_valid _ _ _ _ ha hb]; omega
theorem dist_on (a1 a2 b1 b2 c1 c2 : Int) (ha : vld a1 a2 = true) (hb : vld b1 b2 = true) (hc : vld c1 c2 = true) (h : on b1 b2 a1 a2 c1 c2 = true) : dist a1 a2 b1 b2 + dist b1 b2 c1 c2 = dist a1 a2 c1 c2 := by
  rw [dist_valid _ _ _ _ ha hb, dist_valid _ _ _ _ hb hc, dist_valid _ _ _ _ ha hc]
  unfold on has at h
  simp only [Bool.and_eq_true, btw_eq] at h
  omega
theorem btw_comm (n a b : Int) : btw n b a = btw n a b := by rw [Bool.eq_iff_iff, btw_eq, btw_eq]; omega
theorem has_back (a1 a2 b1 b2 p1 p2 : Int) : has b1 b2 a1 a2 p1 p2 = has a1 a2 b1 b2 p1 p2 := by
  unfold has; rw [side_swap, btw_comm p1, btw_comm p2, show decide (-side a1 a2 b1 b2 p1 p2 = 0) = decide (side a1 a2 b1 b2 p1 p2 = 0) by rw [decide_eq_decide]; omega]
theorem sep_back (a1 a2 b1 b2 c1 c2 d1 d2 : Int) : sep b1 b2 a1 a2 c1 c2 d1 d2 = sep a1 a2 b1 b2 c1 c2 d1 d2 := by
  unfold sep; rw [side_swap, side_swap a1 a2 b1 b2 d1 d2, Int.neg_mul_neg]
theorem sep_ends (a1 a2 b1 b2 c1 c2 d1 d2 : Int) : sep a1 a2 b1 b2 d1 d2 c1 c2 = sep a1 a2 b1 b2 c1 c2 d1 d2 := by
  unfold sep; rw [Int.mul_comm]
theorem crs_comm (a1 a2 b1 b2 c1 c2 d1 d2 : Int) : crs c1 c2 d1 d2 a1 a2 b1 b2 = crs a1 a2 b1 b2 c1 c2 d1 d2 := by
  unfold crs; rw [Bool.and_comm]
theorem crs_back (a1 a2 b1 b2 c1 c2 d1 d2 : Int) : crs b1 b2 a1 a2 c1 c2 d1 d2 = crs a1 a2 b1 b2 c1 c2 d1 d2 := by
  unfold crs; rw [sep_back, sep_ends c1 c2 d1 d2 a1 a2 b1 b2]
theorem vld4_comm (a1 a2 b1 b2 c1 c2 d1 d2 : Int) : vld4 c1 c2 d1 d2 a1 a2 b1 b2 = vld4 a1 a2 b1 b2 c1 c2 d1 d2 := by
  unfold vld4; cases vld a1 a2 <;> cases vld b1 b2 <;> cases vld c1 c2 <;> cases vld d1 d2 <;> rfl
theorem vld4_back (a1 a2 b1 b2 c1 c2 d1 d2 : Int) : vld4 b1 b2 a1 a2 c1 c2 d1 d2 = vld4 a1 a2 b1 b2 c1 c2 d1 d2 := by
  unfold vld4; rw [Bool.and_comm (vld b1 b2)]
theorem cross_comm (a1 a2 b1 b2 c1 c2 d1 d2 : Int) : cross c1 c2 d1 d2 a1 a2 b1 b2 = cross a1 a2 b1 b2 c1 c2 d1 d2 := by
  unfold cross; rw [vld4_comm, crs_comm]
theorem cross_back (a1 a2 b1 b2 c1 c2 d1 d2 : Int) : cross b1 b2 a1 a2 c1 c2 d1 d2 = cross a1 a2 b1 b2 c1 c2 d1 d2 := by
  unfold cross; rw [vld4_back, crs_back]
theorem meet_comm (a1 a2 b1 b2 c1 c2 d1 d2 : Int) : meet c1 c2 d1 d2 a1 a2 b1 b2 = meet a1 a2 b1 b2 c1 c2 d1 d2 := by
  unfold meet; rw [vld4_comm, crs_comm]
  cases crs a1 a2 b1 b2 c1 c2 d1 d2 <;> cases has a1 a2 b1 b2 c1 c2 <;> cases has a1 a2 b1 b2 d1 d2 <;> cases has c1 c2 d1 d2 a1 a2 <;> cases has c1 c2 d1 d2 b1 b2 <;> rfl
theorem meet_back (a1 a2 b1 b2 c1 c2 d1 d2 : Int) : meet b1 b2 a1 a2 c1 c2 d1 d2 = meet a1 a2 b1 b2 c1 c2 d1 d2 := by
  unfold meet; rw [vld4_back, crs_back, has_back, has_back a1 a2 b1 b2 d1 d2]
  cases crs a1 a2 b1 b2 c1 c2 d1 d2 <;> cases has a1 a2 b1 b2 c1 c2 <;> cases has a1 a2 b1 b2 d1 d2 <;> cases has c1 c2 d1 d2 a1 a2 <;> cases has c1 c2 d1 d2 b1 b2 <;> rfl
theorem cross_meet (a1 a2 b1 b2 c1 c2 d1 d2 : Int) (h : cross a1 a2 b1 b2 c1 c2 d1 d2 = true) : meet a1 a2 b1 b2 c1 c2 d1 d2 = true := by
  unfold cross at h; unfold meet; simp only [Bool.and_eq_true] at h; rw [h.1, h.2]; rfl
/-- The products of coordinates of valid points stay small. -/
theorem mul_small (x y : Int) (hx0 : -536870912 ≤ x) (hx1 : x ≤ 536870912) (hy0 : -536870912 ≤ y) (hy1 : y ≤ 536870912) : -288230376151711744 ≤ x * y ∧ x * y ≤ 288230376151711744 := by
  have h1 : 0 ≤ (536870912 - x) * (536870912 - y) := Int.mul_nonneg (by omega) (by omega)
  have h2 : 0 ≤ (536870912 + x) * (536870912 + y) := Int.mul_nonneg (by omega) (by omega)
  have h3 : 0 ≤ (536870912 - x) * (536870912 + y) := Int.mul_nonneg (by omega) (by omega)
  have h4 : 0 ≤ (536870912 + x) * (536870912 - y) := Int.mul_nonneg (by omega) (by omega)
  simp only [Int.sub_mul, Int.add_mul, Int.mul_sub, Int.mul_add] at h1 h2 h3 h4
  omega
end Go.Proofs.Ytfdhnjoiklhiaaa
