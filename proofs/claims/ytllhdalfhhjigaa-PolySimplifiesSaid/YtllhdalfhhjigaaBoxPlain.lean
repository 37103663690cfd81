/-
  Plain facts on boxes of layer 3: validity, making, center, containment, overlap, inflation, and when a segment hits a box. No program is named here; no condition.
-/
import Derived.Test.YtllhdalfhhjigaaGeoPlain
namespace Go.Proofs.Ytllhdalfhhjigaa

/-- A valid box. -/
def bvld (x y z u : Int) : Bool := vld x y && vld z u && decide (x ≤ z) && decide (y ≤ u)
theorem bvld_iff (x y z u : Int) : bvld x y z u = true ↔ -268435456 ≤ x ∧ x ≤ z ∧ z ≤ 268435456 ∧ -268435456 ≤ y ∧ y ≤ u ∧ u ≤ 268435456 := by
  unfold bvld; simp only [Bool.and_eq_true, vld_iff, decide_eq_true_eq]; omega
/-- Has an interior. -/
def inr (x y z u : Int) : Bool := decide (x < z) && decide (y < u)
theorem inr_iff (x y z u : Int) : inr x y z u = true ↔ x < z ∧ y < u := by unfold inr; simp
/-- A size of a box to be made. -/
def siz (n : Int) : Bool := decide (0 ≤ n ∧ n ≤ 1048576)
theorem siz_iff (n : Int) : siz n = true ↔ 0 ≤ n ∧ n ≤ 1048576 := by unfold siz; simp
def center (x y z u : Int) : Int × Int := if bvld x y z u then ((x + z) / 2, (y + u) / 2) else (0, 0)
def orZero (x y z u : Int) : Int × Int × Int × Int := if bvld x y z u then (x, y, z, u) else (0, 0, 0, 0)
def mk (c d w h : Int) : Int × Int × Int × Int := if vld c d && siz w && siz h then orZero (c - w / 2) (d - h / 2) (c - w / 2 + w) (d - h / 2 + h) else (0, 0, 0, 0)
def within (x y z u p q : Int) : Bool := decide (x ≤ p) && decide (p ≤ z) && decide (y ≤ q) && decide (q ≤ u)
def cont (x y z u p q : Int) : Bool := bvld x y z u && vld p q && within x y z u p q
def insd (a b c d x y z u : Int) : Bool := bvld a b c d && cont x y z u a b && cont x y z u c d
def ovl (a b c d x y z u : Int) : Bool := bvld a b c d && bvld x y z u && inr (max a x) (max b y) (min c z) (min d u)
def infl (x y z u n : Int) : Int × Int × Int × Int := if bvld x y z u then orZero (x - n) (y - n) (z + n) (u + n) else (0, 0, 0, 0)

theorem max_sw (a b : Int) : max b a = max a b := Int.max_comm b a
theorem min_sw (a b : Int) : min b a = min a b := Int.min_comm b a
theorem ovl_comm (a b c d x y z u : Int) : ovl x y z u a b c d = ovl a b c d x y z u := by
  unfold ovl; rw [max_sw a x, max_sw b y, min_sw c z, min_sw d u, Bool.and_comm (bvld x y z u)]
theorem orZero_cases (x y z u : Int) {a b c d : Int} (h : orZero x y z u = (a, b, c, d)) : (bvld x y z u = true ∧ a = x ∧ b = y ∧ c = z ∧ d = u) ∨ (a = 0 ∧ b = 0 ∧ c = 0 ∧ d = 0) := by
  unfold orZero at h
  split at h
  · rename_i hb; simp only [Prod.mk.injEq] at h; exact Or.inl ⟨hb, h.1.symm, h.2.1.symm, h.2.2.1.symm, h.2.2.2.symm⟩
  · simp only [Prod.mk.injEq] at h; exact Or.inr ⟨h.1.symm, h.2.1.symm, h.2.2.1.symm, h.2.2.2.symm⟩
/-- The center of a box that is made is the given point, and its sides are as long as asked. -/
theorem mk_cases (c d w h : Int) {x y z u : Int} (hm : mk c d w h = (x, y, z, u)) : (x = 0 ∧ y = 0 ∧ z = 0 ∧ u = 0) ∨ (center x y z u = (c, d) ∧ z - x = w ∧ u - y = h) := by
  unfold mk at hm
  split at hm
  · rename_i hg
    simp only [Bool.and_eq_true, vld_iff, siz_iff] at hg
    rcases orZero_cases _ _ _ _ hm with ⟨hb, rfl, rfl, rfl, rfl⟩ | h0
    · refine Or.inr ⟨?_, by omega, by omega⟩
      unfold center
      rw [if_pos hb]
      simp only [Prod.mk.injEq]
      omega
    · exact Or.inl h0
  · simp only [Prod.mk.injEq] at hm; exact Or.inl ⟨hm.1.symm, hm.2.1.symm, hm.2.2.1.symm, hm.2.2.2.symm⟩
theorem mk_range (c d w h : Int) {x y z u : Int} (hm : mk c d w h = (x, y, z, u)) : -268435456 ≤ x ∧ x ≤ z ∧ z ≤ 268435456 ∧ -268435456 ≤ y ∧ y ≤ u ∧ u ≤ 268435456 := by
  unfold mk at hm
  split at hm
  · rcases orZero_cases _ _ _ _ hm with ⟨hb, rfl, rfl, rfl, rfl⟩ | ⟨rfl, rfl, rfl, rfl⟩
    · exact (bvld_iff _ _ _ _).1 hb
    · omega
  · simp only [Prod.mk.injEq] at hm; omega

/-- Opposite signs. -/
def opp (m n : Int) : Prop := (m < 0 ∧ 0 < n) ∨ (0 < m ∧ n < 0)
theorem sgn_opp (m n : Int) : sgn m * sgn n < 0 ↔ opp m n := by
  unfold sgn opp
  by_cases h1 : m < 0 <;> by_cases h2 : 0 < m <;> by_cases h3 : n < 0 <;> by_cases h4 : 0 < n <;> simp [h1, h2, h3, h4] <;> omega
/-- Hitting, of the segment from the origin to (dx, dy) and the box (p, r, q, s). -/
def hitC (dx dy p q r s : Int) : Prop :=
  (p < q ∧ r < s) ∧ (min 0 dx < q ∧ p < max 0 dx ∧ min 0 dy < s ∧ r < max 0 dy) ∧ ((dx = 0 ∧ dy = 0) ∨ opp (dx * r - dy * p) (dx * s - dy * q) ∨ opp (dx * s - dy * p) (dx * r - dy * q))
def hitR (dx dy p q r s : Int) : Prop :=
  ((0 < dx ∨ (p < 0 ∧ 0 < q)) ∧ (dx = 0 ∨ (p < q ∧ p < dx ∧ 0 < q))) ∧ ((0 < dy ∨ (r < 0 ∧ 0 < s)) ∧ (dy = 0 ∨ (r < s ∧ r < dy ∧ 0 < s))) ∧ (dx = 0 ∨ dy = 0 ∨ (p * dy < s * dx ∧ r * dx < q * dy))
theorem hit_core (dx dy p q r s : Int) (h0 : 0 ≤ dx) (h1 : 0 ≤ dy) : hitC dx dy p q r s ↔ hitR dx dy p q r s := by
  unfold hitC hitR opp
  rw [Int.mul_comm p dy, Int.mul_comm s dx, Int.mul_comm r dx, Int.mul_comm q dy]
  rcases (show dx = 0 ∨ 0 < dx by omega) with rfl | hx <;> rcases (show dy = 0 ∨ 0 < dy by omega) with rfl | hy
  · simp; omega
  · have m1 : p < 0 → dy * p < 0 := fun h => Int.mul_neg_of_pos_of_neg hy h
    have m2 : 0 < q → 0 < dy * q := fun h => Int.mul_pos hy h
    have m3 : 0 ≤ p → 0 ≤ dy * p := fun h => Int.mul_nonneg h1 h
    have m4 : q ≤ 0 → dy * q ≤ 0 := fun h => Int.mul_nonpos_of_nonneg_of_nonpos h1 h
    simp only [Int.zero_mul]
    omega
  · have m1 : r < 0 → dx * r < 0 := fun h => Int.mul_neg_of_pos_of_neg hx h
    have m2 : 0 < s → 0 < dx * s := fun h => Int.mul_pos hx h
    simp only [Int.zero_mul]
    omega
  · have m1 : p < q → dy * p < dy * q := fun h => Int.mul_lt_mul_of_pos_left h hy
    have m2 : r < s → dx * r < dx * s := fun h => Int.mul_lt_mul_of_pos_left h hx
    omega
theorem opp_neg (m n : Int) : opp (-m) (-n) ↔ opp m n := by unfold opp; omega
theorem opp_comm (m n : Int) : opp n m ↔ opp m n := by unfold opp; omega
theorem hitC_flipx (dx dy p q r s : Int) : hitC (-dx) dy (-q) (-p) r s ↔ hitC dx dy p q r s := by
  unfold hitC
  rw [show -dx * r - dy * -q = -(dx * r - dy * q) by grind, show -dx * s - dy * -p = -(dx * s - dy * p) by grind, show -dx * s - dy * -q = -(dx * s - dy * q) by grind, show -dx * r - dy * -p = -(dx * r - dy * p) by grind, opp_neg, opp_neg]
  rw [opp_comm (dx * s - dy * p) (dx * r - dy * q), opp_comm (dx * r - dy * p) (dx * s - dy * q)]
  generalize opp (dx * r - dy * p) (dx * s - dy * q) = A
  generalize opp (dx * s - dy * p) (dx * r - dy * q) = B
  rw [show (min 0 (-dx) < -p ∧ -q < max 0 (-dx) ∧ min 0 dy < s ∧ r < max 0 dy) ↔ (min 0 dx < q ∧ p < max 0 dx ∧ min 0 dy < s ∧ r < max 0 dy) by omega, show (-q < -p ∧ r < s) ↔ (p < q ∧ r < s) by omega, show (-dx = 0 ∧ dy = 0) ↔ (dx = 0 ∧ dy = 0) by omega, or_comm (a := B)]
theorem hitC_flipy (dx dy p q r s : Int) : hitC dx (-dy) p q (-s) (-r) ↔ hitC dx dy p q r s := by
  unfold hitC
  rw [show dx * -s - -dy * p = -(dx * s - dy * p) by grind, show dx * -r - -dy * q = -(dx * r - dy * q) by grind, show dx * -r - -dy * p = -(dx * r - dy * p) by grind, show dx * -s - -dy * q = -(dx * s - dy * q) by grind, opp_neg, opp_neg]
  generalize opp (dx * r - dy * p) (dx * s - dy * q) = A
  generalize opp (dx * s - dy * p) (dx * r - dy * q) = B
  rw [show (min 0 dx < q ∧ p < max 0 dx ∧ min 0 (-dy) < -r ∧ -s < max 0 (-dy)) ↔ (min 0 dx < q ∧ p < max 0 dx ∧ min 0 dy < s ∧ r < max 0 dy) by omega, show (p < q ∧ -s < -r) ↔ (p < q ∧ r < s) by omega, show (dx = 0 ∧ -dy = 0) ↔ (dx = 0 ∧ dy = 0) by omega, or_comm (a := B)]

/-- The least and the greatest coordinates of the segment's box lie so that it reaches the box. -/
def rch (a1 a2 b1 b2 x y z u : Int) : Bool := decide (min a1 b1 < z) && decide (x < max a1 b1) && decide (min a2 b2 < u) && decide (y < max a2 b2)
/-- The line of the segment leaves a corner on each side. -/
def dvds (a1 a2 b1 b2 x y z u : Int) : Bool := decide (side a1 a2 b1 b2 x y * side a1 a2 b1 b2 z u < 0) || decide (side a1 a2 b1 b2 x u * side a1 a2 b1 b2 z y < 0)
def hitB (x y z u a1 a2 b1 b2 : Int) : Bool := inr x y z u && rch a1 a2 b1 b2 x y z u && (decide (a1 = b1) && decide (a2 = b2) || dvds a1 a2 b1 b2 x y z u)
def hits (x y z u a1 a2 b1 b2 : Int) : Bool := bvld x y z u && vld a1 a2 && vld b1 b2 && hitB x y z u a1 a2 b1 b2

theorem hitB_iff (x y z u a1 a2 b1 b2 : Int) : hitB x y z u a1 a2 b1 b2 = true ↔ hitC (b1 - a1) (b2 - a2) (x - a1) (z - a1) (y - a2) (u - a2) := by
  unfold hitB hitC inr rch dvds side area
  simp only [Bool.and_eq_true, Bool.or_eq_true, decide_eq_true_eq, sgn_opp]
  generalize opp ((b1 - a1) * (y - a2) - (b2 - a2) * (x - a1)) ((b1 - a1) * (u - a2) - (b2 - a2) * (z - a1)) = A
  generalize opp ((b1 - a1) * (u - a2) - (b2 - a2) * (x - a1)) ((b1 - a1) * (y - a2) - (b2 - a2) * (z - a1)) = B
  rw [show (min 0 (b1 - a1) < z - a1 ∧ x - a1 < max 0 (b1 - a1) ∧ min 0 (b2 - a2) < u - a2 ∧ y - a2 < max 0 (b2 - a2)) ↔ (((min a1 b1 < z ∧ x < max a1 b1) ∧ min a2 b2 < u) ∧ y < max a2 b2) by omega,
    show (x - a1 < z - a1 ∧ y - a2 < u - a2) ↔ (x < z ∧ y < u) by omega, show (b1 - a1 = 0 ∧ b2 - a2 = 0) ↔ (a1 = b1 ∧ a2 = b2) by omega, and_assoc]

/-- The reference's span of a coordinate. -/
def spL (a d lo hi : Int) : Int := if d < 0 then -hi - -a else lo - a
def spH (a d lo hi : Int) : Int := if d < 0 then -lo - -a else hi - a
def spD (d : Int) : Int := if d < 0 then -d else d
def spO (a d lo hi : Int) : Bool := decide (d < 0) || decide (0 < d) || decide (lo < a) && decide (a < hi)
def someB (l h d : Int) (o : Bool) : Bool := o && (decide (d = 0) || decide (l < h) && decide (l < d) && decide (0 < h))
def lapB (l h d l' h' d' : Int) : Bool := decide (d = 0) || decide (d' = 0) || decide (l * d' < h' * d) && decide (l' * d < h * d')
def hitS (x y z u a1 a2 b1 b2 : Int) : Bool :=
  someB (spL a1 (b1 - a1) x z) (spH a1 (b1 - a1) x z) (spD (b1 - a1)) (spO a1 (b1 - a1) x z) && someB (spL a2 (b2 - a2) y u) (spH a2 (b2 - a2) y u) (spD (b2 - a2)) (spO a2 (b2 - a2) y u) &&
    lapB (spL a1 (b1 - a1) x z) (spH a1 (b1 - a1) x z) (spD (b1 - a1)) (spL a2 (b2 - a2) y u) (spH a2 (b2 - a2) y u) (spD (b2 - a2))
theorem hitS_iff_R (dx dy p q r s : Int) (ox oy : Bool) (hox : ox = true ↔ (0 < dx ∨ (p < 0 ∧ 0 < q))) (hoy : oy = true ↔ (0 < dy ∨ (r < 0 ∧ 0 < s))) :
    (someB p q dx ox && someB r s dy oy && lapB p q dx r s dy) = true ↔ hitR dx dy p q r s := by
  unfold someB lapB hitR
  simp only [Bool.and_eq_true, Bool.or_eq_true, decide_eq_true_eq, hox, hoy, and_assoc, or_assoc]
theorem hitS_eq (x y z u a1 a2 b1 b2 : Int) : hitS x y z u a1 a2 b1 b2 = hitB x y z u a1 a2 b1 b2 := by
  rw [Bool.eq_iff_iff, hitB_iff]
  unfold hitS spL spH spD spO
  by_cases h1 : b1 - a1 < 0 <;> by_cases h2 : b2 - a2 < 0
  · simp only [if_pos h1, if_pos h2]
    rw [hitS_iff_R _ _ _ _ _ _ _ _ (by simp [h1] <;> omega) (by simp [h2] <;> omega), ← hit_core _ _ _ _ _ _ (by omega) (by omega),
      show -z - -a1 = -(z - a1) by omega, show -x - -a1 = -(x - a1) by omega, show -u - -a2 = -(u - a2) by omega, show -y - -a2 = -(y - a2) by omega, hitC_flipx, hitC_flipy]
  · simp only [if_pos h1, if_neg h2]
    rw [hitS_iff_R _ _ _ _ _ _ _ _ (by simp [h1] <;> omega) (by simp [h2] <;> omega), ← hit_core _ _ _ _ _ _ (by omega) (by omega),
      show -z - -a1 = -(z - a1) by omega, show -x - -a1 = -(x - a1) by omega, hitC_flipx]
  · simp only [if_neg h1, if_pos h2]
    rw [hitS_iff_R _ _ _ _ _ _ _ _ (by simp [h1] <;> omega) (by simp [h2] <;> omega), ← hit_core _ _ _ _ _ _ (by omega) (by omega),
      show -u - -a2 = -(u - a2) by omega, show -y - -a2 = -(y - a2) by omega, hitC_flipy]
  · simp only [if_neg h1, if_neg h2]
    rw [hitS_iff_R _ _ _ _ _ _ _ _ (by simp [h1] <;> omega) (by simp [h2] <;> omega), ← hit_core _ _ _ _ _ _ (by omega) (by omega)]
/-- Both directions of a segment. -/
theorem hits_back (x y z u a1 a2 b1 b2 : Int) : hits x y z u b1 b2 a1 a2 = hits x y z u a1 a2 b1 b2 := by
  unfold hits hitB rch dvds
  rw [side_swap a1 a2 b1 b2 x y, side_swap a1 a2 b1 b2 z u, side_swap a1 a2 b1 b2 x u, side_swap a1 a2 b1 b2 z y, Int.neg_mul_neg, Int.neg_mul_neg, min_sw a1 b1, max_sw a1 b1, min_sw a2 b2, max_sw a2 b2,
    show decide (b1 = a1) = decide (a1 = b1) by rw [decide_eq_decide]; omega, show decide (b2 = a2) = decide (a2 = b2) by rw [decide_eq_decide]; omega, Bool.and_assoc (bvld x y z u), Bool.and_comm (vld b1 b2), ← Bool.and_assoc (bvld x y z u)]
/-- A segment that begins in the interior of a box hits it. -/
theorem hits_in (x y z u a1 a2 b1 b2 : Int) (hb : bvld x y z u = true) (h1 : vld a1 a2 = true) (h2 : vld b1 b2 = true) (g1 : x < a1) (g2 : a1 < z) (g3 : y < a2) (g4 : a2 < u) : hits x y z u a1 a2 b1 b2 = true := by
  unfold hits
  rw [hb, h1, h2, ← hitS_eq]
  unfold hitS
  have o1 : spO a1 (b1 - a1) x z = true := by unfold spO; simp [g1, g2]
  have o2 : spO a2 (b2 - a2) y u = true := by unfold spO; simp [g3, g4]
  have l1 : spL a1 (b1 - a1) x z < 0 := by unfold spL; split <;> omega
  have l2 : spL a2 (b2 - a2) y u < 0 := by unfold spL; split <;> omega
  have k1 : 0 < spH a1 (b1 - a1) x z := by unfold spH; split <;> omega
  have k2 : 0 < spH a2 (b2 - a2) y u := by unfold spH; split <;> omega
  have d1 : 0 ≤ spD (b1 - a1) := by unfold spD; split <;> omega
  have d2 : 0 ≤ spD (b2 - a2) := by unfold spD; split <;> omega
  rw [o1, o2]
  generalize spL a1 (b1 - a1) x z = p at *
  generalize spL a2 (b2 - a2) y u = r at *
  generalize spH a1 (b1 - a1) x z = q at *
  generalize spH a2 (b2 - a2) y u = s at *
  generalize spD (b1 - a1) = dx at *
  generalize spD (b2 - a2) = dy at *
  have e : ∀ p q dx : Int, p < 0 → 0 < q → 0 ≤ dx → someB p q dx true = true := fun p q dx hp hq hd => by
    unfold someB; simp only [Bool.true_and, Bool.or_eq_true, Bool.and_eq_true, decide_eq_true_eq]; omega
  rw [e _ _ _ l1 k1 d1, e _ _ _ l2 k2 d2]
  unfold lapB
  simp only [Bool.true_and, Bool.or_eq_true, Bool.and_eq_true, decide_eq_true_eq]
  by_cases h3 : dx = 0
  · exact Or.inl (Or.inl h3)
  by_cases h4 : dy = 0
  · exact Or.inl (Or.inr h4)
  · have m1 : p * dy < 0 := Int.mul_neg_of_neg_of_pos l1 (by omega)
    have m2 : r * dx < 0 := Int.mul_neg_of_neg_of_pos l2 (by omega)
    have m3 : 0 < s * dx := Int.mul_pos k2 (by omega)
    have m4 : 0 < q * dy := Int.mul_pos k1 (by omega)
    exact Or.inr ⟨by omega, by omega⟩
/-- The box of a segment that hits a box is on no side of it. -/
theorem hits_aside (x y z u a1 a2 b1 b2 : Int) (h : hits x y z u a1 a2 b1 b2 = true) : ¬(max a1 b1 ≤ x ∨ z ≤ min a1 b1 ∨ max a2 b2 ≤ y ∨ u ≤ min a2 b2) := by
  unfold hits hitB rch at h
  simp only [Bool.and_eq_true, decide_eq_true_eq] at h
  omega
/-- Two overlapping boxes have a point with half coordinates within both. -/
def half (x y z u p q : Int) : Bool := decide (2 * x < p) && decide (p < 2 * z) && decide (2 * y < q) && decide (q < 2 * u)
def nearB (x y z u : Int) : Bool := decide (-12 ≤ x) && decide (z ≤ 12) && decide (-12 ≤ y) && decide (u ≤ 12) && bvld x y z u
theorem nearB_iff (x y z u : Int) : nearB x y z u = true ↔ -12 ≤ x ∧ x ≤ z ∧ z ≤ 12 ∧ -12 ≤ y ∧ y ≤ u ∧ u ≤ 12 := by
  unfold nearB; simp only [Bool.and_eq_true, decide_eq_true_eq, bvld_iff]; omega
theorem ovl_half (a b c d x y z u p q : Int) (h1 : nearB a b c d = true) (h2 : nearB x y z u = true) (h3 : half a b c d p q = true) (h4 : half x y z u p q = true) : ovl a b c d x y z u = true := by
  unfold half at h3 h4
  unfold nearB at h1 h2
  unfold ovl
  simp only [Bool.and_eq_true, decide_eq_true_eq, inr_iff] at *
  refine ⟨⟨h1.2, h2.2⟩, ?_, ?_⟩ <;> omega
theorem half_ovl (a b c d x y z u : Int) (h1 : nearB a b c d = true) (h2 : nearB x y z u = true) (h : ovl a b c d x y z u = true) :
    ∃ p q : Int, -24 ≤ p ∧ p ≤ 24 ∧ -24 ≤ q ∧ q ≤ 24 ∧ half a b c d p q = true ∧ half x y z u p q = true := by
  rw [nearB_iff] at h1 h2
  unfold ovl at h
  simp only [Bool.and_eq_true, inr_iff] at h
  refine ⟨max a x + min c z, max b y + min d u, by omega, by omega, by omega, by omega, ?_, ?_⟩
  · unfold half; simp only [Bool.and_eq_true, decide_eq_true_eq]; omega
  · unfold half; simp only [Bool.and_eq_true, decide_eq_true_eq]; omega
end Go.Proofs.Ytllhdalfhhjigaa
