/-
  Plain facts on paths of layer 4: directions and bends, length, bounds, what Simplify keeps, the opposite direction, sums. No program is named here; no condition.
-/
import Derived.Test.YtllhdalfhhjigaaGeoPlain
namespace Go.Proofs.Ytllhdalfhhjigaa

/-- Vectors: the cross and the dot product. -/
def crs2 (a b c d : Int) : Int := a * d - b * c
def dot2 (a b c d : Int) : Int := a * c + b * d
/-- The same direction, of two vectors that are not 0. -/
def sd (a b c d : Int) : Prop := crs2 a b c d = 0 ∧ 0 < dot2 a b c d

theorem sd_symm {a b c d : Int} (h : sd a b c d) : sd c d a b := by
  unfold sd crs2 dot2 at *
  obtain ⟨h1, h2⟩ := h
  constructor
  · grind
  · have : c * a + d * b = a * c + b * d := by grind
    omega
/-- A vector in the same direction is a positive multiple, both scaled. -/
theorem sd_mul {a b c d : Int} (h : sd a b c d) : (a * a + b * b) * c = (a * c + b * d) * a ∧ (a * a + b * b) * d = (a * c + b * d) * b := by
  unfold sd crs2 dot2 at h
  obtain ⟨h1, h2⟩ := h
  have e : a * d = b * c := by omega
  constructor
  · have : (a * a + b * b) * c - (a * c + b * d) * a = b * (b * c - a * d) := by grind
    rw [e] at this
    simp at this
    omega
  · have : (a * a + b * b) * d - (a * c + b * d) * b = a * (a * d - b * c) := by grind
    rw [e] at this
    simp at this
    omega
theorem sq_pos {a b c d : Int} (h : 0 < dot2 a b c d) : 0 < a * a + b * b := by
  have h1 : 0 ≤ a * a := by rcases Int.le_total 0 a with h | h; exact Int.mul_nonneg h h; exact Int.mul_nonneg_of_nonpos_of_nonpos h h
  have h2 : 0 ≤ b * b := by rcases Int.le_total 0 b with h | h; exact Int.mul_nonneg h h; exact Int.mul_nonneg_of_nonpos_of_nonpos h h
  by_cases ha : a = 0
  · by_cases hb : b = 0
    · subst ha hb; unfold dot2 at h; simp at h
    · have : 0 < b * b := by rcases Int.lt_or_gt_of_ne hb with h | h; exact Int.mul_pos_of_neg_of_neg h h; exact Int.mul_pos h h
      omega
  · have : 0 < a * a := by rcases Int.lt_or_gt_of_ne ha with h | h; exact Int.mul_pos_of_neg_of_neg h h; exact Int.mul_pos h h
    omega
theorem sd_trans {a b c d e f : Int} (h : sd a b c d) (k : sd c d e f) : sd a b e f := by
  obtain ⟨m1, m2⟩ := sd_mul (sd_symm h)
  have hs := sq_pos k.2
  unfold sd crs2 dot2 at *
  obtain ⟨k1, k2⟩ := k
  obtain ⟨h1, h2⟩ := h
  have hp : 0 < c * a + d * b := by have : c * a + d * b = a * c + b * d := by grind
                                    omega
  -- (c c + d d) (a, b) = (c a + d b) (c, d)
  have x1 : (c * c + d * d) * (a * f - b * e) = (c * a + d * b) * (c * f - d * e) := by
    have : (c * c + d * d) * (a * f - b * e) = ((c * c + d * d) * a) * f - ((c * c + d * d) * b) * e := by grind
    rw [this, m1, m2]; grind
  have x2 : (c * c + d * d) * (a * e + b * f) = (c * a + d * b) * (c * e + d * f) := by
    have : (c * c + d * d) * (a * e + b * f) = ((c * c + d * d) * a) * e + ((c * c + d * d) * b) * f := by grind
    rw [this, m1, m2]; grind
  constructor
  · rw [k1, Int.mul_zero] at x1
    rcases Int.mul_eq_zero.1 x1 with h | h
    · omega
    · exact h
  · have : 0 < (c * c + d * d) * (a * e + b * f) := by rw [x2]; exact Int.mul_pos hp k2
    exact Int.pos_of_mul_pos_right this (by omega)
theorem sd_add {a b c d : Int} (h : sd a b c d) : sd a b (a + c) (b + d) := by
  have hs := sq_pos h.2
  unfold sd crs2 dot2 at *
  obtain ⟨h1, h2⟩ := h
  constructor
  · have : a * (b + d) - b * (a + c) = a * d - b * c := by grind
    omega
  · have : a * (a + c) + b * (b + d) = (a * a + b * b) + (a * c + b * d) := by grind
    omega
theorem sd_refl {a b : Int} (h : ¬(a = 0 ∧ b = 0)) : sd a b a b := by
  unfold sd crs2 dot2
  refine ⟨by grind, ?_⟩
  have h1 : 0 ≤ a * a := by rcases Int.le_total 0 a with h | h; exact Int.mul_nonneg h h; exact Int.mul_nonneg_of_nonpos_of_nonpos h h
  have h2 : 0 ≤ b * b := by rcases Int.le_total 0 b with h | h; exact Int.mul_nonneg h h; exact Int.mul_nonneg_of_nonpos_of_nonpos h h
  by_cases ha : a = 0
  · have hb : b ≠ 0 := fun hb => h ⟨ha, hb⟩
    have : 0 < b * b := by rcases Int.lt_or_gt_of_ne hb with h | h; exact Int.mul_pos_of_neg_of_neg h h; exact Int.mul_pos h h
    omega
  · have : 0 < a * a := by rcases Int.lt_or_gt_of_ne ha with h | h; exact Int.mul_pos_of_neg_of_neg h h; exact Int.mul_pos h h
    omega

/-- A bend at q between p and r. -/
def bnd (p q r : Int × Int) : Prop := ¬ sd (q.1 - p.1) (q.2 - p.2) (r.1 - q.1) (r.2 - q.2)
/-- As the chapter says it, of points that differ. -/
theorem bnd_iff (p q r : Int × Int) (h1 : p ≠ q) (h2 : q ≠ r) :
    bnd p q r ↔ ((q.1 - p.1) * (r.2 - p.2) - (q.2 - p.2) * (r.1 - p.1) ≠ 0 ∨ (q.1 - p.1) * (r.1 - q.1) + (q.2 - p.2) * (r.2 - q.2) < 0) := by
  obtain ⟨p1, p2⟩ := p
  obtain ⟨q1, q2⟩ := q
  obtain ⟨r1, r2⟩ := r
  simp only [ne_eq, Prod.mk.injEq] at h1 h2
  unfold bnd sd crs2 dot2
  simp only
  have e : (q1 - p1) * (r2 - p2) - (q2 - p2) * (r1 - p1) = (q1 - p1) * (r2 - q2) - (q2 - p2) * (r1 - q1) := by grind
  rw [e]
  generalize hu : q1 - p1 = u
  generalize hv : q2 - p2 = v
  generalize hs : r1 - q1 = s
  generalize ht : r2 - q2 = t
  have hn1 : ¬(u = 0 ∧ v = 0) := by omega
  have hn2 : ¬(s = 0 ∧ t = 0) := by omega
  have hz : u * t - v * s = 0 → u * s + v * t = 0 → False := by
    intro a b
    have n1 : (u * u + v * v) * (s * s + t * t) = (u * t - v * s) * (u * t - v * s) + (u * s + v * t) * (u * s + v * t) := by grind
    rw [a, b] at n1
    simp only [Int.mul_zero, Int.add_zero] at n1
    have k1 := sq_pos (sd_refl hn1).2
    have k2 := sq_pos (sd_refl hn2).2
    have := Int.mul_pos k1 k2
    omega
  by_cases hc : u * t - v * s = 0
  · have h3 := hz hc
    constructor
    · intro h
      refine Or.inr ?_
      rcases Int.lt_or_lt_of_ne (fun he => h3 he) with h4 | h4
      · exact h4
      · exact absurd ⟨hc, h4⟩ h
    · rintro (h | h)
      · exact absurd hc h
      · intro h4; omega
  · exact ⟨fun _ => Or.inl hc, fun _ h4 => hc h4.1⟩

abbrev Pt := Int × Int
/-- A bend, as a test. -/
def bndB (p q r : Pt) : Bool := decide ((q.1 - p.1) * (r.2 - p.2) - (q.2 - p.2) * (r.1 - p.1) ≠ 0) || decide ((q.1 - p.1) * (r.1 - q.1) + (q.2 - p.2) * (r.2 - q.2) < 0)
theorem bndB_iff (p q r : Pt) (h1 : p ≠ q) (h2 : q ≠ r) : bndB p q r = true ↔ bnd p q r := by
  rw [bnd_iff p q r h1 h2]; unfold bndB; simp only [Bool.or_eq_true, decide_eq_true_eq]
theorem bndB_back (p q r : Pt) : bndB r q p = bndB p q r := by
  obtain ⟨p1, p2⟩ := p
  obtain ⟨q1, q2⟩ := q
  obtain ⟨r1, r2⟩ := r
  unfold bndB
  simp only
  have e1 : (q1 - r1) * (p2 - r2) - (q2 - r2) * (p1 - r1) = -((q1 - p1) * (r2 - p2) - (q2 - p2) * (r1 - p1)) := by grind
  have e2 : (q1 - r1) * (p1 - q1) + (q2 - r2) * (p2 - q2) = (q1 - p1) * (r1 - q1) + (q2 - p2) * (r2 - q2) := by grind
  rw [e1, e2]
  congr 1
  rw [decide_eq_decide]; omega
/-- Neighbors differ. -/
def dif : List Pt → Prop
  | a :: b :: t => a ≠ b ∧ dif (b :: t)
  | _ => True
def dst (p q : Pt) : Int := max (p.1 - q.1) (q.1 - p.1) + max (p.2 - q.2) (q.2 - p.2)
def lenL : List Pt → Int
  | a :: b :: t => dst a b + lenL (b :: t)
  | _ => 0
/-- The least value of g. -/
def mn (g : Pt → Int) : List Pt → Int
  | [] => 0
  | [a] => g a
  | a :: b :: t => min (g a) (mn g (b :: t))
/-- What is kept behind p. -/
def filt : Pt → List Pt → List Pt
  | _, [] => []
  | _, [q] => [q]
  | p, q :: r :: t => if bndB p q r then q :: filt q (r :: t) else filt q (r :: t)
def simpL : List Pt → List Pt
  | [] => []
  | a :: t => a :: filt a t
/-- A bend at every inner point. -/
def allB : List Pt → Prop
  | a :: b :: c :: t => bndB a b c = true ∧ allB (b :: c :: t)
  | _ => True

/-- From k by way of p to q it goes straight on. -/
def onw (k p q : Pt) : Prop := k = p ∨ sd (p.1 - k.1) (p.2 - k.2) (q.1 - p.1) (q.2 - p.2)
def dr (p q r s : Pt) : Prop := sd (q.1 - p.1) (q.2 - p.2) (s.1 - r.1) (s.2 - r.2)
theorem dr_refl {p q : Pt} (h : p ≠ q) : dr p q p q := by
  refine sd_refl fun ⟨h1, h2⟩ => h ?_
  exact Prod.ext (by omega) (by omega)
theorem dr_ne {p q r s : Pt} (h : dr p q r s) : p ≠ q := by
  rintro rfl
  have := h.2
  unfold dot2 at this
  simp at this
theorem onw_dir {k p q : Pt} (h : onw k p q) (hpq : p ≠ q) : dr k q p q := by
  rcases h with rfl | h
  · exact dr_refl hpq
  · have := sd_add (sd_symm h)
    have e1 : q.1 - p.1 + (p.1 - k.1) = q.1 - k.1 := by omega
    have e2 : q.2 - p.2 + (p.2 - k.2) = q.2 - k.2 := by omega
    rw [e1, e2] at this
    exact sd_symm this
theorem onw_next {k p q r : Pt} (h : onw k p q) (hpq : p ≠ q) (hqr : dr p q q r) : onw k q r := Or.inr (sd_trans (onw_dir h hpq) hqr)
theorem not_bnd {p q r : Pt} (h1 : p ≠ q) (h2 : q ≠ r) (h : bndB p q r = false) : dr p q q r := by
  have h3 : ¬ bnd p q r := fun hb => by rw [(bndB_iff p q r h1 h2).2 hb] at h; cases h
  unfold bnd at h3
  exact Classical.not_not.1 h3
/-- Between: the sum of the components' signs. -/
theorem sd_signs {a b c d : Int} (h : sd a b c d) : (0 ≤ a ∧ 0 ≤ c ∨ a ≤ 0 ∧ c ≤ 0) ∧ (0 ≤ b ∧ 0 ≤ d ∨ b ≤ 0 ∧ d ≤ 0) := by
  obtain ⟨m1, m2⟩ := sd_mul h
  have hs := sq_pos h.2
  have hp := h.2
  unfold dot2 at hp
  generalize a * a + b * b = K at *
  generalize a * c + b * d = M at *
  have key : ∀ x y : Int, K * y = M * x → 0 ≤ x ∧ 0 ≤ y ∨ x ≤ 0 ∧ y ≤ 0 := by
    intro x y e
    rcases Int.lt_trichotomy x 0 with hx | hx | hx
    · have h1 : M * x < 0 := Int.mul_neg_of_pos_of_neg hp hx
      refine Or.inr ⟨by omega, ?_⟩
      rcases Int.lt_or_le 0 y with hy | hy
      · have := Int.mul_pos hs hy; omega
      · exact hy
    · subst hx
      rw [Int.mul_zero] at e
      rcases Int.mul_eq_zero.1 e with h | h
      · omega
      · omega
    · have h1 : 0 < M * x := Int.mul_pos hp hx
      refine Or.inl ⟨by omega, ?_⟩
      rcases Int.lt_or_le y 0 with hy | hy
      · have := Int.mul_neg_of_pos_of_neg hs hy; omega
      · exact hy
  exact ⟨key a c m1, key b d m2⟩
theorem onw_between {k p q : Pt} (h : onw k p q) : (min k.1 q.1 ≤ p.1 ∧ p.1 ≤ max k.1 q.1) ∧ (min k.2 q.2 ≤ p.2 ∧ p.2 ≤ max k.2 q.2) := by
  rcases h with rfl | h
  · omega
  · have := sd_signs h; omega
theorem onw_dst {k p q : Pt} (h : onw k p q) : dst k q = dst k p + dst p q := by
  have := onw_between h
  unfold dst
  omega
theorem dst_self (p : Pt) : dst p p = 0 := by unfold dst; omega

/-- What is kept first lies straight on. -/
theorem filt_head : ∀ (t : List Pt) (k p q : Pt), onw k p q → dif (p :: q :: t) → ∃ x s, filt p (q :: t) = x :: s ∧ dr k x p q
  | [], k, p, q, h, hd => ⟨q, [], rfl, onw_dir h hd.1⟩
  | r :: t, k, p, q, h, hd => by
    obtain ⟨hpq, hqr, ht⟩ := hd
    cases hb : bndB p q r with
    | true => exact ⟨q, filt q (r :: t), by simp [filt, hb], onw_dir h hpq⟩
    | false =>
      have hdr := not_bnd hpq hqr hb
      obtain ⟨x, s, e, hx⟩ := filt_head t k q r (onw_next h hpq hdr) ⟨hqr, ht⟩
      exact ⟨x, s, by simp [filt, hb, e], sd_trans hx (sd_symm hdr)⟩
theorem filt_len : ∀ (t : List Pt) (k p : Pt), (match t with | [] => k = p | q :: _ => onw k p q) → dif (p :: t) → lenL (k :: filt p t) = dst k p + lenL (p :: t)
  | [], k, p, h, _ => by subst h; simp [filt, lenL, dst_self]
  | [q], k, p, h, _ => by simp [filt, lenL]; exact onw_dst h
  | q :: r :: t, k, p, h, hd => by
    obtain ⟨hpq, hqr, ht⟩ := hd
    cases hb : bndB p q r with
    | true =>
      have ih := filt_len (r :: t) q q (Or.inl rfl) ⟨hqr, ht⟩
      simp only [filt, hb, if_true, lenL]
      simp only [lenL] at ih
      rw [ih, dst_self, onw_dst h]; omega
    | false =>
      have hdr := not_bnd hpq hqr hb
      have ih := filt_len (r :: t) k q (onw_next h hpq hdr) ⟨hqr, ht⟩
      simp only [filt, hb, Bool.false_eq_true, if_false]
      rw [ih, onw_dst h]
      simp only [lenL]; omega
theorem simpL_len (l : List Pt) (h : dif l) : lenL (simpL l) = lenL l := by
  cases l with
  | nil => rfl
  | cons a t =>
    have := filt_len t a a (by cases t with | nil => rfl | cons q t => exact Or.inl rfl) h
    rw [dst_self] at this
    simpa [simpL] using this
theorem bnd_dir {k p q r x : Pt} (h1 : dr k q p q) (h2 : dr q x q r) (h : bndB p q r = true) : bndB k q x = true := by
  have n1 := dr_ne h1
  have n2 := dr_ne h2
  have n3 := dr_ne (sd_symm h1 : dr p q k q)
  have n4 := dr_ne (sd_symm h2 : dr q r q x)
  rw [bndB_iff k q x n1 n2]
  rw [bndB_iff p q r n3 n4] at h
  exact fun hc => h (sd_trans (sd_trans (sd_symm h1) hc) h2)
theorem filt_dif : ∀ (t : List Pt) (k p : Pt), (match t with | [] => True | q :: _ => onw k p q) → dif (p :: t) → dif (k :: filt p t)
  | [], k, p, _, _ => trivial
  | [q], k, p, h, hd => ⟨dr_ne (onw_dir h hd.1), trivial⟩
  | q :: r :: t, k, p, h, hd => by
    obtain ⟨hpq, hqr, ht⟩ := hd
    cases hb : bndB p q r with
    | true =>
      simp only [filt, hb, if_true]
      exact ⟨dr_ne (onw_dir h hpq), filt_dif (r :: t) q q (Or.inl rfl) ⟨hqr, ht⟩⟩
    | false =>
      simp only [filt, hb, Bool.false_eq_true, if_false]
      exact filt_dif (r :: t) k q (onw_next h hpq (not_bnd hpq hqr hb)) ⟨hqr, ht⟩
theorem filt_allB : ∀ (t : List Pt) (k p : Pt), (match t with | [] => True | q :: _ => onw k p q) → dif (p :: t) → allB (k :: filt p t)
  | [], k, p, _, _ => trivial
  | [q], k, p, _, _ => trivial
  | q :: r :: t, k, p, h, hd => by
    obtain ⟨hpq, hqr, ht⟩ := hd
    cases hb : bndB p q r with
    | true =>
      simp only [filt, hb, if_true]
      have ih := filt_allB (r :: t) q q (Or.inl rfl) ⟨hqr, ht⟩
      obtain ⟨x, s, e, hx⟩ := filt_head t q q r (Or.inl rfl) ⟨hqr, ht⟩
      rw [e] at ih ⊢
      exact ⟨bnd_dir (onw_dir h hpq) hx hb, ih⟩
    | false =>
      simp only [filt, hb, Bool.false_eq_true, if_false]
      exact filt_allB (r :: t) k q (onw_next h hpq (not_bnd hpq hqr hb)) ⟨hqr, ht⟩
theorem simpL_dif (l : List Pt) (h : dif l) : dif (simpL l) := by
  cases l with
  | nil => trivial
  | cons a t => exact filt_dif t a a (by cases t with | nil => trivial | cons q t => exact Or.inl rfl) h
theorem simpL_allB (l : List Pt) (h : dif l) : allB (simpL l) := by
  cases l with
  | nil => trivial
  | cons a t => exact filt_allB t a a (by cases t with | nil => trivial | cons q t => exact Or.inl rfl) h
theorem filt_same : ∀ (t : List Pt) (p : Pt), allB (p :: t) → filt p t = t
  | [], p, _ => rfl
  | [q], p, _ => rfl
  | q :: r :: t, p, h => by simp only [filt, h.1, if_true]; rw [filt_same (r :: t) q h.2]
theorem simpL_same (l : List Pt) (h : allB l) : simpL l = l := by
  cases l with
  | nil => rfl
  | cons a t => simp only [simpL]; rw [filt_same t a h]
/-- Twice is once. -/
theorem simpL_twice (l : List Pt) (h : dif l) : simpL (simpL l) = simpL l := simpL_same _ (simpL_allB l h)
theorem filt_mn (g : Pt → Int) (hg : ∀ k p q, onw k p q → min (g k) (g q) ≤ g p) : ∀ (t : List Pt) (k p : Pt), (match t with | [] => k = p | q :: _ => onw k p q) → dif (p :: t) → mn g (k :: filt p t) = min (g k) (mn g (p :: t))
  | [], k, p, h, _ => by subst h; simp [filt, mn]
  | [q], k, p, h, _ => by simp only [filt, mn]; have := hg k p q h; omega
  | q :: r :: t, k, p, h, hd => by
    obtain ⟨hpq, hqr, ht⟩ := hd
    have hb' := hg k p q h
    have hq : min (g q) (mn g (q :: r :: t)) = mn g (q :: r :: t) := by simp only [mn]; omega
    have hle : mn g (q :: r :: t) ≤ g q := by simp only [mn]; omega
    cases hb : bndB p q r with
    | true =>
      have ih := filt_mn g hg (r :: t) q q (Or.inl rfl) ⟨hqr, ht⟩
      simp only [filt, hb, if_true]
      rw [show mn g (k :: q :: filt q (r :: t)) = min (g k) (mn g (q :: filt q (r :: t))) from rfl, ih, hq, show mn g (p :: q :: r :: t) = min (g p) (mn g (q :: r :: t)) from rfl]
      omega
    | false =>
      have hdr := not_bnd hpq hqr hb
      have ih := filt_mn g hg (r :: t) k q (onw_next h hpq hdr) ⟨hqr, ht⟩
      simp only [filt, hb, Bool.false_eq_true, if_false]
      rw [ih, show mn g (p :: q :: r :: t) = min (g p) (mn g (q :: r :: t)) from rfl]
      omega
theorem simpL_mn (g : Pt → Int) (hg : ∀ k p q, onw k p q → min (g k) (g q) ≤ g p) (l : List Pt) (h : dif l) : mn g (simpL l) = mn g l := by
  cases l with
  | nil => rfl
  | cons a t =>
    have := filt_mn g hg t a a (by cases t with | nil => rfl | cons q t => exact Or.inl rfl) h
    rw [simpL, this]
    cases t with
    | nil => simp [mn]
    | cons b t => simp only [mn]; omega
theorem filt_mem : ∀ (t : List Pt) (p x : Pt), x ∈ filt p t → x ∈ t
  | [], p, x, h => h
  | [q], p, x, h => h
  | q :: r :: t, p, x, h => by
    cases hb : bndB p q r with
    | true =>
      simp only [filt, hb, if_true] at h
      rcases List.mem_cons.1 h with rfl | h
      · simp
      · exact List.mem_cons_of_mem _ (filt_mem (r :: t) q x h)
    | false =>
      simp only [filt, hb, Bool.false_eq_true, if_false] at h
      exact List.mem_cons_of_mem _ (filt_mem (r :: t) q x h)
theorem simpL_mem (l : List Pt) (x : Pt) (h : x ∈ simpL l) : x ∈ l := by
  cases l with
  | nil => exact h
  | cons a t =>
    rcases List.mem_cons.1 h with rfl | h
    · simp
    · exact List.mem_cons_of_mem _ (filt_mem t a x h)
theorem filt_size : ∀ (t : List Pt) (p : Pt), (filt p t).length ≤ t.length
  | [], p => Nat.le_refl _
  | [q], p => Nat.le_refl _
  | q :: r :: t, p => by
    have := filt_size (r :: t) q
    simp only [filt]
    split <;> simp only [List.length_cons] at * <;> omega
theorem simpL_size (l : List Pt) : (simpL l).length ≤ l.length := by
  cases l with
  | nil => exact Nat.le_refl _
  | cons a t => have := filt_size t a; simp only [simpL, List.length_cons]; omega
theorem filt_last : ∀ (t : List Pt) (p d : Pt), (filt p t).getLastD d = t.getLastD d
  | [], p, d => rfl
  | [q], p, d => rfl
  | q :: r :: t, p, d => by
    have ih := filt_last (r :: t) q d
    have e : (q :: r :: t).getLastD d = (r :: t).getLastD d := by simp [List.getLastD]
    rw [e, ← ih]
    simp only [filt]
    split
    · cases hf : filt q (r :: t) with
      | nil =>
        exfalso
        have : ∀ (t : List Pt) (q r : Pt), filt q (r :: t) ≠ [] := by
          intro t
          induction t with
          | nil => intro q r h; cases h
          | cons s t ih => intro q r h; simp only [filt] at h; split at h; cases h; exact ih _ _ h
        exact this _ _ _ hf
      | cons y ys => simp [List.getLastD]
    · rfl

/-- The point at an index. -/
def pa (l : List Pt) (i : Nat) : Pt := l.getD i (0, 0)
theorem pa_zero (a : Pt) (t : List Pt) : pa (a :: t) 0 = a := rfl
theorem pa_succ (a : Pt) (t : List Pt) (i : Nat) : pa (a :: t) (i + 1) = pa t i := rfl
theorem pa_rev (l : List Pt) (i : Nat) (h : i < l.length) : pa l.reverse i = pa l (l.length - 1 - i) := by
  unfold pa; simp only [List.getD_eq_getElem?_getD]; rw [List.getElem?_reverse h]
/-- Whether the point at an index is kept. -/
def keepI (l : List Pt) (i : Nat) : Bool := decide (i = 0) || decide (i + 1 = l.length) || bndB (pa l (i - 1)) (pa l i) (pa l (i + 1))
def simpI (l : List Pt) (k : Nat) : List Pt := ((List.range k).filter (keepI l)).map (pa l)
theorem simpI_zero (l : List Pt) : simpI l 0 = [] := rfl
theorem simpI_yes (l : List Pt) (k : Nat) (h : keepI l k = true) : simpI l (k + 1) = simpI l k ++ [pa l k] := by
  unfold simpI; rw [List.range_succ, List.filter_append, List.map_append]; simp [h]
theorem simpI_no (l : List Pt) (k : Nat) (h : keepI l k = false) : simpI l (k + 1) = simpI l k := by
  unfold simpI; rw [List.range_succ, List.filter_append, List.map_append]; simp [h]
/-- The list from an index on, kept points alone, is what filt keeps. -/
theorem filt_index : ∀ (t : List Pt) (p : Pt), ((List.range t.length).filter fun i => decide (i + 1 = t.length) || bndB (pa (p :: t) i) (pa t i) (pa t (i + 1))).map (pa t) = filt p t
  | [], p => rfl
  | [q], p => by simp [filt, pa]
  | q :: r :: t, p => by
    have ih := filt_index (r :: t) q
    rw [show (q :: r :: t).length = (r :: t).length + 1 from rfl, List.range_succ_eq_map, List.filter_cons, List.filter_map]
    have hf : ((List.range (r :: t).length).filter ((fun i => decide (i + 1 = (r :: t).length + 1) || bndB (pa (p :: q :: r :: t) i) (pa (q :: r :: t) i) (pa (q :: r :: t) (i + 1))) ∘ Nat.succ)) =
        (List.range (r :: t).length).filter fun i => decide (i + 1 = (r :: t).length) || bndB (pa (q :: r :: t) i) (pa (r :: t) i) (pa (r :: t) (i + 1)) := by
      congr 1
      funext i
      simp only [Function.comp, Nat.succ_eq_add_one, pa_succ]
      congr 1
      rw [decide_eq_decide]; omega
    rw [hf]
    have h0 : (decide (0 + 1 = (r :: t).length + 1) || bndB (pa (p :: q :: r :: t) 0) (pa (q :: r :: t) 0) (pa (q :: r :: t) (0 + 1))) = bndB p q r := by
      simp [pa]
    rw [h0]
    have hm : ∀ L : List Nat, (L.map Nat.succ).map (pa (q :: r :: t)) = L.map (pa (r :: t)) := by
      intro L; rw [List.map_map]; congr 1
    cases hb : bndB p q r with
    | true => simp only [if_true, List.map_cons, hm, ih, filt, hb]; rfl
    | false => simp only [Bool.false_eq_true, if_false, hm, ih, filt, hb]
theorem simpI_eq (l : List Pt) : simpI l l.length = simpL l := by
  cases l with
  | nil => rfl
  | cons a t =>
    have ih := filt_index t a
    unfold simpI
    rw [show (a :: t).length = t.length + 1 from rfl, List.range_succ_eq_map, List.filter_cons, List.filter_map]
    have hf : ((List.range t.length).filter (keepI (a :: t) ∘ Nat.succ)) = (List.range t.length).filter fun i => decide (i + 1 = t.length) || bndB (pa (a :: t) i) (pa t i) (pa t (i + 1)) := by
      congr 1
      funext i
      simp only [Function.comp, Nat.succ_eq_add_one, keepI, pa_succ, Nat.add_sub_cancel, List.length_cons]
      simp
    rw [hf, if_pos (by simp [keepI])]
    have hm : ∀ L : List Nat, (L.map Nat.succ).map (pa (a :: t)) = L.map (pa t) := by
      intro L; rw [List.map_map]; congr 1
    simp only [List.map_cons, hm, ih, simpL]; rfl
theorem range_rev (n : Nat) : (List.range n).reverse = (List.range n).map fun i => n - 1 - i := by
  apply List.ext_getElem?
  intro i
  by_cases h : i < n
  · rw [List.getElem?_reverse (by simpa using h)]
    rw [List.getElem?_map, List.length_range, List.getElem?_range (by omega), List.getElem?_range h]; rfl
  · rw [List.getElem?_eq_none (by simp; omega), List.getElem?_eq_none (by simp; omega)]
theorem keepI_rev (l : List Pt) (i : Nat) (h : i < l.length) : keepI l.reverse i = keepI l (l.length - 1 - i) := by
  unfold keepI
  rw [List.length_reverse]
  by_cases h0 : i = 0
  · subst h0
    simp only [decide_true, Bool.true_or, Nat.sub_zero]
    rw [show (decide (l.length - 1 + 1 = l.length)) = true by simp; omega]; simp
  by_cases h1 : i + 1 = l.length
  · rw [show decide (i + 1 = l.length) = true by simpa using h1, show decide (l.length - 1 - i = 0) = true by simp; omega]; simp
  rw [show decide (i = 0) = false by simpa using h0, show decide (i + 1 = l.length) = false by simpa using h1, show decide (l.length - 1 - i = 0) = false by simp; omega, show decide (l.length - 1 - i + 1 = l.length) = false by simp; omega]
  simp only [Bool.false_or]
  rw [pa_rev l (i - 1) (by omega), pa_rev l i h, pa_rev l (i + 1) (by omega), bndB_back]
  rw [show l.length - 1 - (i + 1) = l.length - 1 - i - 1 by omega, show l.length - 1 - (i - 1) = l.length - 1 - i + 1 by omega]
/-- The opposite direction. -/
theorem simpL_rev (l : List Pt) : simpL l.reverse = (simpL l).reverse := by
  rw [← simpI_eq, ← simpI_eq]
  unfold simpI
  rw [← List.map_reverse, ← List.filter_reverse, List.length_reverse, range_rev, List.filter_map, List.map_map]
  have e1 : (List.range l.length).filter (keepI l.reverse) = (List.range l.length).filter (keepI l ∘ fun i => l.length - 1 - i) := by
    apply List.filter_congr
    intro i hi
    simp only [List.mem_range] at hi
    simp only [Function.comp]
    exact keepI_rev l i hi
  rw [e1]
  apply List.map_congr_left
  intro i hi
  have := (List.mem_filter.1 hi).1
  simp only [List.mem_range] at this
  simp only [Function.comp]
  exact pa_rev l i this
theorem lenL_snoc : ∀ (l : List Pt) (a b : Pt), lenL (l ++ [a, b]) = lenL (l ++ [a]) + dst a b
  | [], a, b => by simp [lenL]
  | [c], a, b => by simp [lenL]
  | c :: d :: t, a, b => by
    have := lenL_snoc (d :: t) a b
    simp only [List.cons_append, lenL] at *
    omega
theorem dst_comm (p q : Pt) : dst p q = dst q p := by unfold dst; omega
theorem lenL_rev (l : List Pt) : lenL l.reverse = lenL l := by
  induction l with
  | nil => rfl
  | cons a t ih =>
    cases t with
    | nil => rfl
    | cons b t =>
      rw [show (a :: b :: t).reverse = t.reverse ++ [b, a] by simp, lenL_snoc, show t.reverse ++ [b] = (b :: t).reverse by simp, ih, dst_comm]
      simp only [lenL]; omega
theorem dif_snoc : ∀ (l : List Pt) (a b : Pt), dif (l ++ [a, b]) ↔ dif (l ++ [a]) ∧ a ≠ b
  | [], a, b => by simp [dif]
  | [c], a, b => by simp [dif]
  | c :: d :: t, a, b => by
    have := dif_snoc (d :: t) a b
    simp only [List.cons_append, dif] at *
    rw [this, and_assoc]
theorem dif_rev (l : List Pt) : dif l.reverse ↔ dif l := by
  induction l with
  | nil => exact Iff.rfl
  | cons a t ih =>
    cases t with
    | nil => exact Iff.rfl
    | cons b t =>
      rw [show (a :: b :: t).reverse = t.reverse ++ [b, a] by simp, dif_snoc, show t.reverse ++ [b] = (b :: t).reverse by simp, ih]
      simp only [dif]
      exact ⟨fun h => ⟨fun e => h.2 e.symm, h.1⟩, fun h => ⟨h.2, fun e => h.1 e.symm⟩⟩
theorem mn_snoc (g : Pt → Int) : ∀ (l : List Pt) (a : Pt), l ≠ [] → mn g (l ++ [a]) = min (mn g l) (g a)
  | [], a, h => absurd rfl h
  | [c], a, _ => by simp [mn]
  | c :: d :: t, a, _ => by
    have := mn_snoc g (d :: t) a (by simp)
    simp only [List.cons_append, mn] at *
    rw [this]; omega
theorem mn_rev (g : Pt → Int) (l : List Pt) : mn g l.reverse = mn g l := by
  induction l with
  | nil => rfl
  | cons a t ih =>
    cases t with
    | nil => rfl
    | cons b t =>
      rw [List.reverse_cons, mn_snoc g _ _ (by simp), ih]
      simp only [mn]; omega
/-- How many inner points are bends, of the first k. -/
def bndTo (l : List Pt) (k : Nat) : Nat := ((List.range k).filter fun i => decide (1 ≤ i) && decide (i + 1 < l.length) && bndB (pa l (i - 1)) (pa l i) (pa l (i + 1))).length
theorem bndTo_zero (l : List Pt) : bndTo l 0 = 0 := rfl
theorem bndTo_one (l : List Pt) : bndTo l 1 = 0 := rfl
theorem bndTo_succ (l : List Pt) (k : Nat) (h : 1 ≤ k) (h1 : k + 1 < l.length) : bndTo l (k + 1) = bndTo l k + if bndB (pa l (k - 1)) (pa l k) (pa l (k + 1)) then 1 else 0 := by
  unfold bndTo
  rw [List.range_succ, List.filter_append, List.length_append]
  simp [h, h1, List.filter_cons]
  split <;> simp
/-- The bends of a path are the points that are kept between its ends. -/
theorem bends_kept (l : List Pt) (h : 2 ≤ l.length) : (simpL l).length = bndTo l (l.length - 1) + 2 := by
  rw [← simpI_eq]
  obtain ⟨n, hn⟩ : ∃ n, l.length = n + 2 := ⟨l.length - 2, by omega⟩
  rw [hn, simpI_yes l (n + 1) (by unfold keepI; simp [hn])]
  have key : ∀ k, k ≤ n → (simpI l (k + 1)).length = bndTo l (k + 1) + 1 := by
    intro k
    induction k with
    | zero => intro _; rw [simpI_yes l 0 (by simp [keepI])]; simp [simpI, bndTo]
    | succ k ih =>
      intro hk
      have := ih (by omega)
      rw [bndTo_succ l (k + 1) (by omega) (by omega)]
      have hkeep : keepI l (k + 1) = bndB (pa l (k + 1 - 1)) (pa l (k + 1)) (pa l (k + 1 + 1)) := by
        unfold keepI; simp [hn]; omega
      cases hb : bndB (pa l (k + 1 - 1)) (pa l (k + 1)) (pa l (k + 1 + 1)) with
      | true => rw [simpI_yes l (k + 1) (by rw [hkeep, hb])]; simp [this]
      | false => rw [simpI_no l (k + 1) (by rw [hkeep, hb])]; simp [this]
  have := key n (Nat.le_refl _)
  simp only [List.length_append, this]
  simp

/-- The first k points are valid, and neighbors among them differ. -/
def okTo (l : List Pt) (k : Nat) : Bool := decide (∀ i, i < k → vld (pa l i).1 (pa l i).2 = true ∧ (0 < i → pa l i ≠ pa l (i - 1)))
def alTo (l : List Pt) (k : Nat) : Bool := decide (∀ i, i < k → vld (pa l i).1 (pa l i).2 = true)
theorem okTo_zero (l : List Pt) : okTo l 0 = true := by unfold okTo; simp
theorem okTo_succ (l : List Pt) (k : Nat) (h : okTo l k = true) : okTo l (k + 1) = (vld (pa l k).1 (pa l k).2 && (decide (k = 0) || decide (pa l k ≠ pa l (k - 1)))) := by
  unfold okTo at *
  simp only [decide_eq_true_eq] at h
  rw [Bool.eq_iff_iff]
  simp only [decide_eq_true_eq, Bool.and_eq_true, Bool.or_eq_true]
  constructor
  · intro h1
    obtain ⟨h2, h3⟩ := h1 k (by omega)
    refine ⟨h2, ?_⟩
    by_cases hk : k = 0
    · exact Or.inl hk
    · exact Or.inr (h3 (by omega))
  · rintro ⟨h2, h3⟩ i hi
    by_cases hk : i < k
    · exact h i hk
    · obtain rfl : i = k := by omega
      exact ⟨h2, fun h0 => h3.resolve_left (by omega)⟩
theorem okTo_no (l : List Pt) (k n : Nat) (hk : k < n) (h : vld (pa l k).1 (pa l k).2 = false ∨ (0 < k ∧ pa l k = pa l (k - 1))) : okTo l n = false := by
  unfold okTo
  simp only [decide_eq_false_iff_not]
  intro hc
  obtain ⟨h1, h2⟩ := hc k hk
  rcases h with h | ⟨h3, h4⟩
  · rw [h] at h1; cases h1
  · exact h2 h3 h4
/-- A valid path. -/
def pval (l : List Pt) : Bool := decide (1 ≤ l.length ∧ l.length ≤ 512) && okTo l l.length
theorem dif_index : ∀ (l : List Pt), (∀ i, i + 1 < l.length → pa l i ≠ pa l (i + 1)) ↔ dif l
  | [] => by simp [dif]
  | [a] => by simp [dif]
  | a :: b :: t => by
    have ih := dif_index (b :: t)
    simp only [dif]
    rw [← ih]
    constructor
    · intro h
      refine ⟨h 0 (by simp), fun i hi => ?_⟩
      have := h (i + 1) (by simp only [List.length_cons] at *; omega)
      rw [pa_succ, pa_succ] at this
      exact this
    · rintro ⟨h1, h2⟩ i hi
      cases i with
      | zero => exact h1
      | succ i =>
        rw [pa_succ, pa_succ]
        exact h2 i (by simp only [List.length_cons] at *; omega)
theorem pa_mem (l : List Pt) (i : Nat) (h : i < l.length) : pa l i ∈ l := by
  unfold pa; rw [List.getD_eq_getElem?_getD, List.getElem?_eq_getElem h]; exact List.getElem_mem h
theorem mem_pa (l : List Pt) (x : Pt) (h : x ∈ l) : ∃ i, i < l.length ∧ pa l i = x := by
  obtain ⟨i, hi, e⟩ := List.getElem_of_mem h
  exact ⟨i, hi, by unfold pa; rw [List.getD_eq_getElem?_getD, List.getElem?_eq_getElem hi]; exact e⟩
theorem pval_iff (l : List Pt) : pval l = true ↔ (1 ≤ l.length ∧ l.length ≤ 512) ∧ (∀ x ∈ l, vld x.1 x.2 = true) ∧ dif l := by
  unfold pval okTo
  simp only [Bool.and_eq_true, decide_eq_true_eq]
  rw [← dif_index]
  constructor
  · rintro ⟨h1, h2⟩
    refine ⟨h1, fun x hx => ?_, fun i hi => ?_⟩
    · obtain ⟨i, hi, rfl⟩ := mem_pa l x hx
      exact (h2 i hi).1
    · exact fun e => (h2 (i + 1) hi).2 (by omega) e.symm
  · rintro ⟨h1, h2, h3⟩
    refine ⟨h1, fun i hi => ⟨h2 _ (pa_mem l i hi), fun h0 e => ?_⟩⟩
    have := h3 (i - 1) (by omega)
    rw [show i - 1 + 1 = i by omega] at this
    exact this e.symm
theorem pval_rev (l : List Pt) : pval l.reverse = pval l := by
  rw [Bool.eq_iff_iff, pval_iff, pval_iff, dif_rev]; simp
theorem pval_simp (l : List Pt) (h : pval l = true) : pval (simpL l) = true := by
  rw [pval_iff] at *
  obtain ⟨⟨h1, h2⟩, h3, h4⟩ := h
  refine ⟨⟨?_, Nat.le_trans (simpL_size l) h2⟩, fun x hx => h3 x (simpL_mem l x hx), simpL_dif l h4⟩
  cases l with
  | nil => simp at h1
  | cons a t => simp [simpL]
/-- The length of the first k points' path. -/
def lenTo (l : List Pt) : Nat → Int
  | 0 => 0
  | k + 1 => if k = 0 then 0 else lenTo l k + dst (pa l (k - 1)) (pa l k)
theorem lenTo_one (l : List Pt) : lenTo l 1 = 0 := rfl
theorem lenTo_succ (l : List Pt) (k : Nat) (h : 1 ≤ k) : lenTo l (k + 1) = lenTo l k + dst (pa l (k - 1)) (pa l k) := by
  rw [lenTo, if_neg (by omega)]
theorem lenTo_cons (a : Pt) (t : List Pt) : ∀ k, 1 ≤ k → lenTo (a :: t) (k + 1) = dst a (pa t 0) + lenTo t k
  | 0, h => absurd h (by omega)
  | 1, _ => by rw [lenTo_succ _ _ (by omega), lenTo_one, lenTo_one]; simp [pa]
  | k + 2, _ => by
    rw [lenTo_succ _ _ (by omega), lenTo_cons a t (k + 1) (by omega), lenTo_succ t (k + 1) (by omega)]
    rw [show k + 2 - 1 = k + 1 by omega, pa_succ, show (pa (a :: t) (k + 2)) = pa t (k + 1) from rfl, show k + 1 - 1 = k by omega]
    omega
theorem lenTo_all : ∀ l : List Pt, lenTo l l.length = lenL l
  | [] => rfl
  | [a] => rfl
  | a :: b :: t => by
    have ih := lenTo_all (b :: t)
    rw [show (a :: b :: t).length = (b :: t).length + 1 from rfl, lenTo_cons a (b :: t) _ (by simp), ih]
    rfl
theorem dst_range (p q : Pt) (hp : vld p.1 p.2 = true) (hq : vld q.1 q.2 = true) : 0 ≤ dst p q ∧ dst p q ≤ 1073741824 := by
  unfold vld at hp hq
  simp only [decide_eq_true_eq] at hp hq
  unfold dst; omega
theorem lenTo_range (l : List Pt) (n : Nat) (h : alTo l n = true) : ∀ k, k ≤ n → 0 ≤ lenTo l k ∧ lenTo l k ≤ k * 1073741824
  | 0, _ => by simp [lenTo]
  | k + 1, hk => by
    have ih := lenTo_range l n h k (by omega)
    unfold alTo at h
    simp only [decide_eq_true_eq] at h
    rw [lenTo]
    split
    · omega
    · have := dst_range _ _ (h (k - 1) (by omega)) (h k (by omega)); omega
/-- Horizontal and vertical segments alone. -/
def orth (l : List Pt) (k : Nat) : Bool := decide (∀ i, i < k → 1 ≤ i → (pa l (i - 1)).1 = (pa l i).1 ∨ (pa l (i - 1)).2 = (pa l i).2)
/-- The first k points, of neighboring equal ones the first alone. -/
def ddTo (l : List Pt) : Nat → List Pt
  | 0 => []
  | k + 1 => if k = 0 ∨ pa l k ≠ pa l (k - 1) then ddTo l k ++ [pa l k] else ddTo l k
theorem ddTo_dif (l : List Pt) : ∀ k, dif (ddTo l k) ∧ (1 ≤ k → ∃ s, ddTo l k = s ++ [pa l (k - 1)])
  | 0 => ⟨trivial, fun h => absurd h (by omega)⟩
  | k + 1 => by
    obtain ⟨h1, h2⟩ := ddTo_dif l k
    rw [ddTo]
    by_cases hk : k = 0
    · subst hk
      simp only [true_or, if_true]
      exact ⟨by simp [ddTo, dif], fun _ => ⟨[], by simp [ddTo]⟩⟩
    · obtain ⟨s, hs⟩ := h2 (by omega)
      by_cases he : pa l k = pa l (k - 1)
      · rw [if_neg (by rintro (h | h); exact hk h; exact h he)]
        exact ⟨h1, fun _ => ⟨s, by rw [hs, Nat.add_sub_cancel, he]⟩⟩
      · rw [if_pos (Or.inr he)]
        refine ⟨?_, fun _ => ⟨ddTo l k, rfl⟩⟩
        rw [hs, List.append_assoc]
        rw [hs] at h1
        exact (dif_snoc s _ _).2 ⟨h1, fun e => he e.symm⟩
theorem ddTo_size (l : List Pt) : ∀ k, (ddTo l k).length ≤ k
  | 0 => Nat.le_refl _
  | k + 1 => by have := ddTo_size l k; rw [ddTo]; split <;> simp <;> omega
theorem ddTo_take (l : List Pt) (h : dif l) : ∀ k, k ≤ l.length → ddTo l k = l.take k
  | 0, _ => by simp [ddTo]
  | k + 1, hk => by
    have ih := ddTo_take l h k (by omega)
    rw [ddTo, if_pos, ih]
    · rw [List.take_succ_eq_append_getElem (by omega)]
      unfold pa; rw [List.getD_eq_getElem?_getD, List.getElem?_eq_getElem (by omega)]; rfl
    · by_cases hk0 : k = 0
      · exact Or.inl hk0
      · right
        have := (dif_index l).2 h (k - 1) (by omega)
        rw [show k - 1 + 1 = k by omega] at this
        exact fun e => this e.symm
theorem ddTo_all (l : List Pt) (h : dif l) : ddTo l l.length = l := by rw [ddTo_take l h _ (Nat.le_refl _)]; simp
theorem ddTo_mem (l : List Pt) (x : Pt) : ∀ k, k ≤ l.length → x ∈ ddTo l k → x ∈ l
  | 0, _, h => absurd h (by simp [ddTo])
  | k + 1, hk, h => by
    rw [ddTo] at h
    split at h
    · rcases List.mem_append.1 h with h | h
      · exact ddTo_mem l x k (by omega) h
      · simp at h; subst h; exact pa_mem l k (by omega)
    · exact ddTo_mem l x k (by omega) h
/-- What Simplify returns. -/
def simp4 (l : List Pt) : List Pt := if decide (1 ≤ l.length ∧ l.length ≤ 512) && alTo l l.length then simpL (ddTo l l.length) else []
theorem pval_al (l : List Pt) (h : pval l = true) : alTo l l.length = true := by
  rw [pval_iff] at h
  unfold alTo
  simp only [decide_eq_true_eq]
  exact fun i hi => h.2.1 _ (pa_mem l i hi)
theorem simp4_valid (l : List Pt) (h : pval l = true) : simp4 l = simpL l := by
  have ha := pval_al l h
  have hd := ((pval_iff l).1 h).2.2
  have hn := ((pval_iff l).1 h).1
  unfold simp4
  rw [ha, ddTo_all l hd, if_pos (by simpa using hn)]
/-- A sum of n terms. -/
def sumN (f : Nat → Nat) : Nat → Nat
  | 0 => 0
  | n + 1 => sumN f n + f n
theorem sumN_add (f g : Nat → Nat) : ∀ n, sumN (fun i => f i + g i) n = sumN f n + sumN g n
  | 0 => rfl
  | n + 1 => by simp only [sumN]; rw [sumN_add f g n]; omega
theorem sumN_zero : ∀ n, sumN (fun _ => 0) n = 0
  | 0 => rfl
  | n + 1 => by simp only [sumN]; rw [sumN_zero n]
theorem sumN_swap (f : Nat → Nat → Nat) (m : Nat) : ∀ n, sumN (fun i => sumN (fun k => f i k) m) n = sumN (fun k => sumN (fun i => f i k) n) m
  | 0 => by simp only [sumN]; rw [sumN_zero]
  | n + 1 => by
    simp only [sumN]
    rw [sumN_swap f m n, ← sumN_add]
theorem sumN_le (f : Nat → Nat) (c : Nat) (h : ∀ i, f i ≤ c) : ∀ n, sumN f n ≤ n * c
  | 0 => by simp [sumN]
  | n + 1 => by have := sumN_le f c h n; have := h n; simp only [sumN, Nat.succ_mul]; omega
theorem bends_rev (l : List Pt) : bndTo l.reverse (l.length - 1) = bndTo l (l.length - 1) := by
  by_cases h : 2 ≤ l.length
  · have h1 := bends_kept l h
    have h2 := bends_kept l.reverse (by simpa using h)
    rw [simpL_rev, List.length_reverse, List.length_reverse] at h2
    omega
  · have : l.length - 1 = 0 := by omega
    rw [this]; rfl
theorem simpL_two (l : List Pt) (h : 2 ≤ l.length) : 2 ≤ (simpL l).length := by have := bends_kept l h; omega
theorem bends_simp (l : List Pt) (hd : dif l) : bndTo (simpL l) ((simpL l).length - 1) = bndTo l (l.length - 1) ∧ bndTo l (l.length - 1) = (simpL l).length - 2 := by
  by_cases h : 2 ≤ l.length
  · have h1 := bends_kept l h
    have h2 := bends_kept (simpL l) (simpL_two l h)
    rw [simpL_twice l hd] at h2
    omega
  · have h1 : l.length - 1 = 0 := by omega
    have h2 := simpL_size l
    have h3 : (simpL l).length - 1 = 0 := by omega
    have h4 : (simpL l).length - 2 = 0 := by omega
    rw [h1, h3, h4]; exact ⟨rfl, rfl⟩
theorem mn_take (g : Pt → Int) (l : List Pt) (k : Nat) (h : k < l.length) (h0 : 1 ≤ k) : mn g (l.take (k + 1)) = min (mn g (l.take k)) (g (pa l k)) := by
  rw [List.take_succ_eq_append_getElem h, mn_snoc g _ _ (by intro e; have := congrArg List.length e; rw [List.length_take] at this; simp only [List.length_nil] at this; omega)]
  unfold pa; rw [List.getD_eq_getElem?_getD, List.getElem?_eq_getElem h]; rfl
theorem mn_take_one (g : Pt → Int) (l : List Pt) (h : 1 ≤ l.length) : mn g (l.take 1) = g (pa l 0) := by
  cases l with
  | nil => simp at h
  | cons a t => simp [mn, pa]
/-- The box around points: its four sides. -/
def bx0 (l : List Pt) : Int := mn (fun p => p.1) l
def bx1 (l : List Pt) : Int := mn (fun p => p.2) l
def bx2 (l : List Pt) : Int := -mn (fun p => -p.1) l
def bx3 (l : List Pt) : Int := -mn (fun p => -p.2) l
theorem bx_rev (l : List Pt) : bx0 l.reverse = bx0 l ∧ bx1 l.reverse = bx1 l ∧ bx2 l.reverse = bx2 l ∧ bx3 l.reverse = bx3 l := by
  unfold bx0 bx1 bx2 bx3; simp only [mn_rev, and_self]
theorem bx_simp (l : List Pt) (h : dif l) : bx0 (simpL l) = bx0 l ∧ bx1 (simpL l) = bx1 l ∧ bx2 (simpL l) = bx2 l ∧ bx3 (simpL l) = bx3 l := by
  unfold bx0 bx1 bx2 bx3
  refine ⟨simpL_mn _ ?_ l h, simpL_mn _ ?_ l h, congrArg (fun n => -n) (simpL_mn _ ?_ l h), congrArg (fun n => -n) (simpL_mn _ ?_ l h)⟩
  all_goals (intro k p q hk; have := onw_between hk; omega)
theorem bx_take (l : List Pt) (k : Nat) (h : k < l.length) (h0 : 1 ≤ k) :
    bx0 (l.take (k + 1)) = min (bx0 (l.take k)) (pa l k).1 ∧ bx1 (l.take (k + 1)) = min (bx1 (l.take k)) (pa l k).2 ∧ bx2 (l.take (k + 1)) = max (bx2 (l.take k)) (pa l k).1 ∧ bx3 (l.take (k + 1)) = max (bx3 (l.take k)) (pa l k).2 := by
  unfold bx0 bx1 bx2 bx3
  rw [mn_take _ l k h h0, mn_take _ l k h h0, mn_take _ l k h h0, mn_take _ l k h h0]
  refine ⟨rfl, rfl, ?_, ?_⟩ <;> omega
theorem bx_take_one (l : List Pt) (h : 1 ≤ l.length) : bx0 (l.take 1) = (pa l 0).1 ∧ bx1 (l.take 1) = (pa l 0).2 ∧ bx2 (l.take 1) = (pa l 0).1 ∧ bx3 (l.take 1) = (pa l 0).2 := by
  unfold bx0 bx1 bx2 bx3
  rw [mn_take_one _ l h, mn_take_one _ l h, mn_take_one _ l h, mn_take_one _ l h]
  refine ⟨rfl, rfl, ?_, ?_⟩ <;> omega
/-- The ends. -/
theorem simpL_head (l : List Pt) (h : 1 ≤ l.length) : pa (simpL l) 0 = pa l 0 := by
  cases l with
  | nil => simp at h
  | cons a t => rfl
theorem pa_last (l : List Pt) : pa l (l.length - 1) = l.getLastD (0, 0) := by
  unfold pa
  rw [List.getD_eq_getElem?_getD, List.getLastD_eq_getLast?, List.getLast?_eq_getElem?]
theorem simpL_last (l : List Pt) (h : 1 ≤ l.length) : pa (simpL l) ((simpL l).length - 1) = pa l (l.length - 1) := by
  rw [pa_last l, pa_last]
  cases l with
  | nil => simp at h
  | cons a t =>
    simp only [simpL]
    cases t with
    | nil => rfl
    | cons b t =>
      have h1 := filt_last (b :: t) a a
      have e : ∀ (a d : Pt) (L : List Pt), (a :: L).getLastD d = L.getLastD a := by intro a d L; cases L <;> simp [List.getLastD]
      rw [e, e, h1]

end Go.Proofs.Ytllhdalfhhjigaa
