/-
  Plain facts on the union of boxes of layer 3: one box after the other, in any order; the box that comes out holds each valid box. No program is named here; no condition.
-/
import Derived.Test.YtllhdalfhhjigaaBoxPlain
namespace Go.Proofs.Ytllhdalfhhjigaa

/-- The union of the first k boxes, and whether one of them was valid. -/
def uni (X Y Z U : Nat → Int) : Nat → Bool × (Int × Int × Int × Int)
  | 0 => (false, (0, 0, 0, 0))
  | k + 1 => if bvld (X k) (Y k) (Z k) (U k) then
      (true, if (uni X Y Z U k).1 then (min (uni X Y Z U k).2.1 (X k), min (uni X Y Z U k).2.2.1 (Y k), max (uni X Y Z U k).2.2.2.1 (Z k), max (uni X Y Z U k).2.2.2.2 (U k)) else (X k, Y k, Z k, U k))
    else uni X Y Z U k
section
variable {X Y Z U : Nat → Int} {k : Nat} {x y z u : Int}
theorem uni_no (h : bvld (X k) (Y k) (Z k) (U k) = false) : uni X Y Z U (k + 1) = uni X Y Z U k := by
  rw [uni, if_neg (by rw [h]; simp)]
theorem uni_first {t : Int × Int × Int × Int} (h : bvld (X k) (Y k) (Z k) (U k) = true) (hu : uni X Y Z U k = (false, t)) : uni X Y Z U (k + 1) = (true, (X k, Y k, Z k, U k)) := by
  rw [uni, if_pos h, hu]; rfl
theorem uni_more (h : bvld (X k) (Y k) (Z k) (U k) = true) (hu : uni X Y Z U k = (true, (x, y, z, u))) : uni X Y Z U (k + 1) = (true, (min x (X k), min y (Y k), max z (Z k), max u (U k))) := by
  rw [uni, if_pos h, hu]; rfl
end
/-- What the union is, said without an order. -/
def IsU (X Y Z U : Nat → Int) (n : Nat) (f : Bool) (x y z u : Int) : Prop :=
  (f = true ↔ ∃ i, i < n ∧ bvld (X i) (Y i) (Z i) (U i) = true) ∧ (f = false → x = 0 ∧ y = 0 ∧ z = 0 ∧ u = 0) ∧
  (f = true → (∀ i, i < n → bvld (X i) (Y i) (Z i) (U i) = true → x ≤ X i ∧ y ≤ Y i ∧ Z i ≤ z ∧ U i ≤ u) ∧
    (∃ i, i < n ∧ bvld (X i) (Y i) (Z i) (U i) = true ∧ x = X i) ∧ (∃ i, i < n ∧ bvld (X i) (Y i) (Z i) (U i) = true ∧ y = Y i) ∧ (∃ i, i < n ∧ bvld (X i) (Y i) (Z i) (U i) = true ∧ z = Z i) ∧ (∃ i, i < n ∧ bvld (X i) (Y i) (Z i) (U i) = true ∧ u = U i))
theorem isU_uni (X Y Z U : Nat → Int) (n : Nat) : IsU X Y Z U n (uni X Y Z U n).1 (uni X Y Z U n).2.1 (uni X Y Z U n).2.2.1 (uni X Y Z U n).2.2.2.1 (uni X Y Z U n).2.2.2.2 := by
  induction n with
  | zero => unfold IsU uni; simp
  | succ k ih =>
    obtain ⟨⟨f, x, y, z, u⟩, hs⟩ : ∃ s, uni X Y Z U k = s := ⟨_, rfl⟩
    rw [hs] at ih
    obtain ⟨h1, h2, h3⟩ := ih
    simp only at h1 h2 h3
    cases hv : bvld (X k) (Y k) (Z k) (U k) with
    | false =>
      rw [uni_no hv, hs]
      refine ⟨?_, h2, fun hf => ?_⟩
      · rw [h1]
        constructor
        · rintro ⟨i, hi, hb⟩; exact ⟨i, by omega, hb⟩
        · rintro ⟨i, hi, hb⟩
          rcases Nat.lt_succ_iff_lt_or_eq.1 hi with h | rfl
          · exact ⟨i, h, hb⟩
          · rw [hv] at hb; cases hb
      · obtain ⟨g1, ⟨i1, p1, q1, r1⟩, ⟨i2, p2, q2, r2⟩, ⟨i3, p3, q3, r3⟩, ⟨i4, p4, q4, r4⟩⟩ := h3 hf
        refine ⟨fun i hi hb => ?_, ⟨i1, by omega, q1, r1⟩, ⟨i2, by omega, q2, r2⟩, ⟨i3, by omega, q3, r3⟩, ⟨i4, by omega, q4, r4⟩⟩
        rcases Nat.lt_succ_iff_lt_or_eq.1 hi with h | rfl
        · exact g1 i h hb
        · rw [hv] at hb; cases hb
    | true =>
      cases f with
      | false =>
        rw [uni_first hv hs]
        refine ⟨⟨fun _ => ⟨k, by omega, hv⟩, fun _ => rfl⟩, fun hf => (by cases hf), fun _ => ⟨fun i hi hb => ?_, ⟨k, by omega, hv, rfl⟩, ⟨k, by omega, hv, rfl⟩, ⟨k, by omega, hv, rfl⟩, ⟨k, by omega, hv, rfl⟩⟩⟩
        rcases Nat.lt_succ_iff_lt_or_eq.1 hi with h | rfl
        · exact absurd (h1.2 ⟨i, h, hb⟩) (by simp)
        · simp
      | true =>
        rw [uni_more hv hs]
        obtain ⟨g1, ⟨i1, p1, q1, r1⟩, ⟨i2, p2, q2, r2⟩, ⟨i3, p3, q3, r3⟩, ⟨i4, p4, q4, r4⟩⟩ := h3 rfl
        refine ⟨⟨fun _ => ⟨k, by omega, hv⟩, fun _ => rfl⟩, fun hf => (by cases hf), fun _ => ⟨fun i hi hb => ?_, ?_, ?_, ?_, ?_⟩⟩
        · simp only
          rcases Nat.lt_succ_iff_lt_or_eq.1 hi with h | rfl
          · have := g1 i h hb; omega
          · omega
        · by_cases h : x ≤ X k
          · exact ⟨i1, by omega, q1, by simp only; omega⟩
          · exact ⟨k, by omega, hv, by simp only; omega⟩
        · by_cases h : y ≤ Y k
          · exact ⟨i2, by omega, q2, by simp only; omega⟩
          · exact ⟨k, by omega, hv, by simp only; omega⟩
        · by_cases h : Z k ≤ z
          · exact ⟨i3, by omega, q3, by simp only; omega⟩
          · exact ⟨k, by omega, hv, by simp only; omega⟩
        · by_cases h : U k ≤ u
          · exact ⟨i4, by omega, q4, by simp only; omega⟩
          · exact ⟨k, by omega, hv, by simp only; omega⟩
theorem isU_of {X Y Z U : Nat → Int} {n : Nat} {f : Bool} {x y z u : Int} (h : uni X Y Z U n = (f, (x, y, z, u))) : IsU X Y Z U n f x y z u := by
  have := isU_uni X Y Z U n
  rw [h] at this
  exact this
theorem isU_one {X Y Z U : Nat → Int} {n : Nat} {f f' : Bool} {x y z u x' y' z' u' : Int} (h : IsU X Y Z U n f x y z u) (h' : IsU X Y Z U n f' x' y' z' u') : f = f' ∧ x = x' ∧ y = y' ∧ z = z' ∧ u = u' := by
  obtain ⟨h1, h2, h3⟩ := h
  obtain ⟨k1, k2, k3⟩ := h'
  have hf : f = f' := by rw [Bool.eq_iff_iff, h1, k1]
  subst hf
  refine ⟨rfl, ?_⟩
  cases f
  · have a := h2 rfl
    have b := k2 rfl
    omega
  · obtain ⟨g1, ⟨i1, p1, q1, r1⟩, ⟨i2, p2, q2, r2⟩, ⟨i3, p3, q3, r3⟩, ⟨i4, p4, q4, r4⟩⟩ := h3 rfl
    obtain ⟨l1, ⟨j1, s1, t1, v1⟩, ⟨j2, s2, t2, v2⟩, ⟨j3, s3, t3, v3⟩, ⟨j4, s4, t4, v4⟩⟩ := k3 rfl
    have a1 := g1 j1 s1 t1
    have a2 := g1 j2 s2 t2
    have a3 := g1 j3 s3 t3
    have a4 := g1 j4 s4 t4
    have b1 := l1 i1 p1 q1
    have b2 := l1 i2 p2 q2
    have b3 := l1 i3 p3 q3
    have b4 := l1 i4 p4 q4
    omega
theorem isU_back {X Y Z U : Nat → Int} {n : Nat} {f : Bool} {x y z u : Int} (h : IsU X Y Z U n f x y z u) : IsU (fun i => X (n - 1 - i)) (fun i => Y (n - 1 - i)) (fun i => Z (n - 1 - i)) (fun i => U (n - 1 - i)) n f x y z u := by
  obtain ⟨h1, h2, h3⟩ := h
  have key : ∀ i, i < n → n - 1 - (n - 1 - i) = i := fun i hi => by omega
  refine ⟨?_, h2, fun hf => ?_⟩
  · rw [h1]
    constructor
    · rintro ⟨i, hi, hb⟩; exact ⟨n - 1 - i, by omega, by simp only [key i hi]; exact hb⟩
    · rintro ⟨i, hi, hb⟩; exact ⟨n - 1 - i, by omega, hb⟩
  · obtain ⟨g1, ⟨i1, p1, q1, r1⟩, ⟨i2, p2, q2, r2⟩, ⟨i3, p3, q3, r3⟩, ⟨i4, p4, q4, r4⟩⟩ := h3 hf
    refine ⟨fun i hi hb => g1 (n - 1 - i) (by omega) hb, ⟨n - 1 - i1, by omega, ?_⟩, ⟨n - 1 - i2, by omega, ?_⟩, ⟨n - 1 - i3, by omega, ?_⟩, ⟨n - 1 - i4, by omega, ?_⟩⟩
    · simp only [key i1 p1]; exact ⟨q1, r1⟩
    · simp only [key i2 p2]; exact ⟨q2, r2⟩
    · simp only [key i3 p3]; exact ⟨q3, r3⟩
    · simp only [key i4 p4]; exact ⟨q4, r4⟩
/-- In any order: the boxes from the last to the first. -/
theorem uni_back (X Y Z U : Nat → Int) (n : Nat) : uni (fun i => X (n - 1 - i)) (fun i => Y (n - 1 - i)) (fun i => Z (n - 1 - i)) (fun i => U (n - 1 - i)) n = uni X Y Z U n := by
  have h := isU_one (isU_back (isU_uni X Y Z U n)) (isU_uni (fun i => X (n - 1 - i)) (fun i => Y (n - 1 - i)) (fun i => Z (n - 1 - i)) (fun i => U (n - 1 - i)) n)
  obtain ⟨h0, h1, h2, h3, h4⟩ := h
  exact Prod.ext h0.symm (Prod.ext h1.symm (Prod.ext h2.symm (Prod.ext h3.symm h4.symm)))
theorem uni_holds {X Y Z U : Nat → Int} {n i : Nat} {f : Bool} {x y z u : Int} (h : uni X Y Z U n = (f, (x, y, z, u))) (hi : i < n) (hb : bvld (X i) (Y i) (Z i) (U i) = true) : insd (X i) (Y i) (Z i) (U i) x y z u = true := by
  obtain ⟨h1, h2, h3⟩ := isU_of h
  have hf := h1.2 ⟨i, hi, hb⟩
  obtain ⟨g1, ⟨i1, p1, q1, r1⟩, ⟨i2, p2, q2, r2⟩, ⟨i3, p3, q3, r3⟩, ⟨i4, p4, q4, r4⟩⟩ := h3 hf
  have a := g1 i hi hb
  have c0 := (bvld_iff _ _ _ _).1 hb
  have c1 := (bvld_iff _ _ _ _).1 q1
  have c2 := (bvld_iff _ _ _ _).1 q2
  have c3 := (bvld_iff _ _ _ _).1 q3
  have c4 := (bvld_iff _ _ _ _).1 q4
  have hu : bvld x y z u = true := (bvld_iff _ _ _ _).2 (by omega)
  have v1 : vld (X i) (Y i) = true := (vld_iff _ _).2 (by omega)
  have v2 : vld (Z i) (U i) = true := (vld_iff _ _).2 (by omega)
  unfold insd cont within
  rw [hb, hu, v1, v2]
  simp
  omega
theorem uni_zero (X Y Z U : Nat → Int) : uni X Y Z U 0 = (false, (0, 0, 0, 0)) := rfl
end Go.Proofs.Ytllhdalfhhjigaa
