/-
  What Mul and Div of layer 1 and of its reference return: the quotient rounded to the nearest integer, or the error; the double word division is taken where its high word is 0. Conditions: arguments are ints, divisors are not 0 where the call would panic.
-/
import Derived.Test.YtgacapebngllnaaDoorNum
import Derived.Test.YtgacapebngllnaaDoorShelf
import Derived.Laws.Externs
import Derived.Deep.QuietTactic
import Derived.BigQuiet
import Derived.Deep.DeepFit
namespace Go.Proofs.YtgacapebngllnaaDoor
open Go.RowKit

theorem magnitude_of (n : Int) (x : Nat) (w : World) (h0 : -9223372036854775808 ≤ n) (h1 : n ≤ 9223372036854775807) (hx : Hid (n.natAbs = x)) :
    Calls Tryd.prog 20 #[.int .i64 n] w fun e w' => e = .returned (.int .u64 x) ∧ w = w' := by
  have := magnitude_any n w h0 h1
  rw [hx.out] at this
  exact this.mono fun _ _ h => ⟨h.1, h.2.symm⟩

theorem abs_of (n : Int) (x : Nat) (w : World) (h0 : -9223372036854775808 ≤ n) (h1 : n ≤ 9223372036854775807) (hx : Hid (n.natAbs = x)) :
    Calls Tryd.prog 27 #[.int .i64 n] w fun e w' => e = .returned (.int .u64 x) ∧ w = w' := by
  have := abs_any n w h0 h1
  rw [hx.out] at this
  exact this.mono fun _ _ h => ⟨h.1, h.2.symm⟩

theorem signed_of (n : Int) (v : Value) (m : Bool) (w : World) (h0 : 0 ≤ n) (h1 : n ≤ 18446744073709551615) (hv : Hid (signedV n.toNat m = v)) :
    Calls Tryd.prog 30 #[.int .u64 n, .bool m] w fun e w' => e = .returned v ∧ w = w' := by
  have := signed_any n m w h0 h1
  rw [hv.out] at this
  exact this.mono fun _ _ h => ⟨h.1, h.2.symm⟩

/-- A value with two parts. -/
def Two (v : Value) (a b : Value) : Prop := v = .tuple #[a, b]
theorem signedV_two (n : Nat) (m : Bool) : ∃ a b : Int, signedV n m = .tuple #[.int .i64 a, .int .i64 b] := by
  unfold signedV
  split
  · exact ⟨_, _, rfl⟩
  · split <;> exact ⟨_, _, rfl⟩

/-- What Mul answers. -/
def mulV (a b : Int) : Value := signedV (near (a.natAbs * b.natAbs) 1000) (!(decide (a < 0) == decide (b < 0)))

theorem near_over {p : Nat} (h : ¬ p ≤ 268435456499) : 268435456 < near p 1000 := by rw [near_thousand]; omega
theorem signedV_over {n : Nat} (h : 268435456 < n) (m : Bool) : signedV n m = .tuple #[.int .i64 0, .int .i64 16] := by unfold signedV; rw [if_pos h]

theorem refMul_any (a b : Int) (w : World) (ha0 : -9223372036854775808 ≤ a) (ha1 : a ≤ 9223372036854775807) (hb0 : -9223372036854775808 ≤ b) (hb1 : b ≤ 9223372036854775807) :
    Calls Tryd.prog 15 #[.int .i64 a, .int .i64 b] w fun e w' => e = .returned (mulV a b) ∧ w = w' := by
  obtain ⟨x, hx⟩ : ∃ x, a.natAbs = x := ⟨_, rfl⟩
  obtain ⟨y, hy⟩ : ∃ y, b.natAbs = y := ⟨_, rfl⟩
  have hx1 : x ≤ 9223372036854775808 := by omega
  have hy1 : y ≤ 9223372036854775808 := by omega
  have HV : Hid (mulV a b = signedV (near (x * y) 1000) (!(decide (a < 0) == decide (b < 0)))) := Lib.hid (by rw [mulV, hx, hy])
  have HX := Lib.hid hx
  have HY := Lib.hid hy
  clear hx hy
  by_cases hc : x * y ≤ 268435456499
  · obtain ⟨hp0, hp1⟩ := prod_cast x y hc
    have he := near_cast x y
    obtain ⟨r, e, hr⟩ := signedV_two (near (x * y) 1000) (!(decide (a < 0) == decide (b < 0)))
    have HR : Hid (signedV (((x : Int) * y + 500) / 1000).toNat (!(decide (a < 0) == decide (b < 0))) = .tuple #[.int .i64 r, .int .i64 e]) := Lib.hid (by rw [he]; exact hr)
    have HE := Lib.hid hr
    clear he hr
    by_cases hz : 0 < x
    · have HT := most_yes x y hz hc
      have hq0 : 0 ≤ (268435456499 : Int) / x := Int.ediv_nonneg (by omega) (by omega)
      have hq1 : (268435456499 : Int) / x ≤ 268435456499 := Int.ediv_le_self _ (by omega)
      clear hc
      go_enter Tryd.func15, Tryd.ntmps15
      go_wp2_with (go_at_call 27; refine (abs_of _ _ _ (by omega) (by omega) (by first | exact HX | exact HY)).mono ?_; rintro e w' ⟨rfl, rfl⟩)
      refine (signed_of _ _ _ _ (by omega) (by omega) HR).mono ?_
      rintro e w' ⟨rfl, rfl⟩
      go_wp2
      go_ret2
      refine ⟨?_, rfl⟩
      rw [HV.out, HE.out]
      rfl
    · clear hc
      go_enter Tryd.func15, Tryd.ntmps15
      go_wp2_with (go_at_call 27; refine (abs_of _ _ _ (by omega) (by omega) (by first | exact HX | exact HY)).mono ?_; rintro e w' ⟨rfl, rfl⟩)
      refine (signed_of _ _ _ _ (by omega) (by omega) HR).mono ?_
      rintro e w' ⟨rfl, rfl⟩
      go_wp2
      go_ret2
      refine ⟨?_, rfl⟩
      rw [HV.out, HE.out]
      rfl
  · have hz : 0 < x := by
      rcases Nat.eq_zero_or_pos x with rfl | h
      · simp at hc
      · exact h
    have HT := most_no x y hz hc
    have hq0 : 0 ≤ (268435456499 : Int) / x := Int.ediv_nonneg (by omega) (by omega)
    have hq1 : (268435456499 : Int) / x ≤ 268435456499 := Int.ediv_le_self _ (by omega)
    have HC := Lib.hid hc
    clear hc
    go_enter Tryd.func15, Tryd.ntmps15
    go_wp2_with (go_at_call 27; refine (abs_of _ _ _ (by omega) (by omega) (by first | exact HX | exact HY)).mono ?_; rintro e w' ⟨rfl, rfl⟩)
    go_ret2
    refine ⟨?_, rfl⟩
    rw [HV.out, signedV_over (near_over HC.out)]
    rfl

/-! ### Two words -/
theorem mul64_of (x y hi lo : Nat) (w : World) (hx : x ≤ 18446744073709551615) (hy : y ≤ 18446744073709551615) (h1 : Hid (x * y / 18446744073709551616 = hi)) (h2 : Hid (x * y % 18446744073709551616 = lo)) :
    Calls Tryd.prog 37 #[.int .u64 x, .int .u64 y] w fun e w' => e = .returned (.tuple #[.int .u64 hi, .int .u64 lo]) ∧ w = w' := by
  have := Tryd.bits_Mul64 x y (by omega) (by omega) w
  rw [h1.out, h2.out] at this
  exact this.mono fun _ _ h => ⟨h.1, h.2.symm⟩

theorem add64_of (lo d c t : Nat) (h1 : Hid ((lo + d / 2) / 18446744073709551616 = c)) (h2 : Hid ((lo + d / 2) % 18446744073709551616 = t)) (w : World) :
    (callFunc 38 #[.int .u64 lo, .int .u64 ((d : Int) / 2), .int .u64 0]).run Tryd.prog w = .ok (.value (.tuple #[.int .u64 t, .int .u64 c])) w := by
  rw [run_callFunc_extern Tryd.func38 (by kernel_rfl) (by kernel_rfl) (by kernel_rfl) (e := add64Entry) (by kernel_rfl), run_add64 _ _ _ (by omega) (by omega) (by omega) (by omega)]
  have e1 := h1.out
  have e2 := h2.out
  have g1 : ((lo : Int) + (d : Int) / 2 + 0) % 18446744073709551616 = t := by omega
  have g2 : ((lo : Int) + (d : Int) / 2 + 0) / 18446744073709551616 = c := by omega
  rw [g1, g2]
  rfl

theorem div64_zero (lo y : Nat) (w : World) (hy : 0 < y) (hl : lo ≤ 18446744073709551615) (hy1 : y ≤ 18446744073709551615) :
    Calls Tryd.prog 39 #[.int .u64 0, .int .u64 lo, .int .u64 y] w fun e w' => (∃ r : Int, e = .returned (.tuple #[.int .u64 ((lo : Int) / y), .int .u64 r])) ∧ Below w.heap.size w w' := by
  have hq0 : 0 ≤ (lo : Int) / y := Int.ediv_nonneg (by omega) (by omega)
  have hq1 : (lo : Int) / y ≤ lo := Int.ediv_le_self _ (by omega)
  have ht : decide ((y : Int) ≤ 0) = false := by simp; omega
  go_enter Tryd.func39, Tryd.ntmps39
  go_wp2
  go_quiet (fail)
  go_wp2
  go_ret2
  exact ⟨⟨_, rfl⟩, below_drewN (Below.refl _ _) _⟩

/-- A sign out of three. -/
def sign3 (a b d : Int) : Bool := !((!(decide (a < 0) == decide (b < 0))) == decide (d < 0))
/-- What a * b / d, rounded, is answered with. -/
def ratioV (a b d : Int) : Value := signedV (near (a.natAbs * b.natAbs) d.natAbs) (sign3 a b d)

theorem signedV_pos {n : Nat} (h : ¬ 268435456 < n) : signedV n false = .tuple #[.int .i64 n, .int .i64 0] := by unfold signedV; rw [if_neg h]; rfl
theorem signedV_neg {n : Nat} (h : ¬ 268435456 < n) : signedV n true = .tuple #[.int .i64 (-(n : Int)), .int .i64 0] := by unfold signedV; rw [if_neg h]; rfl

/-- The double word division answers q at these words. -/
def DivAt (n t d q : Nat) : Prop := n < d → ∀ W : World, Calls Tryd.prog 39 #[.int .u64 n, .int .u64 t, .int .u64 d] W fun e w' => (∃ r : Int, e = .returned (.tuple #[.int .u64 q, .int .u64 r])) ∧ Below W.heap.size W w'

set_option maxHeartbeats 1000000 in
theorem ratio_core (a b d : Int) (w : World) (ha0 : -9223372036854775808 ≤ a) (ha1 : a ≤ 9223372036854775807) (hb0 : -9223372036854775808 ≤ b) (hb1 : b ≤ 9223372036854775807) (hd0 : -9223372036854775808 ≤ d) (hd1 : d ≤ 9223372036854775807) (hd : d ≠ 0)
    (hdiv : ∀ n t D, D = d.natAbs → n * 18446744073709551616 + t = a.natAbs * b.natAbs + D / 2 → t ≤ 18446744073709551615 → n ≤ 4611686018427387905 → DivAt n t D (near (a.natAbs * b.natAbs) D)) :
    Calls Tryd.prog 29 #[.int .i64 a, .int .i64 b, .int .i64 d] w fun e w' => e = .returned (ratioV a b d) ∧ Below w.heap.size w w' := by
  obtain ⟨x, hx⟩ : ∃ x, a.natAbs = x := ⟨_, rfl⟩
  obtain ⟨y, hy⟩ : ∃ y, b.natAbs = y := ⟨_, rfl⟩
  obtain ⟨D, hD⟩ : ∃ D, d.natAbs = D := ⟨_, rfl⟩
  rw [hx, hy, hD] at hdiv
  have hx1 : x ≤ 9223372036854775808 := by omega
  have hy1 : y ≤ 9223372036854775808 := by omega
  have hD1 : D ≤ 9223372036854775808 := by omega
  have hD0 : 0 < D := by omega
  have HV : Hid (ratioV a b d = signedV (near (x * y) D) (sign3 a b d)) := Lib.hid (by rw [ratioV, hx, hy, hD])
  have HX := Lib.hid hx
  have HY := Lib.hid hy
  have HD := Lib.hid hD
  clear hx hy hD hd
  obtain ⟨hi, e1⟩ : ∃ hi, x * y / 18446744073709551616 = hi := ⟨_, rfl⟩
  obtain ⟨lo, e2⟩ : ∃ lo, x * y % 18446744073709551616 = lo := ⟨_, rfl⟩
  obtain ⟨c, e3⟩ : ∃ c, (lo + D / 2) / 18446744073709551616 = c := ⟨_, rfl⟩
  obtain ⟨t, e4⟩ : ∃ t, (lo + D / 2) % 18446744073709551616 = t := ⟨_, rfl⟩
  have hhi := hi_le hx1 hy1 e1
  have hlo : lo ≤ 18446744073709551615 := by omega
  have hc := carry_le (by omega) hD1 e3
  have ht : t ≤ 18446744073709551615 := by omega
  have hsum : (hi + c) * 18446744073709551616 + t = x * y + D / 2 := by omega
  have hnear := two_words e1 e2 e3 e4
  have hover := two_words_over (n := hi + c) (t := t) hD0
  rw [← hnear] at hover
  have hfit := two_words_fit (n := hi + c) (d := D) (t := t)
  rw [← hnear] at hfit
  obtain ⟨n, hn⟩ : ∃ n, hi + c = n := ⟨_, rfl⟩
  obtain ⟨q, hq⟩ : ∃ q, near (x * y) D = q := ⟨_, rfl⟩
  rw [hn] at hsum hover hfit
  have hdv := hdiv n t D rfl hsum ht (by omega)
  rw [hq] at hdv hover hfit HV
  have hnI : (hi : Int) + c = n := by omega
  have HDV := Lib.hid hdv
  have HO := Lib.hid hover
  have HF := Lib.hid hfit
  have E1 := Lib.hid e1
  have E2 := Lib.hid e2
  have hadd := add64_of lo D c t (Lib.hid e3) (Lib.hid e4)
  clear hdiv hdv hover hfit hnear hsum e1 e2 e3 e4 hn hq
  by_cases hnd : D ≤ n
  · go_enter Tryd.func29, Tryd.ntmps29
    go_wp2_with (first
      | (go_at_call 20; refine (magnitude_of _ _ _ (by omega) (by omega) (by first | exact HX | exact HY | exact HD)).mono ?_; rintro e w' ⟨rfl, rfl⟩)
      | (go_at_call 37; refine (mul64_of x y hi lo _ (by omega) (by omega) E1 E2).mono ?_; rintro e w' ⟨rfl, rfl⟩))
    go_ret2
    refine ⟨?_, Below.refl _ _⟩
    rw [HV.out, signedV_over (HO.out hnd)]
    rfl
  · have HC := HDV.out (by omega)
    have hq64 := HF.out (by omega) ht
    have HCC := Lib.hid HC
    clear HC
    by_cases hqm : 268435456 < q
    · have HQ := Lib.hid hqm
      go_enter Tryd.func29, Tryd.ntmps29
      go_wp2_with (first
        | (go_at_call 20; refine (magnitude_of _ _ _ (by omega) (by omega) (by first | exact HX | exact HY | exact HD)).mono ?_; rintro e w' ⟨rfl, rfl⟩)
        | (go_at_call 37; refine (mul64_of x y hi lo _ (by omega) (by omega) E1 E2).mono ?_; rintro e w' ⟨rfl, rfl⟩))
      refine (HCC.out _).mono ?_
      rintro e w' ⟨⟨r, rfl⟩, hb⟩
      go_wp2
      go_ret2
      refine ⟨?_, hb⟩
      rw [HV.out, signedV_over HQ.out]
      rfl
    · have HQ := Lib.hid hqm
      go_enter Tryd.func29, Tryd.ntmps29
      go_wp2_with (first
        | (go_at_call 20; refine (magnitude_of _ _ _ (by omega) (by omega) (by first | exact HX | exact HY | exact HD)).mono ?_; rintro e w' ⟨rfl, rfl⟩)
        | (go_at_call 37; refine (mul64_of x y hi lo _ (by omega) (by omega) E1 E2).mono ?_; rintro e w' ⟨rfl, rfl⟩))
      refine (HCC.out _).mono ?_
      rintro e w' ⟨⟨r, rfl⟩, hb⟩
      go_wp2
      · have hs : sign3 a b d = true := by unfold sign3; assumption
        go_ret2
        refine ⟨?_, hb⟩
        rw [HV.out, hs, signedV_neg HQ.out]
        rfl
      · have hs : sign3 a b d = false := by unfold sign3; assumption
        go_ret2
        refine ⟨?_, hb⟩
        rw [HV.out, hs, signedV_pos HQ.out]
        rfl

theorem Below.size_le {B : Nat} {w w' : World} (h : Below B w w') : w.heap.size ≤ w'.heap.size := h.size

theorem ratioV_two (a b d : Int) : ∃ r e : Int, ratioV a b d = .tuple #[.int .i64 r, .int .i64 e] := signedV_two _ _

theorem ratioV_mul (a b : Int) : ratioV a b 1000 = mulV a b := by
  unfold ratioV mulV sign3
  rw [show (decide ((1000 : Int) < 0)) = false from rfl]
  simp

/-- What Div answers. -/
def divV (a b : Int) : Value := if b = 0 then .tuple #[.int .i64 0, .int .i64 1] else signedV (near (a.natAbs * 1000) b.natAbs) (!(decide (a < 0) == decide (b < 0)))
theorem divV_zero (a : Int) : divV a 0 = .tuple #[.int .i64 0, .int .i64 1] := rfl
theorem ratioV_div (a b : Int) (hb : b ≠ 0) : ratioV a 1000 b = divV a b := by
  unfold ratioV divV sign3
  rw [if_neg hb, show (decide ((1000 : Int) < 0)) = false from rfl]
  simp

/-- The double word division is right wherever ratio takes it at these arguments. -/
def DivFits (a b d : Int) : Prop := ∀ n t D, D = d.natAbs → n * 18446744073709551616 + t = a.natAbs * b.natAbs + D / 2 → t ≤ 18446744073709551615 → n ≤ 4611686018427387905 → DivAt n t D (near (a.natAbs * b.natAbs) D)

theorem mul_core (a b : Int) (w : World) (ha0 : -9223372036854775808 ≤ a) (ha1 : a ≤ 9223372036854775807) (hb0 : -9223372036854775808 ≤ b) (hb1 : b ≤ 9223372036854775807) (hdiv : DivFits a b 1000) :
    Calls Tryd.prog 14 #[.int .i64 a, .int .i64 b] w fun e w' => e = .returned (mulV a b) ∧ Below w.heap.size w w' := by
  have h := ratio_core a b 1000 w ha0 ha1 hb0 hb1 (by omega) (by omega) (by omega) hdiv
  rw [ratioV_mul] at h
  obtain ⟨r, e, hv⟩ : ∃ r e : Int, mulV a b = .tuple #[.int .i64 r, .int .i64 e] := signedV_two _ _
  rw [hv] at h ⊢
  have H := Lib.hid h
  clear h hv hdiv
  go_enter Tryd.func14, Tryd.ntmps14
  go_wp2_with fail
  refine H.out.mono ?_
  rintro e' w' ⟨rfl, hb⟩
  go_wp2
  go_ret2
  exact ⟨rfl, hb⟩

theorem div_core (a b : Int) (w : World) (ha0 : -9223372036854775808 ≤ a) (ha1 : a ≤ 9223372036854775807) (hb0 : -9223372036854775808 ≤ b) (hb1 : b ≤ 9223372036854775807) (hdiv : b ≠ 0 → DivFits a 1000 b) :
    Calls Tryd.prog 16 #[.int .i64 a, .int .i64 b] w fun e w' => e = .returned (divV a b) ∧ Below w.heap.size w w' := by
  by_cases hz : b = 0
  · subst hz
    clear hdiv
    go_enter Tryd.func16, Tryd.ntmps16
    go_wp2
    go_ret2
    exact ⟨rfl, Below.refl _ _⟩
  · have h := ratio_core a 1000 b w ha0 ha1 (by omega) (by omega) hb0 hb1 hz (hdiv hz)
    rw [ratioV_div a b hz] at h
    obtain ⟨r, e, hv⟩ : ∃ r e : Int, divV a b = .tuple #[.int .i64 r, .int .i64 e] := by unfold divV; rw [if_neg hz]; exact signedV_two _ _
    rw [hv] at h ⊢
    have H := Lib.hid h
    clear h hv hdiv
    go_enter Tryd.func16, Tryd.ntmps16
    go_wp2_with fail
    refine H.out.mono ?_
    rintro e' w' ⟨rfl, hb⟩
    go_wp2
    go_ret2
    exact ⟨rfl, hb⟩
end Go.Proofs.YtgacapebngllnaaDoor
