/-
  What the reference's Div returns: the quotient rounded to the nearest integer, digit by digit, or the error. Conditions: arguments are ints.
-/
import Derived.Test.YtgacapebngllnaaDoorArith
namespace Go.Proofs.YtgacapebngllnaaDoor
open Go.RowKit

/-! ### Plain facts on division digit by digit -/
/-- Behind k sums of r: how often y went in, and what is left. -/
def Sums (r y k d s : Nat) : Prop := k * r = d * y + s ∧ s < y
theorem Sums.start (r y : Nat) (h : 0 < y) : Sums r y 0 0 0 := ⟨by simp, h⟩
theorem Sums.over {r y k d s : Nat} (h : Sums r y k d s) (hr : r < y) (ho : y ≤ s + r) : Sums r y (k + 1) (d + 1) (s + r - y) := by
  obtain ⟨h1, h2⟩ := h
  refine ⟨?_, by omega⟩
  rw [Nat.add_mul, Nat.add_mul, h1]
  omega
theorem Sums.under {r y k d s : Nat} (h : Sums r y k d s) (ho : ¬ y ≤ s + r) : Sums r y (k + 1) d (s + r) := by
  obtain ⟨h1, h2⟩ := h
  refine ⟨?_, by omega⟩
  rw [Nat.add_mul, h1]
  omega
theorem Sums.le {r y k d s : Nat} (h : Sums r y k d s) (hr : r < y) : d ≤ k := by
  obtain ⟨h1, h2⟩ := h
  rcases Nat.lt_or_ge k d with h3 | h3
  · have a : (k + 1) * y ≤ d * y := Nat.mul_le_mul_right y h3
    have b : k * r ≤ k * y := Nat.mul_le_mul_left k (by omega)
    rw [Nat.add_mul] at a
    omega
  · exact h3

/-- Behind i digits: the quotient and the rest of 10^i times x. -/
def Digs (x y i q r : Nat) : Prop := 10 ^ i * x = q * y + r ∧ r < y
theorem Digs.start (x y : Nat) (h : 0 < y) : Digs x y 0 (x / y) (x % y) := ⟨by rw [Nat.pow_zero, Nat.one_mul, Nat.mul_comm]; exact (Nat.div_add_mod x y).symm, Nat.mod_lt _ h⟩
theorem Digs.next {x y i q r d s : Nat} (h : Digs x y i q r) (hs : Sums r y 10 d s) : Digs x y (i + 1) (10 * q + d) s := by
  obtain ⟨h1, _⟩ := h
  obtain ⟨h3, h4⟩ := hs
  refine ⟨?_, h4⟩
  rw [Nat.pow_succ, Nat.mul_comm (10 ^ i) 10, Nat.mul_assoc, h1, Nat.add_mul, Nat.mul_add, ← Nat.mul_assoc]
  omega
theorem Digs.last {x y q r : Nat} (h : Digs x y 3 q r) (hy : 0 < y) : near (x * 1000) y = q + if y ≤ 2 * r then 1 else 0 := by
  obtain ⟨h1, h2⟩ := h
  have e : x * 1000 = q * y + r := by rw [← h1]; omega
  have hq : (x * 1000) / y = q := by
    rw [e, Nat.mul_comm q y, Nat.mul_add_div hy, Nat.div_eq_of_lt h2, Nat.add_zero]
  have hr : (x * 1000) % y = r := by
    rw [e, Nat.mul_comm q y, Nat.mul_add_mod, Nat.mod_eq_of_lt h2]
  rw [near_rest _ _ hy, hq, hr]
theorem over_first {x y : Nat} (h : 268435456 < x / y) (hy : 0 < y) : 268435456 < near (x * 1000) y := by
  have h1 : x / y ≤ (x * 1000 + y / 2) / y := Nat.div_le_div_right (by omega)
  unfold near
  omega

theorem Sums.digit {r y d s : Nat} (h : Sums r y 10 d s) (hr : r < y) : d ≤ 9 := by
  obtain ⟨h1, _⟩ := h
  rcases Nat.lt_or_ge 9 d with h3 | h3
  · have a : 10 * y ≤ d * y := Nat.mul_le_mul_right y h3
    omega
  · exact h3
/-- The quotient stays small. -/
def Low (q i : Nat) : Prop := q + 1 ≤ 268435457 * 10 ^ i
theorem Low.next {q i d : Nat} (h : Low q i) (hd : d ≤ 9) : Low (10 * q + d) (i + 1) := by
  unfold Low at *
  rw [Nat.pow_succ]
  omega
theorem Low.le {q i : Nat} (h : Low q i) (hi : i ≤ 3) : q ≤ 268435457000 := by
  unfold Low at h
  have h1 : 10 ^ i ≤ 10 ^ 3 := Nat.pow_le_pow_right (by decide) hi
  have h2 : 268435457 * 10 ^ i ≤ 268435457 * 10 ^ 3 := Nat.mul_le_mul_left _ h1
  omega

theorem div_casts (x y : Nat) : ((x : Int) / y = ((x / y : Nat) : Int)) ∧ ((x : Int) % y = ((x % y : Nat) : Int)) := ⟨(Int.natCast_ediv x y).symm, (Int.natCast_emod x y).symm⟩

theorem refDiv_zero (a : Int) (w : World) :
    Calls Tryd.prog 17 #[.int .i64 a, .int .i64 0] w fun e w' => e = .returned (divV a 0) ∧ Below w.heap.size w w' := by
  go_enter Tryd.func17, Tryd.ntmps17
  go_wp2
  go_ret2
  exact ⟨rfl, Below.refl _ _⟩

set_option maxHeartbeats 4000000 in
theorem refDiv_any (a b : Int) (w : World) (ha0 : -9223372036854775808 ≤ a) (ha1 : a ≤ 9223372036854775807) (hb0 : -9223372036854775808 ≤ b) (hb1 : b ≤ 9223372036854775807) (hb : b ≠ 0) :
    Calls Tryd.prog 17 #[.int .i64 a, .int .i64 b] w fun e w' => e = .returned (divV a b) ∧ Below w.heap.size w w' := by
  obtain ⟨x, hx⟩ : ∃ x, a.natAbs = x := ⟨_, rfl⟩
  obtain ⟨y, hy⟩ : ∃ y, b.natAbs = y := ⟨_, rfl⟩
  have hx1 : x ≤ 9223372036854775808 := by omega
  have hy1 : y ≤ 9223372036854775808 := by omega
  have hy0 : 0 < y := by omega
  have HV : Hid (divV a b = signedV (near (x * 1000) y) (!(decide (a < 0) == decide (b < 0)))) := Lib.hid (by rw [divV, if_neg hb, hx, hy])
  have hbz : ((b : Int) == 0) = false := by rw [beq_eq_false_iff_ne]; exact hb
  have HX := Lib.hid hx
  have HY := Lib.hid hy
  obtain ⟨q0, hq0⟩ : ∃ q, x / y = q := ⟨_, rfl⟩
  obtain ⟨r0, hr0⟩ : ∃ r, x % y = r := ⟨_, rfl⟩
  have hc := div_casts x y
  rw [hq0, hr0] at hc
  obtain ⟨hcq, hcr⟩ := hc
  have hst := Digs.start x y hy0
  rw [hq0, hr0] at hst
  have hr0y : r0 < y := hst.2
  have hq0x : q0 ≤ x := by rw [← hq0]; exact Nat.div_le_self _ _
  have HST := Lib.hid hst
  have HOV : Hid (268435456 < q0 → 268435456 < near (x * 1000) y) := Lib.hid (fun h => over_first (by rw [hq0]; exact h) hy0)
  clear hx hy hq0 hr0 hst hb
  by_cases ho : 268435456 < q0
  · go_enter Tryd.func17, Tryd.ntmps17
    go_wp2_with (go_at_call 27; refine (abs_of _ _ _ (by omega) (by omega) (by first | exact HX | exact HY)).mono ?_; rintro e w' ⟨rfl, rfl⟩)
    go_quiet (fail)
    go_wp2
    go_ret2
    refine ⟨?_, below_drewN (Below.refl _ _) _⟩
    rw [HV.out, signedV_over (HOV.out ho)]
    rfl
  · obtain ⟨v1, v2, hv⟩ : ∃ v1 v2 : Int, divV a b = .tuple #[.int .i64 v1, .int .i64 v2] := by rw [HV.out]; exact signedV_two _ _
    have HVV := Lib.hid hv
    clear hv
    go_enter Tryd.func17, Tryd.ntmps17
    go_wp2_with (go_at_call 27; refine (abs_of _ _ _ (by omega) (by omega) (by first | exact HX | exact HY)).mono ?_; rintro e w' ⟨rfl, rfl⟩)
    go_quiet (fail)
    go_wp2
    go_loop [8, 9, 10] (fun qv rv iv => ∃ q r i : Nat, qv = .int .u64 q ∧ rv = .int .u64 r ∧ iv = .int .i64 i ∧ i ≤ 3 ∧ r < y ∧ q ≤ 268435457000 ∧ Low q i ∧ Digs x y i q r) (fun _ _ iv => 3 - (intOf iv).toNat)
    case atStart => exact ⟨q0, r0, 0, (by first | rfl | rw [hcq]), (by first | rfl | rw [hcr]), rfl, by omega, hr0y, by omega, by unfold Low; omega, HST.out⟩
    case round =>
      obtain ⟨q, r, i, rfl, rfl, rfl, hi, hry, hqb, hlow, hdg⟩ := hrel
      have HDG := Lib.hid hdg
      have HLO := Lib.hid hlow
      clear hdg hlow hcq hcr
      by_cases hlt : i < 3
      · go_wp2
        go_loop [11, 12, 13] (fun dv sv kv => ∃ d s k : Nat, dv = .int .u64 d ∧ sv = .int .u64 s ∧ kv = .int .i64 k ∧ k ≤ 10 ∧ d ≤ 10 ∧ s < y ∧ Sums r y k d s) (fun _ _ kv => 10 - (intOf kv).toNat)
        case atStart => exact ⟨0, 0, 0, rfl, rfl, rfl, by omega, by omega, hy0, Sums.start r y hy0⟩
        case round =>
          obtain ⟨d, s, k, rfl, rfl, rfl, hk, hd, hs, hsum⟩ := hrel
          have HSU := Lib.hid hsum
          clear hsum
          by_cases hk10 : k < 10
          · by_cases hov : y ≤ s + r
            · have HN := Lib.hid (HSU.out.over hry hov)
              have hdk := HN.out.le hry
              go_wp2
              go_round
              case rel => exact ⟨d + 1, s + r - y, k + 1, by go_num, congrArg (Value.int .u64) (by omega), by go_num, by omega, by omega, by omega, HN.out⟩
              case measure => simp [intOf]; omega
            · have HN := Lib.hid (HSU.out.under hov)
              go_wp2
              go_round
              case rel => exact ⟨d, s + r, k + 1, rfl, by go_num, by go_num, by omega, by omega, by omega, HN.out⟩
              case measure => simp [intOf]; omega
          · obtain rfl : k = 10 := by omega
            have hd9 := HSU.out.digit hry
            have HN := Lib.hid (HDG.out.next HSU.out)
            have HL := Lib.hid (HLO.out.next hd9)
            have hq2 := HL.out.le (by omega)
            go_wp2
            go_round
            case rel => exact ⟨10 * q + d, s, i + 1, by go_num, rfl, by go_num, by omega, hs, hq2, HL.out, HN.out⟩
            case measure => simp [intOf]; omega
      · obtain rfl : i = 3 := by omega
        have hfin := HDG.out.last hy0
        by_cases h2 : y ≤ 2 * r
        · rw [if_pos h2] at hfin
          have HR : Hid (signedV ((q : Int) + 1).toNat (!(decide (a < 0) == decide (b < 0))) = .tuple #[.int .i64 v1, .int .i64 v2]) := Lib.hid (by rw [show ((q : Int) + 1).toNat = q + 1 by omega, ← hfin, ← HV.out]; exact HVV.out)
          clear hfin
          go_wp2_with fail
          refine (signed_of _ _ _ _ (by omega) (by omega) HR).mono ?_
          rintro e w' ⟨rfl, rfl⟩
          go_wp2
          go_ret2
          refine ⟨?_, below_drewN (Below.refl _ _) _⟩
          rw [HVV.out]
          rfl
        · rw [if_neg h2, Nat.add_zero] at hfin
          have HR : Hid (signedV (q : Int).toNat (!(decide (a < 0) == decide (b < 0))) = .tuple #[.int .i64 v1, .int .i64 v2]) := Lib.hid (by rw [Int.toNat_natCast, ← hfin, ← HV.out]; exact HVV.out)
          clear hfin
          go_wp2_with fail
          refine (signed_of _ _ _ _ (by omega) (by omega) HR).mono ?_
          rintro e w' ⟨rfl, rfl⟩
          go_wp2
          go_ret2
          refine ⟨?_, below_drewN (Below.refl _ _) _⟩
          rw [HVV.out]
          rfl
end Go.Proofs.YtgacapebngllnaaDoor
