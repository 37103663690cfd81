/-
  The double word division answers the quotient wherever the high word is less than the divisor. Conditions: the words are unsigned numbers of 64 bits.
-/
import Derived.Test.YtgacapebngllnaaDoorArith
import Derived.Test.YtgacapebngllnaaDoorKnuth
import Derived.Deep.CutRange
import Derived.Deep.CutBlock
namespace Go.Proofs.YtgacapebngllnaaDoor
open Go.RowKit

theorem lz_of (y s : Nat) (w : World) (h1 : y ≤ 18446744073709551615) (hs : Hid (64 - (Lib.bitLen y : Int) = s)) :
    Calls Tryd.prog 48 #[.int .u64 y] w fun e w' => e = .returned (.int .i64 s) ∧ w = w' := by
  have := Tryd.bits_LeadingZeros64 y w (by omega) (by omega)
  rw [Int.toNat_natCast, hs.out] at this
  exact this.mono fun _ _ h => ⟨h.1, h.2.symm⟩

theorem cast_shift (y s : Nat) : (y : Int) * 2 ^ s = ((y * 2 ^ s : Nat) : Int) := by rw [Int.natCast_mul, Int.natCast_pow]; rfl
theorem cast_down (y s : Nat) : (y : Int) / 2 ^ s = ((y / 2 ^ s : Nat) : Int) := by rw [Int.natCast_ediv, Int.natCast_pow]; rfl

/-- What is left of the upper part, though each step wraps. -/
theorem left_wraps (U v q Y r : Nat) (h : U * 4294967296 + v = q * Y + r) (hr : r ≤ 18446744073709551615) :
    IntKind.u64.wrap (IntKind.u64.wrap (IntKind.u64.wrap ((U : Int) * 4294967296) + v) - IntKind.u64.wrap ((q : Int) * Y)) = r := by
  rw [IntKind.wrap_u64, IntKind.wrap_u64, IntKind.wrap_u64, IntKind.wrap_u64, ← Int.natCast_mul q Y]
  obtain ⟨p, hp⟩ : ∃ p, q * Y = p := ⟨_, rfl⟩
  rw [hp] at h ⊢
  omega

set_option maxHeartbeats 4000000 in
set_option maxRecDepth 100000 in
theorem div64_big (hi lo y : Nat) (w : World) (hlt : hi < y) (h0 : 0 < hi) (hy1 : y ≤ 18446744073709551615) (hl : lo ≤ 18446744073709551615) :
    Calls Tryd.prog 39 #[.int .u64 hi, .int .u64 lo, .int .u64 y] w fun e w' => (∃ r : Int, e = .returned (.tuple #[.int .u64 (((hi * 18446744073709551616 + lo) / y : Nat) : Int), .int .u64 r])) ∧ Below w.heap.size w w' := by
  obtain ⟨s, hsl⟩ : ∃ s, 64 - Lib.bitLen y = s := ⟨_, rfl⟩
  have hlen := len_bounds (y := y) (by omega) hy1
  obtain ⟨hs, hYl, hYh⟩ := shift_bounds (by omega) hy1 hsl
  have HS : Hid (64 - (Lib.bitLen y : Int) = s) := Lib.hid (by omega)
  have hmov := moved hi lo s hs
  have hor := or_add hi (lo / 2 ^ (64 - s)) s (low_lt lo s hs hl)
  have hlowlt := low_lt lo s hs hl
  have hdown := Nat.div_le_self lo (2 ^ (64 - s))
  have hcl := cast_shift lo s
  have hch := cast_shift hi s
  have hcy := cast_shift y s
  have hcd := cast_down lo (64 - s)
  have hmul : (hi * 18446744073709551616 + lo) * 2 ^ s / (y * 2 ^ s) = (hi * 18446744073709551616 + lo) / y := Nat.mul_div_mul_right _ _ (Nat.pow_pos (by decide))
  have hmax : (hi + 1) * 2 ^ s ≤ y * 2 ^ s := Nat.mul_le_mul_right _ hlt
  rw [Nat.add_mul, Nat.one_mul] at hmax
  obtain ⟨Y, hY⟩ : ∃ Y, y * 2 ^ s = Y := ⟨_, rfl⟩
  obtain ⟨H, hH⟩ : ∃ H, hi * 2 ^ s = H := ⟨_, rfl⟩
  obtain ⟨D, hD⟩ : ∃ D, lo / 2 ^ (64 - s) = D := ⟨_, rfl⟩
  obtain ⟨T, hT⟩ : ∃ T, lo * 2 ^ s = T := ⟨_, rfl⟩
  obtain ⟨P, hP⟩ : ∃ P, 2 ^ s = P := ⟨_, rfl⟩
  rw [hY] at hYl hYh hcy hmul hmax
  rw [hH, hD] at hor
  rw [hD] at hlowlt hdown hcd
  rw [hP] at hlowlt
  rw [hH, hP] at hmax
  rw [hT] at hcl
  rw [hH] at hch
  obtain ⟨L, hL⟩ : ∃ L, T % 18446744073709551616 = L := ⟨_, rfl⟩
  obtain ⟨U, hU⟩ : ∃ U, H + D = U := ⟨_, rfl⟩
  rw [hH, hD, hT, hL, hU] at hmov
  have hLl : L ≤ 18446744073709551615 := by omega
  have hUY : U < Y := by omega
  rw [hU] at hor
  obtain ⟨Y1, hY1⟩ : ∃ Y1, Y / 4294967296 = Y1 := ⟨_, rfl⟩
  obtain ⟨Y0, hY0e⟩ : ∃ Y0, Y % 4294967296 = Y0 := ⟨_, rfl⟩
  obtain ⟨L1, hL1⟩ : ∃ L1, L / 4294967296 = L1 := ⟨_, rfl⟩
  obtain ⟨L0, hL0⟩ : ∃ L0, L % 4294967296 = L0 := ⟨_, rfl⟩
  have hY1l : 2147483648 ≤ Y1 := by omega
  have hY1h : Y1 ≤ 4294967295 := by omega
  have hY1p : 0 < Y1 := by omega
  have hY0 : Y0 < 4294967296 := by omega
  have hL1h : L1 < 4294967296 := by omega
  have hL0h : L0 < 4294967296 := by omega
  have hYe : Y1 * 4294967296 + Y0 = Y := by rw [← hY1, ← hY0e]; exact Nat.div_add_mod' Y 4294967296
  have hLe : L1 * 4294967296 + L0 = L := by rw [← hL1, ← hL0]; exact Nat.div_add_mod' L 4294967296
  have hUh : U ≤ 18446744073709551614 := by omega
  -- the first half
  have hg1 := Guess.start (u := U) (v := L1) hY1l hY0 (by omega) hL1h
  obtain ⟨G, hG⟩ : ∃ G, U / Y1 = G := ⟨_, rfl⟩
  obtain ⟨g, hgr⟩ : ∃ g, U % Y1 = g := ⟨_, rfl⟩
  rw [hG, hgr] at hg1
  have hglt : g < Y1 := by rw [← hgr]; exact Nat.mod_lt _ hY1p
  obtain ⟨Q1, hQ1⟩ : ∃ Q1, (U * 4294967296 + L1) / Y = Q1 := ⟨_, rfl⟩
  obtain ⟨R1, hR1⟩ : ∃ R1, (U * 4294967296 + L1) % Y = R1 := ⟨_, rfl⟩
  have hR1l : R1 < Y := by rw [← hR1]; exact Nat.mod_lt _ (by omega)
  have hQ1l : Q1 < 4294967296 := by rw [← hQ1]; exact div_small hUY hL1h
  have hsum1 : U * 4294967296 + L1 = Q1 * Y + R1 := by rw [← hQ1, ← hR1]; exact (Nat.div_add_mod' _ _).symm
  -- the second half
  have hg0 := Guess.start (u := R1) (v := L0) hY1l hY0 (by omega) hL0h
  obtain ⟨G0, hG0⟩ : ∃ G0, R1 / Y1 = G0 := ⟨_, rfl⟩
  obtain ⟨g0, hgr0⟩ : ∃ g0, R1 % Y1 = g0 := ⟨_, rfl⟩
  rw [hG0, hgr0] at hg0
  have hglt0 : g0 < Y1 := by rw [← hgr0]; exact Nat.mod_lt _ hY1p
  obtain ⟨Q0, hQ0⟩ : ∃ Q0, (R1 * 4294967296 + L0) / Y = Q0 := ⟨_, rfl⟩
  have hQ0l : Q0 < 4294967296 := by rw [← hQ0]; exact div_small hR1l hL0h
  have hfin : (hi * 18446744073709551616 + lo) / y = Q1 * 4294967296 + Q0 := by
    have e := two_halves U L1 L0 Y (by omega)
    rw [hQ1, hR1, hQ0] at e
    have e2 : (U * 4294967296 + L1) * 4294967296 + L0 = U * 18446744073709551616 + L := by
      rw [Nat.add_mul, Nat.mul_assoc, Nat.add_assoc, hLe]
    rw [e2] at e
    rw [← hmul, ← hmov, e]
  -- the walk's own words
  have c1 : IntKind.u64.wrap ((y : Int) * 2 ^ s) = Y := by rw [hcy]; exact Mul64.wrapN _ (by omega)
  have c2 : (Y : Int) / 4294967296 = Y1 := by omega
  have c3 : bits .and .u64 (Y : Int) 4294967295 = Y0 := by rw [Mul64.maskN Y (by omega), hY0e]
  have c4 : bits .or .u64 (IntKind.u64.wrap ((hi : Int) * 2 ^ s)) ((lo : Int) / 2 ^ (64 - s)) = U := by
    rw [hch, hcd, Mul64.wrapN _ (by omega), bits_or_u64_nat _ _ (by omega) (by omega), hor]
  have c5 : IntKind.u64.wrap ((lo : Int) * 2 ^ s) = L := by rw [hcl, Mul64.wrapM, hL]
  have c6 : (L : Int) / 4294967296 = L1 := by omega
  have c7 : bits .and .u64 (L : Int) 4294967295 = L0 := by rw [Mul64.maskN L (by omega), hL0]
  have c8 : (U : Int) / (Y1 : Int) = G := by rw [← Int.natCast_ediv, hG]
  have hGY : G * Y1 ≤ U := by rw [← hG]; exact Nat.div_mul_le_self _ _
  have hGs : U = G * Y1 + g := by rw [← hG, ← hgr]; exact (Nat.div_add_mod' _ _).symm
  have c9 : (U : Int) - (G : Int) * Y1 = g := by rw [← Int.natCast_mul]; omega
  have c9a : 0 ≤ (G : Int) * Y1 := Int.mul_nonneg (by omega) (by omega)
  have c9b : (G : Int) * Y1 ≤ U := by rw [← Int.natCast_mul]; omega
  have d1 := left_wraps U L1 Q1 Y R1 hsum1 (by omega)
  have d2 : (R1 : Int) / (Y1 : Int) = G0 := by rw [← Int.natCast_ediv, hG0]
  have hGY0 : G0 * Y1 ≤ R1 := by rw [← hG0]; exact Nat.div_mul_le_self _ _
  have hGs0 : R1 = G0 * Y1 + g0 := by rw [← hG0, ← hgr0]; exact (Nat.div_add_mod' _ _).symm
  have d3 : (R1 : Int) - (G0 : Int) * Y1 = g0 := by rw [← Int.natCast_mul]; omega
  have d3a : 0 ≤ (G0 : Int) * Y1 := Int.mul_nonneg (by omega) (by omega)
  have d3b : (G0 : Int) * Y1 ≤ R1 := by rw [← Int.natCast_mul]; omega
  have HUa : Hid (U < Y1 * 4294967296 + Y0) := Lib.hid (by omega)
  have HRa : Hid (R1 < Y1 * 4294967296 + Y0) := Lib.hid (by omega)
  have HQ1 : Hid (Q1 = (U * 4294967296 + L1) / (Y1 * 4294967296 + Y0)) := Lib.hid (by rw [hYe, hQ1])
  have HQ0 : Hid (Q0 = (R1 * 4294967296 + L0) / (Y1 * 4294967296 + Y0)) := Lib.hid (by rw [hYe, hQ0])
  have HG1 := Lib.hid hg1
  have HG0 := Lib.hid hg0
  have hGm := hg1.most
  have hG0m := hg0.most
  have HFIN := Lib.hid hfin
  have HL1 := Lib.hid hL1h
  have HL0 := Lib.hid hL0h
  clear hlen hsl hmov hor hlowlt hdown hcl hch hcy hcd hmul hmax hY hH hD hT hP hL hU hY1 hY0e hL1 hL0 hYe hLe hG hgr hQ1 hR1 hsum1 hG0 hgr0 hQ0 hfin hg1 hg0 hGY hGs hGY0 hGs0
  go_enter Tryd.func39, Tryd.ntmps39
  go_wp2_with fail
  refine (lz_of y s _ (by omega) HS).mono ?_
  rintro e w' ⟨rfl, rfl⟩
  go_upto_block 0 with (fail)
  go_cut [15, 16] from 67 to 85 (fun gq gr wc => gq = .int .u64 Q1 ∧ (∃ r : Nat, gr = .int .u64 r) ∧ wc = w)
  case first =>
    go_wp2_with fail
    go_loop [15, 16] (fun gq gr => ∃ q r : Nat, gq = .int .u64 q ∧ gr = .int .u64 r ∧ q ≤ 4294967297 ∧ r < 4294967296 ∧ Guess U L1 Y1 Y0 q r) (fun gq _ => (intOf gq).toNat)
    case atStart => exact ⟨G, g, rfl, rfl, hGm, by omega, HG1.out⟩
    case round =>
      obtain ⟨q, r, rfl, rfl, hqm, hrm, hgs⟩ := hrel
      have HG := Lib.hid hgs
      have hqI : (q : Int) ≤ 4294967297 := by omega
      have hrI : (r : Int) ≤ 4294967295 := by omega
      have hyI : (Y1 : Int) ≤ 4294967295 := by omega
      have hy0I : (Y0 : Int) ≤ 4294967295 := by omega
      have hvI : (L1 : Int) ≤ 4294967295 := by omega
      have HY0 := Lib.hid hY0
      clear hgs hqm hrm hY1l hY1h hY0 c1 c2 c3 c4 c5 c6 c7 c8 c9 c9a c9b d1 d2 d3 d3a d3b hYl hYh hUY hUh hglt hglt0 hGm hG0m hR1l hQ1l hQ0l hLl hlt h0 hy1 hl hL0h hL1h
      by_cases hbig : (4294967296 : Int) ≤ q
      · obtain ⟨hq1, hn⟩ := HG.out.less HUa.out HL1.out (Or.inl (by omega))
        have HN := Lib.hid hn
        clear hn
        by_cases hst : (4294967296 : Int) ≤ (r : Int) + Y1
        · have HS2 := Lib.hid (HN.out.stop hY1p HY0.out (by omega) (by omega))
          go_wp2
          go_meet
          exact ⟨by rw [HQ1.out, ← HS2.out]; exact congrArg (Value.int .u64) (by omega), ⟨r + Y1, by go_num⟩, rfl⟩
        · go_wp2
          go_round
          case rel => exact ⟨q - 1, r + Y1, congrArg (Value.int .u64) (by omega), by go_num, by omega, by omega, HN.out⟩
          case measure => simp [intOf]; omega
      · have hm := test_small (q := q) (y0 := Y0) (by omega) HY0.out
        have hm0 : 0 ≤ (q : Int) * Y0 := Int.mul_nonneg (by omega) (by omega)
        have hm1 : (q : Int) * Y0 ≤ 18446744073709551615 := by rw [← Int.natCast_mul]; omega
        by_cases hyes : r * 4294967296 + L1 < q * Y0
        · have ht : 4294967296 * (r : Int) + L1 < (q : Int) * Y0 := by rw [← Int.natCast_mul]; omega
          obtain ⟨hq1, hn⟩ := HG.out.less HUa.out HL1.out (Or.inr hyes)
          have HN := Lib.hid hn
          clear hn hyes hm
          by_cases hst : (4294967296 : Int) ≤ (r : Int) + Y1
          · have HS2 := Lib.hid (HN.out.stop hY1p HY0.out (by omega) (by omega))
            go_wp2
            go_meet
            exact ⟨by rw [HQ1.out, ← HS2.out]; exact congrArg (Value.int .u64) (by omega), ⟨r + Y1, by go_num⟩, rfl⟩
          · go_wp2
            go_round
            case rel => exact ⟨q - 1, r + Y1, congrArg (Value.int .u64) (by omega), by go_num, by omega, by omega, HN.out⟩
            case measure => simp [intOf]; omega
        · have ht : ¬ 4294967296 * (r : Int) + L1 < (q : Int) * Y0 := by rw [← Int.natCast_mul]; omega
          have HR2 := Lib.hid (HG.out.right hY1p (by omega))
          clear hyes hm
          go_wp2
          go_meet
          exact ⟨by rw [HQ1.out, ← HR2.out], ⟨r, rfl⟩, rfl⟩
  case rest =>
    obtain ⟨rfl, ⟨rr, rfl⟩, hwc⟩ := hcut
    obtain ⟨wc0, rfl⟩ : ∃ wc0, wc0 = wc := ⟨_, rfl⟩
    subst hwc
    go_upto_block 2 with (fail)
    go_cut [18, 16] from 102 to 120 (fun gq gr wc => gq = .int .u64 Q0 ∧ (∃ r : Nat, gr = .int .u64 r) ∧ wc = wc0)
    case first =>
      go_wp2_with fail
      go_loop [18, 16] (fun gq gr => ∃ q r : Nat, gq = .int .u64 q ∧ gr = .int .u64 r ∧ q ≤ 4294967297 ∧ r < 4294967296 ∧ Guess R1 L0 Y1 Y0 q r) (fun gq _ => (intOf gq).toNat)
      case atStart => exact ⟨G0, g0, rfl, rfl, hG0m, by omega, HG0.out⟩
      case round =>
        obtain ⟨q, r, rfl, rfl, hqm, hrm, hgs⟩ := hrel
        have HG := Lib.hid hgs
        have hqI : (q : Int) ≤ 4294967297 := by omega
        have hrI : (r : Int) ≤ 4294967295 := by omega
        have hyI : (Y1 : Int) ≤ 4294967295 := by omega
        have hy0I : (Y0 : Int) ≤ 4294967295 := by omega
        have hvI : (L0 : Int) ≤ 4294967295 := by omega
        have HY0 := Lib.hid hY0
        clear hgs hqm hrm hY1l hY1h hY0 c1 c2 c3 c4 c5 c6 c7 c8 c9 c9a c9b d1 d2 d3 d3a d3b hYl hYh hUY hUh hglt hglt0 hGm hG0m hR1l hQ1l hQ0l hLl hlt h0 hy1 hl hL1h hL0h
        by_cases hbig : (4294967296 : Int) ≤ q
        · obtain ⟨hq1, hn⟩ := HG.out.less HRa.out HL0.out (Or.inl (by omega))
          have HN := Lib.hid hn
          clear hn
          by_cases hst : (4294967296 : Int) ≤ (r : Int) + Y1
          · have HS2 := Lib.hid (HN.out.stop hY1p HY0.out (by omega) (by omega))
            go_wp2
            go_meet
            exact ⟨by rw [HQ0.out, ← HS2.out]; exact congrArg (Value.int .u64) (by omega), ⟨r + Y1, by go_num⟩, rfl⟩
          · go_wp2
            go_round
            case rel => exact ⟨q - 1, r + Y1, congrArg (Value.int .u64) (by omega), by go_num, by omega, by omega, HN.out⟩
            case measure => simp [intOf]; omega
        · have hm := test_small (q := q) (y0 := Y0) (by omega) HY0.out
          have hm0 : 0 ≤ (q : Int) * Y0 := Int.mul_nonneg (by omega) (by omega)
          have hm1 : (q : Int) * Y0 ≤ 18446744073709551615 := by rw [← Int.natCast_mul]; omega
          by_cases hyes : r * 4294967296 + L0 < q * Y0
          · have ht : 4294967296 * (r : Int) + L0 < (q : Int) * Y0 := by rw [← Int.natCast_mul]; omega
            obtain ⟨hq1, hn⟩ := HG.out.less HRa.out HL0.out (Or.inr hyes)
            have HN := Lib.hid hn
            clear hn hyes hm
            by_cases hst : (4294967296 : Int) ≤ (r : Int) + Y1
            · have HS2 := Lib.hid (HN.out.stop hY1p HY0.out (by omega) (by omega))
              go_wp2
              go_meet
              exact ⟨by rw [HQ0.out, ← HS2.out]; exact congrArg (Value.int .u64) (by omega), ⟨r + Y1, by go_num⟩, rfl⟩
            · go_wp2
              go_round
              case rel => exact ⟨q - 1, r + Y1, congrArg (Value.int .u64) (by omega), by go_num, by omega, by omega, HN.out⟩
              case measure => simp [intOf]; omega
          · have ht : ¬ 4294967296 * (r : Int) + L0 < (q : Int) * Y0 := by rw [← Int.natCast_mul]; omega
            have HR2 := Lib.hid (HG.out.right hY1p (by omega))
            clear hyes hm
            go_wp2
            go_meet
            exact ⟨by rw [HQ0.out, ← HR2.out], ⟨r, rfl⟩, rfl⟩
    case rest =>
      obtain ⟨rfl, ⟨rr2, rfl⟩, rfl⟩ := hcut
      go_wp2
      go_ret2
      refine ⟨?_, Below.refl _ _⟩
      rw [HFIN.out, show ((Q1 * 4294967296 + Q0 : Nat) : Int) = (Q1 : Int) * 4294967296 + Q0 by omega]
      exact ⟨_, rfl⟩

/-- Wherever the high word is less than the divisor, whatever the words. -/
theorem divAt_any (n t d : Nat) (hd1 : d ≤ 18446744073709551615) (ht : t ≤ 18446744073709551615) : DivAt n t d ((n * 18446744073709551616 + t) / d) := by
  intro hlt W
  rcases Nat.eq_zero_or_pos n with rfl | h0
  · have e : (0 * 18446744073709551616 + t) / d = t / d := by simp
    rw [e]
    have := div64_zero t d W hlt ht hd1
    rw [← Int.natCast_ediv] at this
    exact this
  · exact div64_big n t d W hlt h0 hd1 ht

theorem divFits_any (a b d : Int) (hd : d.natAbs ≤ 18446744073709551615) : DivFits a b d := by
  intro n t D hD hs ht _
  subst hD
  have e : near (a.natAbs * b.natAbs) d.natAbs = (n * 18446744073709551616 + t) / d.natAbs := by unfold near; rw [hs]
  rw [e]
  exact divAt_any n t _ hd ht
end Go.Proofs.YtgacapebngllnaaDoor
