/-
  The examples of the chapter come out as it says: awake returns true. Conditions: the table of powers of ten holds what the library lays.
-/
import Derived.Test.YtgacapebngllnaaDoorParse
import Derived.Test.YtgacapebngllnaaDoorFormat
namespace Go.Proofs.YtgacapebngllnaaDoor
open Go.RowKit

theorem divFits_small (a b d : Int) (hd : 0 < d.natAbs) (hd1 : d.natAbs ≤ 18446744073709551615) (h : a.natAbs * b.natAbs + d.natAbs / 2 ≤ 18446744073709551615) : DivFits a b d := by
  intro n t D hD hs ht hn hlt W
  subst hD
  obtain rfl : n = 0 := by omega
  have e : near (a.natAbs * b.natAbs) d.natAbs = t / d.natAbs := by unfold near; rw [← hs]; simp
  rw [e]
  have := div64_zero t d.natAbs W hd ht hd1
  rw [← Int.natCast_ediv] at this
  exact this

theorem format_of (n : Int) (l : List UInt8) (w : World) (h0 : -9223372036854775808 ≤ n) (h1 : n ≤ 9223372036854775807) (htab : Hid (Tab w)) (hl : Hid (fmtL n = l)) :
    Calls Tryd.prog 9 #[.int .i64 n] w fun e w' => e = .returned (.string ⟨l.toArray⟩) ∧ Below w.heap.size w w' := by
  have := format_any n w h0 h1 htab.out
  rw [hl.out] at this
  exact this

theorem parse_of (s : ByteArray) (v : Value) (w : World) (hs : s.size ≤ 9223372036854775806) (hv : Hid (parseV s.data.toList = v)) :
    Calls Tryd.prog 10 #[.string s] w fun e w' => e = .returned v ∧ w = w' := by
  have := parse_any s w hs
  rw [hv.out] at this
  exact this
theorem parse_lit (l : List UInt8) (v : Value) (w : World) (hs : l.length ≤ 1000) (hv : Hid (parseV l = v)) :
    Calls Tryd.prog 10 #[.string ⟨l.toArray⟩] w fun e w' => e = .returned v ∧ w = w' :=
  parse_of ⟨l.toArray⟩ v w (by rw [Lib.size_mk]; omega) hv

theorem mul_of (a b : Int) (v : Value) (w : World) (ha0 : -9223372036854775808 ≤ a) (ha1 : a ≤ 9223372036854775807) (hb0 : -9223372036854775808 ≤ b) (hb1 : b ≤ 9223372036854775807) (hdiv : DivFits a b 1000) (hv : Hid (mulV a b = v)) :
    Calls Tryd.prog 14 #[.int .i64 a, .int .i64 b] w fun e w' => e = .returned v ∧ Below w.heap.size w w' := by
  have := mul_core a b w ha0 ha1 hb0 hb1 hdiv
  rw [hv.out] at this
  exact this

theorem div_of (a b : Int) (v : Value) (w : World) (ha0 : -9223372036854775808 ≤ a) (ha1 : a ≤ 9223372036854775807) (hb0 : -9223372036854775808 ≤ b) (hb1 : b ≤ 9223372036854775807) (hdiv : b ≠ 0 → DivFits a 1000 b) (hv : Hid (divV a b = v)) :
    Calls Tryd.prog 16 #[.int .i64 a, .int .i64 b] w fun e w' => e = .returned v ∧ Below w.heap.size w w' := by
  have := div_core a b w ha0 ha1 hb0 hb1 hdiv
  rw [hv.out] at this
  exact this

theorem sqrt_of (n : Int) (k : Nat) (w : World) (h0 : -9223372036854775808 ≤ n) (h1 : n ≤ 9223372036854775807) (hk : Hid (isq n.toNat = k)) :
    Calls Tryd.prog 18 #[.int .i64 n] w fun e w' => e = .returned (.int .i64 k) ∧ w = w' := by
  have := sqrt_any n w h0 h1
  rw [hk.out] at this
  exact this.mono fun _ _ h => ⟨h.1, h.2.symm⟩

theorem ex1 : parseV [45, 48, 46, 48, 48, 55] = .tuple #[.int .i64 (-7), .int .i64 0] := by kernel_rfl
theorem ex2 : parseV [49, 46, 53, 48] = .tuple #[.int .i64 0, .int .i64 4] := by kernel_rfl
theorem ex3 : parseV [50, 54, 56, 52, 51, 53, 46, 52, 53, 55] = .tuple #[.int .i64 0, .int .i64 16] := by kernel_rfl
theorem ex4 : mulV (-1) 500 = .tuple #[.int .i64 (-1), .int .i64 0] := by kernel_rfl
theorem ex5 : divV 2 3000 = .tuple #[.int .i64 1, .int .i64 0] := by kernel_rfl
theorem ex6 : fmtL 12500 = [49, 50, 46, 53] := by decide +kernel
theorem ex7 : fmtL (-7) = [45, 48, 46, 48, 48, 55] := by decide +kernel
theorem ex8 : fmtL 0 = [48] := by decide +kernel
theorem ex9 : isq (24 : Int).toNat = 4 := by decide

set_option maxHeartbeats 2000000 in
theorem awake_any (w : World) (htab : Hid (Tab w)) :
    Calls Tryd.prog 13 #[] w fun e w' => e = .returned (.bool true) ∧ Below w.heap.size w w' := by
  go_enter Tryd.func13, Tryd.ntmps13
  go_wp2_with fail
  refine (parse_lit _ _ _ (by decide) (Lib.hid ex1)).mono ?_
  rintro e w' ⟨rfl, rfl⟩
  go_wp2_with fail
  refine (parse_lit _ _ _ (by decide) (Lib.hid ex2)).mono ?_
  rintro e w' ⟨rfl, rfl⟩
  go_wp2_with fail
  refine (parse_lit _ _ _ (by decide) (Lib.hid ex3)).mono ?_
  rintro e w' ⟨rfl, rfl⟩
  go_wp2_with fail
  refine (mul_of _ _ _ _ (by omega) (by omega) (by omega) (by omega) (divFits_small _ _ _ (by decide) (by decide) (by decide)) (Lib.hid ex4)).mono ?_
  rintro e w1 ⟨rfl, hb1⟩
  go_wp2_with fail
  refine (div_of _ _ _ _ (by omega) (by omega) (by omega) (by omega) (fun _ => divFits_small _ _ _ (by decide) (by decide) (by decide)) (Lib.hid ex5)).mono ?_
  rintro e w2 ⟨rfl, hb2⟩
  have T2 : Hid (Tab w2) := Lib.hid (tab_below (tab_below htab.out hb1) hb2)
  go_wp2_with fail
  refine (format_of _ _ _ (by omega) (by omega) T2 (Lib.hid ex6)).mono ?_
  rintro e w3 ⟨rfl, hb3⟩
  have T3 : Hid (Tab w3) := Lib.hid (tab_below T2.out hb3)
  go_wp2_with fail
  refine (format_of _ _ _ (by omega) (by omega) T3 (Lib.hid ex7)).mono ?_
  rintro e w4 ⟨rfl, hb4⟩
  have T4 : Hid (Tab w4) := Lib.hid (tab_below T3.out hb4)
  go_wp2_with fail
  refine (format_of _ _ _ (by omega) (by omega) T4 (Lib.hid ex8)).mono ?_
  rintro e w5 ⟨rfl, hb5⟩
  go_wp2_with fail
  refine (sqrt_of _ _ _ (by omega) (by omega) (Lib.hid ex9)).mono ?_
  rintro e w' ⟨rfl, rfl⟩
  go_wp2
  go_ret
  exact ⟨rfl, hb1.trans ((hb2.mono hb1.size).trans ((hb3.mono (by have := hb1.size; have := hb2.size; omega)).trans ((hb4.mono (by have := hb1.size; have := hb2.size; have := hb3.size; omega)).trans (hb5.mono (by have := hb1.size; have := hb2.size; have := hb3.size; have := hb4.size; omega)))))⟩
end Go.Proofs.YtgacapebngllnaaDoor
