/-
  What Same, the closures, selectionError and reversed of the landed layer 14 return. Conditions: digraphs and lists in memory.
-/
import Derived.Test.YtkmamdlhpbobhaaDigCs
import Derived.Test.YtkmamdlhpbobhaaDigWVa
namespace Go.Proofs.Ytkmamdlhpbobhaa.dig
open Go.RowKit

set_option maxRecDepth 100000 in
set_option maxHeartbeats 4000000 in
theorem csame_of (v v2 : Value) (n n2 : Int) (a b : List Ar) (R : Bool) (w : World) (h : Hid (DgV w v n a)) (h2 : Hid (DgV w v2 n2 b)) (hr : Hid (decide (n = n2 ∧ a = b) = R)) :
    Calls Try.prog 13 #[v, v2] w fun e w' => e = .returned (.bool R) ∧ Below w.heap.size w w' := by
  obtain ⟨av, rfl, ha⟩ := h.out
  obtain ⟨bv, rfl, hb⟩ := h2.out
  obtain ⟨ao, ac, rfl, hc1, hm1, -⟩ := id ha
  obtain ⟨bo, bc, rfl, hc2, hm2, -⟩ := id hb
  have hfe := hr.out
  have HB := Lib.hid (al2 w (.cells #[.int .i64 n, .slice ao a.length ac] 24) (.cells #[.int .i64 n2, .slice bo b.length bc] 24))
  have HA := Lib.hid (ha.keep HB.out)
  have HBb := Lib.hid (hb.keep HB.out)
  clear hc1 hm1 hc2 hm2 ha hb h h2 hr
  by_cases hn : n = n2
  case neg =>
    have b0 : (n == n2) = false := by rw [beq_eq_false_iff_ne]; exact hn
    rw [decide_eq_false (fun e => hn e.1)] at hfe
    subst hfe
    clear hn
    go_enter Try.func13, Try.ntmps13
    go_wp2
    go_ret
    exact ⟨rfl, HB.out⟩
  subst hn
  have b0 : (n == n) = true := by simp
  have HR : Hid (decide (a = b) = R) := Lib.hid (by rw [← hfe]; simp)
  clear hfe
  go_enter Try.func13, Try.ntmps13
  go_wp2_with fail
  refine (eqar_of _ _ a b R _ HA HBb HR).mono ?_
  rintro e w2 ⟨rfl, hb⟩
  go_wp2
  go_ret
  exact ⟨rfl, below_keep hb HB.out⟩
set_option maxHeartbeats 2000000 in
theorem crev_of (x y : Int) (w : World) :
    Calls Try.prog 35 #[.agg #[.int .i64 x, .int .i64 y]] w fun e w' => e = .returned (.agg #[.int .i64 y, .int .i64 x]) ∧ Below w.heap.size w w' := by
  have HB := Lib.hid (al2 w (.cells #[.int .i64 x, .int .i64 y] 43) (.cells #[.int .i64 y, .int .i64 x] 43))
  go_enter Try.func35, Try.ntmps35
  go_wp2
  refine bodyPost_ret (v := .agg #[.int .i64 y, .int .i64 x]) (by simp [results, Try.results35, go_sem]) rfl ?_
  exact ⟨rfl, HB.out⟩

set_option maxHeartbeats 2000000 in
theorem cflipclo_of (g0 : Nat) (lo : Option Addr) (m lc : Nat) (x : Int) (R : Bool) (w : World) (hc : Hid (w.cell? ⟨g0, 1, none⟩ = some (.slice lo m lc))) (hr : Hid ((decide (0 ≤ x) && decide (x < (m : Int))) = R)) :
    Calls Try.prog 32 #[.int .i64 x, .pointer (some ⟨g0, 0, none⟩)] w fun e w' => e = .returned (.bool R) ∧ w = w' := by
  have c0 := hc.out
  go_enter Try.func32, Try.ntmps32
  go_wp2_with (with_reducible refine (cidx_of x (m : Int) R _ hr).mono ?_; rintro e wz ⟨rfl, rfl⟩)
  go_ret
  exact ⟨rfl, rfl⟩
set_option maxRecDepth 100000 in
set_option maxHeartbeats 4000000 in
theorem cflipsel_of (g0 : Nat) (lo : Option Addr) (m lc : Nat) (sv : Value) (set : List Int) (E : Int) (w : World) (hs : Hid (Ins w sv set)) (hc : Hid (w.cell? ⟨g0, 1, none⟩ = some (.slice lo m lc))) (hr : Hid (chosen [] set (m : Int) = E)) :
    Calls Try.prog 33 #[sv, .func (.func 32) #[] #[.pointer (some ⟨g0, 0, none⟩)]] w fun e w' => e = .returned (.int .i64 E) ∧ w = w' := by
  obtain ⟨ao, cap, rfl, hcp, hm, -⟩ := id hs.out
  unfold maxLen at hm
  have hlm : set.length ≤ 9223372036854775807 := by omega
  have hcm : set.length ≤ cap := hcp
  have HR : Hid (chosen (set.take 0) (set.drop 0) (m : Int) = E) := Lib.hid (by rw [List.drop_zero, List.take_zero]; exact hr.out)
  clear hcp hm hr
  go_enter Try.func33, Try.ntmps33
  go_wp2_with fail
  go_loop [9] (fun iv => ∃ k : Nat, iv = .int .i64 k ∧ k ≤ set.length ∧ chosen (set.take k) (set.drop k) (m : Int) = E) (fun iv => set.length - (intOf iv).toNat)
  case atStart => exact ⟨0, rfl, Nat.zero_le _, HR.out⟩
  case round =>
    obtain ⟨k, rfl, hk, hch⟩ := hrel
    have HC := Lib.hid hch
    clear hch HR
    by_cases hlt : k < set.length
    case neg =>
      have hst := HC.out
      rw [List.drop_of_length_le (by omega), chosen] at hst
      subst hst
      go_wp2
      go_ret
      exact ⟨rfl, rfl⟩
    have hst := HC.out
    rw [List.drop_eq_getElem_cons hlt, chosen] at hst
    have hpt := List.take_succ_eq_append_getElem hlt
    obtain ⟨b, o, rfl, -, -⟩ := hs.out.flat (by omega)
    obtain ⟨A, eA, q0⟩ := hs.out.at hlt
    obtain rfl := (Option.some.inj eA).symm
    obtain ⟨x, hx⟩ : ∃ x, set[k] = x := ⟨_, rfl⟩
    rw [hx] at hst q0 hpt
    rw [add_at] at q0
    have i0 : (0 : Int) ≤ (k : Int) := by omega
    have i1 : (k : Int) < (set.length : Int) := by omega
    have i2 : (k : Int) ≤ (cap : Int) := by omega
    have HPT := Lib.hid hpt
    have HST := Lib.hid hst
    obtain ⟨p, hp⟩ : ∃ p, (decide (0 ≤ x) && decide (x < (m : Int))) = p := ⟨_, rfl⟩
    obtain ⟨q, hq⟩ : ∃ q, (set.take k).contains x = q := ⟨_, rfl⟩
    have HP := Lib.hid hp
    have HQ := Lib.hid hq
    clear hpt hst hx eA hp hq
    cases p
    case false =>
      have hst := HST.out
      rw [if_pos (by have := HP.out; rw [Bool.and_eq_false_iff, decide_eq_false_iff_not, decide_eq_false_iff_not] at this; omega)] at hst
      subst hst
      clear HST
      go_wp2_with (with_reducible refine (cflipclo_of g0 lo m lc x false _ hc HP).mono ?_; rintro e wz ⟨rfl, rfl⟩)
      go_ret
      exact ⟨rfl, rfl⟩
    have hst := HST.out
    rw [if_neg (by have := HP.out; rw [Bool.and_eq_true, decide_eq_true_eq, decide_eq_true_eq] at this; omega)] at hst
    rw [HQ.out] at hst
    clear HST
    cases q
    case true =>
      rw [if_pos rfl] at hst
      subst hst
      go_wp2_with (first | (with_reducible refine (cflipclo_of g0 lo m lc x true _ hc HP).mono ?_; rintro e wz ⟨rfl, rfl⟩) | (with_reducible refine (icont_of _ k cap set x true _ hs hk hlm HQ).mono ?_; rintro e wz ⟨rfl, rfl⟩))
      go_ret
      exact ⟨rfl, rfl⟩
    rw [if_neg (by decide), ← HPT.out] at hst
    have HN := Lib.hid hst
    clear hst
    go_wp2_with (first | (with_reducible refine (cflipclo_of g0 lo m lc x true _ hc HP).mono ?_; rintro e wz ⟨rfl, rfl⟩) | (with_reducible refine (icont_of _ k cap set x false _ hs hk hlm HQ).mono ?_; rintro e wz ⟨rfl, rfl⟩))
    go_round
    case rel => exact ⟨k + 1, by go_num, by omega, HN.out⟩
    case measure => simp [intOf]; omega

set_option maxHeartbeats 2000000 in
theorem cindclo_of (g0 : Nat) (n : Int) (x : Int) (R : Bool) (w : World) (hc : Hid (w.cell? ⟨g0, 0, none⟩ = some (.int .i64 n))) (hr : Hid ((decide (0 ≤ x) && decide (x < n)) = R)) :
    Calls Try.prog 38 #[.int .i64 x, .pointer (some ⟨g0, 0, none⟩)] w fun e w' => e = .returned (.bool R) ∧ w = w' := by
  have c0 := hc.out
  go_enter Try.func38, Try.ntmps38
  go_wp2_with (with_reducible refine (cidx_of x n R _ hr).mono ?_; rintro e wz ⟨rfl, rfl⟩)
  go_ret
  exact ⟨rfl, rfl⟩
set_option maxRecDepth 100000 in
set_option maxHeartbeats 4000000 in
theorem cindsel_of (g0 : Nat) (n : Int) (sv : Value) (set : List Int) (E : Int) (w : World) (hs : Hid (Ins w sv set)) (hc : Hid (w.cell? ⟨g0, 0, none⟩ = some (.int .i64 n))) (hr : Hid (chosen [] set n = E)) :
    Calls Try.prog 33 #[sv, .func (.func 38) #[] #[.pointer (some ⟨g0, 0, none⟩)]] w fun e w' => e = .returned (.int .i64 E) ∧ w = w' := by
  obtain ⟨ao, cap, rfl, hcp, hm, -⟩ := id hs.out
  unfold maxLen at hm
  have hlm : set.length ≤ 9223372036854775807 := by omega
  have hcm : set.length ≤ cap := hcp
  have HR : Hid (chosen (set.take 0) (set.drop 0) n = E) := Lib.hid (by rw [List.drop_zero, List.take_zero]; exact hr.out)
  clear hcp hm hr
  go_enter Try.func33, Try.ntmps33
  go_wp2_with fail
  go_loop [9] (fun iv => ∃ k : Nat, iv = .int .i64 k ∧ k ≤ set.length ∧ chosen (set.take k) (set.drop k) n = E) (fun iv => set.length - (intOf iv).toNat)
  case atStart => exact ⟨0, rfl, Nat.zero_le _, HR.out⟩
  case round =>
    obtain ⟨k, rfl, hk, hch⟩ := hrel
    have HC := Lib.hid hch
    clear hch HR
    by_cases hlt : k < set.length
    case neg =>
      have hst := HC.out
      rw [List.drop_of_length_le (by omega), chosen] at hst
      subst hst
      go_wp2
      go_ret
      exact ⟨rfl, rfl⟩
    have hst := HC.out
    rw [List.drop_eq_getElem_cons hlt, chosen] at hst
    have hpt := List.take_succ_eq_append_getElem hlt
    obtain ⟨b, o, rfl, -, -⟩ := hs.out.flat (by omega)
    obtain ⟨A, eA, q0⟩ := hs.out.at hlt
    obtain rfl := (Option.some.inj eA).symm
    obtain ⟨x, hx⟩ : ∃ x, set[k] = x := ⟨_, rfl⟩
    rw [hx] at hst q0 hpt
    rw [add_at] at q0
    have i0 : (0 : Int) ≤ (k : Int) := by omega
    have i1 : (k : Int) < (set.length : Int) := by omega
    have i2 : (k : Int) ≤ (cap : Int) := by omega
    have HPT := Lib.hid hpt
    have HST := Lib.hid hst
    obtain ⟨p, hp⟩ : ∃ p, (decide (0 ≤ x) && decide (x < n)) = p := ⟨_, rfl⟩
    obtain ⟨q, hq⟩ : ∃ q, (set.take k).contains x = q := ⟨_, rfl⟩
    have HP := Lib.hid hp
    have HQ := Lib.hid hq
    clear hpt hst hx eA hp hq
    cases p
    case false =>
      have hst := HST.out
      rw [if_pos (by have := HP.out; rw [Bool.and_eq_false_iff, decide_eq_false_iff_not, decide_eq_false_iff_not] at this; omega)] at hst
      subst hst
      clear HST
      go_wp2_with (with_reducible refine (cindclo_of g0 n x false _ hc HP).mono ?_; rintro e wz ⟨rfl, rfl⟩)
      go_ret
      exact ⟨rfl, rfl⟩
    have hst := HST.out
    rw [if_neg (by have := HP.out; rw [Bool.and_eq_true, decide_eq_true_eq, decide_eq_true_eq] at this; omega)] at hst
    rw [HQ.out] at hst
    clear HST
    cases q
    case true =>
      rw [if_pos rfl] at hst
      subst hst
      go_wp2_with (first | (with_reducible refine (cindclo_of g0 n x true _ hc HP).mono ?_; rintro e wz ⟨rfl, rfl⟩) | (with_reducible refine (icont_of _ k cap set x true _ hs hk hlm HQ).mono ?_; rintro e wz ⟨rfl, rfl⟩))
      go_ret
      exact ⟨rfl, rfl⟩
    rw [if_neg (by decide), ← HPT.out] at hst
    have HN := Lib.hid hst
    clear hst
    go_wp2_with (first | (with_reducible refine (cindclo_of g0 n x true _ hc HP).mono ?_; rintro e wz ⟨rfl, rfl⟩) | (with_reducible refine (icont_of _ k cap set x false _ hs hk hlm HQ).mono ?_; rintro e wz ⟨rfl, rfl⟩))
    go_round
    case rel => exact ⟨k + 1, by go_num, by omega, HN.out⟩
    case measure => simp [intOf]; omega
end Go.Proofs.Ytkmamdlhpbobhaa.dig
