/-
  What labelError, portError, isEnd and edgeError of the landed graph return. Conditions: a text's length; lists and a graph in memory.
-/
import Derived.Test.YtjeacpohanadnaaGraC2
import Derived.Test.YtjeacpohanadnaaGraRef6
import Derived.Test.YtjeacpohanadnaaMLi
import Derived.Test.YtjeacpohanadnaaMLa
namespace Go.Proofs.Ytjeacpohanadnaa.gra
open Go.RowKit lex

/-- The error of a label. -/
def labE (l : List UInt8) : Int := if 32 < l.length then 2 else if plainB l = false then 7 else 0
theorem lab_quo (l : List UInt8) : labE l = if (quoE l).2 = 0 ∨ (quoE l).2 = 2 then (quoE l).2 else 7 := by
  unfold labE quoE plainB
  by_cases h1 : 32 < l.length
  · rw [if_pos h1, if_pos h1]; rfl
  · rw [if_neg h1, if_neg h1]
    cases h2 : l.all isPl <;> simp
set_option maxHeartbeats 1000000 in
theorem label_of (s : ByteArray) (R : Int) (w : World) (hs : s.size ≤ maxLen) (h : Hid (labE s.data.toList = R)) :
    Calls Try.prog 50 #[.string s] w fun e w' => e = .returned (.int .i64 R) ∧ Below w.heap.size w w' := by
  obtain ⟨q, e0, hq⟩ : ∃ q e0, quoE s.data.toList = (q, e0) := ⟨_, _, rfl⟩
  have HQ := Lib.hid hq
  have HE : Hid ((if e0 = 0 ∨ e0 = 2 then e0 else 7) = R) := Lib.hid (by have := h.out; rw [lab_quo, hq] at this; exact this)
  clear hq h
  by_cases h0 : e0 = 0
  · subst h0
    have HR : Hid (0 = R) := Lib.hid (by rw [← HE.out]; rfl)
    go_enter Try.func50, Try.ntmps50
    go_wp2_with fail
    refine (quote_any s q 0 w hs HQ).mono ?_
    rintro e w1 ⟨rfl, hb1⟩
    go_wp2
    go_ret
    exact ⟨ret_int HR.out, hb1⟩
  · by_cases h2 : e0 = 2
    · subst h2
      have HR : Hid (2 = R) := Lib.hid (by rw [← HE.out]; rfl)
      go_enter Try.func50, Try.ntmps50
      go_wp2_with fail
      refine (quote_any s q 2 w hs HQ).mono ?_
      rintro e w1 ⟨rfl, hb1⟩
      go_wp2
      go_ret
      exact ⟨ret_int HR.out, hb1⟩
    · have HR : Hid (7 = R) := Lib.hid (by rw [← HE.out, if_neg (by omega)])
      have z0 : (e0 == 0) = false := by rw [beq_eq_false_iff_ne]; exact h0
      have z2 : (e0 == 2) = false := by rw [beq_eq_false_iff_ne]; exact h2
      clear HE
      go_enter Try.func50, Try.ntmps50
      go_wp2_with fail
      refine (quote_any s q e0 w hs HQ).mono ?_
      rintro e w1 ⟨rfl, hb1⟩
      go_wp2
      go_ret
      exact ⟨ret_int HR.out, hb1⟩
theorem Rw.front {α : Type} {c : Nat} {P : World → Addr → α → Prop} {w : World} {ao : Option Addr} {n cap : Nat} {l : List α} (h : Rw c P w (.slice ao n cap) l) {k : Nat} (hk : k ≤ l.length) : Rw c P w (.slice ao k cap) (l.take k) := by
  obtain ⟨ao', cap', e, hc, hm, hA⟩ := h
  cases e
  refine ⟨ao, cap, by rw [List.length_take, Nat.min_eq_left hk], by rw [List.length_take]; omega, hm, fun hn => ?_⟩
  rw [List.length_take] at hn
  obtain ⟨A, rfl, h2⟩ := hA (by omega)
  refine ⟨A, rfl, fun i hi => ?_⟩
  rw [List.length_take] at hi
  rw [List.getElem_take]
  exact h2 i (by omega)
set_option maxRecDepth 100000 in
set_option maxHeartbeats 4000000 in
theorem port_of (v : Value) (l : List Pt) (i : Nat) (R : Int) (w : World) (h : Hid (Pts w v l)) (hi : i < l.length) (hr : Hid (portE (l.take i) l[i] = R)) :
    Calls Try.prog 52 #[v, .int .i64 i] w fun e w' => e = .returned (.int .i64 R) ∧ Below w.heap.size w w' := by
  have hmf : ∀ (fn : Fn) (first cap : Array Value) (w : World), (Instr.makeFunc fn first cap).run Try.prog w = .ok (.func fn first cap) w := fun _ _ _ _ => rfl
  obtain ⟨ao, cap, rfl, hc1, hm1, -⟩ := id h.out
  unfold maxLen at hm1
  have hlm : cap ≤ 9223372036854775807 := by omega
  obtain ⟨A, rfl, q0, q1, qs, -⟩ := h.out.get hi
  obtain ⟨p, hp⟩ : ∃ p, l[i] = p := ⟨_, rfl⟩
  have hfe := hr.out
  rw [hp] at q0 q1 qs hfe
  obtain ⟨n, d⟩ := p
  simp only at q0 q1 qs
  obtain ⟨X, hX⟩ : ∃ X, bb n = X := ⟨_, rfl⟩
  have hX2 : X.data.toList = n := by rw [← hX]
  have hXs : X.size ≤ maxLen := by rw [← hX]; exact qs
  rw [hX] at q0
  have HFR := Lib.hid (h.out.front (Nat.le_of_lt hi))
  have i0 : (0 : Int) ≤ (i : Int) := by omega
  have i1 : (i : Int) < (l.length : Int) := by omega
  have i2 : (i : Int) ≤ (cap : Int) := by omega
  obtain ⟨b1, hb1⟩ : ∃ b, isNm X.data.toList = b := ⟨_, rfl⟩
  obtain ⟨b2, hb2⟩ : ∃ b, (l.take i).any (fun p => p.1 == X.data.toList) = b := ⟨_, rfl⟩
  have HN := Lib.hid hb1
  have HA := Lib.hid hb2
  unfold portE at hfe
  simp only at hfe
  rw [← hX2, hb1, hb2] at hfe
  have HE := Lib.hid hfe
  have HB := Lib.hid (al1 w (.cells #[.string X, .int .i64 d] 77))
  clear hX hX2 qs hp hfe hb1 hb2 hm1 hc1 hr
  go_enter Try.func52, Try.ntmps52
  go_wp2_with fail
  refine (isname_of X b1 _ hXs HN).mono ?_
  rintro e w1 ⟨rfl, hw1⟩
  have HB1 := Lib.hid (below_keep hw1 HB.out)
  have HC1 : Hid (w1.cell? ⟨w.heap.size, 0, none⟩ = some (.string X) ∧ w1.cell? ⟨w.heap.size, 1, none⟩ = some (.int .i64 d)) := Lib.hid ⟨cell_keep hw1 (by go_simp), cell_keep hw1 (by go_simp)⟩
  clear q0 q1 hw1
  cases b1
  · obtain rfl : 5 = R := by rw [← HE.out]; rfl
    go_wp2
    go_ret
    exact ⟨rfl, HB1.out⟩
  have HFR1 := Lib.hid (HFR.out.keep (P := ptAt) (fun h hb => ptAt.keep h hb) HB1.out)
  obtain ⟨c0, c1⟩ := HC1.out
  go_wp2_with fail
  refine (pocon_of _ _ w.heap.size X b2 w1 HFR1 (Lib.hid HC1.out.1) HA).mono ?_
  rintro e w2 ⟨rfl, hw2⟩
  have HB2 := Lib.hid (below_keep hw2 HB1.out)
  have k1 := cell_keep hw2 HC1.out.2
  clear c0 c1 hw2
  cases b2
  case true =>
    obtain rfl : 6 = R := by rw [← HE.out]; rfl
    go_wp2
    go_ret
    exact ⟨rfl, HB2.out⟩
  have hd := HE.out
  simp only [Bool.false_eq_true, if_false, reduceCtorEq] at hd
  by_cases h4 : d < 0 ∨ 3 < d
  · rw [if_pos h4] at hd
    subst hd
    have z0 : (d == 0) = false := by rw [beq_eq_false_iff_ne]; omega
    have z1 : (d == 1) = false := by rw [beq_eq_false_iff_ne]; omega
    have z2 : (d == 2) = false := by rw [beq_eq_false_iff_ne]; omega
    have z3 : (d == 3) = false := by rw [beq_eq_false_iff_ne]; omega
    clear h4
    go_wp2
    go_ret
    exact ⟨rfl, HB2.out⟩
  · rw [if_neg h4] at hd
    subst hd
    by_cases d0 : d = 0
    · subst d0
      go_wp2
      go_ret
      exact ⟨rfl, HB2.out⟩
    by_cases d1 : d = 1
    · subst d1
      go_wp2
      go_ret
      exact ⟨rfl, HB2.out⟩
    by_cases d2 : d = 2
    · subst d2
      go_wp2
      go_ret
      exact ⟨rfl, HB2.out⟩
    obtain rfl : d = 3 := by omega
    go_wp2
    go_ret
    exact ⟨rfl, HB2.out⟩
end Go.Proofs.Ytjeacpohanadnaa.gra
