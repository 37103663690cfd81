/-
  What depth and Has of the reference of layer 11 return. Conditions: a graph in memory; clusters that lie in earlier ones.
-/
import Derived.Test.YtjeacpohanadnaaGraRef1
namespace Go.Proofs.Ytjeacpohanadnaa.gra
open Go.RowKit lex

set_option maxRecDepth 100000 in
set_option maxHeartbeats 4000000 in
theorem gdepth_of (v : Value) (g : Gr) (n : Nat) (c R : Int) (w : World) (h : Hid (GrV w v g)) (hn : n ≤ g.cs.length) (hw : Hid (Wf (g.cs.take n))) (hc0 : -1 ≤ c) (hc1 : c < (n : Int)) (hr : Hid (dep (g.cs.take n) c = R)) :
    Calls Try.prog 46 #[v, .int .i64 c] w fun e w' => e = .returned (.int .i64 R) ∧ Below w.heap.size w w' := by
  obtain ⟨nv, ev, cv, rfl, hnl, hns, he, hc⟩ := h.out
  have hB := al1 w (.cells #[.string (bb g.nm), .bool g.dir, nv, ev, cv] 26)
  have HC := Lib.hid (hc.keep hB)
  clear hns he hc h hnl
  obtain ⟨ao, cap, rfl, hc, hm, _⟩ := id HC.out
  unfold maxLen at hm
  have hlm : g.cs.length ≤ 9223372036854775807 := by omega
  have hln : (g.cs.take n).length = n := by rw [List.length_take]; omega
  clear hc hm
  have hR0 : R ≤ (n : Int) := by
    have := dep_bound hw.out n c hc1 hc0
    have := hr.out
    omega
  go_enter Try.func46, Try.ntmps46
  go_wp2_with fail
  go_loop [1, 5] (fun kv mv => ∃ (k m : Int), kv = .int .i64 k ∧ mv = .int .i64 m ∧ -1 ≤ k ∧ k < (n : Int) ∧ 0 ≤ m ∧ m + dep (g.cs.take n) k = R) (fun kv _ => (intOf kv + 1).toNat)
  case atStart => exact ⟨c, 0, rfl, rfl, hc0, hc1, by omega, by rw [hr.out]; omega⟩
  case round =>
    obtain ⟨k, m, rfl, rfl, hk0, hk1, hm0, hfe⟩ := hrel
    clear hr
    by_cases hlt : k < 0
    · rw [dep_neg _ _ hlt] at hfe
      obtain rfl : m = R := by omega
      go_wp2
      go_ret
      exact ⟨rfl, hB⟩
    · obtain ⟨i, rfl⟩ : ∃ i : Nat, k = (i : Int) := ⟨k.toNat, by omega⟩
      have hi : i < g.cs.length := by omega
      obtain ⟨A, rfl, -, q1, -⟩ := HC.out.get hi
      obtain ⟨u, hu⟩ : ∃ u, g.cs[i].2 = u := ⟨_, rfl⟩
      rw [hu] at q1
      have hup : up (g.cs.take n) (i : Int) = u := by rw [up_at (by omega), List.getElem_take, hu]
      have hun := up_neg _ hw.out (i : Int) (by omega)
      rw [dep_up hw.out _ (by omega), hup] at hfe
      rw [hup] at hun
      have hd := dep_nonneg (g.cs.take n) u
      have i0 : (0 : Int) ≤ (i : Int) := by omega
      have i1 : (i : Int) < (g.cs.length : Int) := by omega
      have HF := Lib.hid hfe
      have hm9 : m < 9223372036854775807 := by omega
      clear hu hup hfe hd
      go_wp2
      go_round
      case rel => exact ⟨u, m + 1, rfl, by go_num, hun.1, by omega, by omega, by have := HF.out; omega⟩
      case measure => simp [intOf]; omega
set_option maxRecDepth 100000 in
set_option maxHeartbeats 4000000 in
theorem ghas_of (v : Value) (g : Gr) (c : Int) (n : Nat) (R : Bool) (w : World) (h : Hid (GrV w v g)) (hn : n < g.ns.length) (hw : Hid (Wf g.cs)) (hr : Hid (-1 ≤ clOf g n ∧ clOf g n < (g.cs.length : Int))) (hR : Hid (has g c n = R)) :
    Calls Try.prog 44 #[v, .int .i64 c, .int .i64 n] w fun e w' => e = .returned (.bool R) ∧ Below w.heap.size w w' := by
  obtain ⟨nv, ev, cv, rfl, hnl, hns, he, hc⟩ := h.out
  have hB := al1 w (.cells #[.string (bb g.nm), .bool g.dir, nv, ev, cv] 26)
  have HC := Lib.hid (hc.keep hB)
  have HN := Lib.hid (hns.keep hB)
  clear hns he hc h hnl
  obtain ⟨ao, cap, rfl, hc, hm, _⟩ := id HC.out
  obtain ⟨no, ncap, rfl, hc', hm', _⟩ := id HN.out
  unfold maxLen at hm hm'
  have hlm : g.cs.length ≤ 9223372036854775807 := by omega
  have hln : g.ns.length ≤ 9223372036854775807 := by omega
  clear hc hm hc' hm'
  have hh := hR.out
  unfold has at hh
  by_cases h1 : c = -1
  · have b1 : (c == -1) = true := by rw [beq_iff_eq]; exact h1
    rw [decide_eq_true h1, Bool.true_or] at hh
    subst hh
    clear hR
    go_enter Try.func44, Try.ntmps44
    go_wp2
    go_ret
    exact ⟨rfl, hB⟩
  have b1 : (c == -1) = false := by rw [beq_eq_false_iff_ne]; exact h1
  rw [decide_eq_false h1, Bool.false_or] at hh
  obtain ⟨A, rfl, -, -, -, -, q4, -⟩ := HN.out.get hn
  have hcl : clOf g n = g.ns[n].cl := by unfold clOf; rw [List.getElem?_eq_getElem hn]
  have hrr := hr.out
  obtain ⟨u, hu⟩ : ∃ u, g.ns[n].cl = u := ⟨_, rfl⟩
  rw [hcl, hu] at hrr hh
  rw [hu] at q4
  have HH := Lib.hid hh
  have i0 : (0 : Int) ≤ (n : Int) := by omega
  have i1 : (n : Int) < (g.ns.length : Int) := by omega
  clear hh hcl hu h1 hR hr
  go_enter Try.func44, Try.ntmps44
  go_wp2_with fail
  go_loop [7] (fun kv => ∃ (k : Int), kv = .int .i64 k ∧ -1 ≤ k ∧ k < (g.cs.length : Int) ∧ decide (c ∈ ch g.cs k) = R) (fun kv => (intOf kv + 1).toNat)
  case atStart => exact ⟨u, rfl, hrr.1, hrr.2, HH.out⟩
  case round =>
    obtain ⟨k, rfl, hk0, hk1, hfe⟩ := hrel
    clear HH
    by_cases hlt : k < 0
    · rw [ch_neg _ _ hlt] at hfe
      obtain rfl : false = R := by simpa using hfe
      go_wp2
      go_ret
      exact ⟨rfl, hB⟩
    · obtain ⟨i, rfl⟩ : ∃ i : Nat, k = (i : Int) := ⟨k.toNat, by omega⟩
      have hi : i < g.cs.length := by omega
      rw [ch_cons hw.out _ (by omega)] at hfe
      by_cases hic : (i : Int) = c
      · have b2 : ((i : Int) == c) = true := by rw [beq_iff_eq]; exact hic
        rw [decide_eq_true (by rw [hic]; exact List.mem_cons_self ..)] at hfe
        subst hfe
        clear hic
        go_wp2
        go_ret
        exact ⟨rfl, hB⟩
      · have b2 : ((i : Int) == c) = false := by rw [beq_eq_false_iff_ne]; exact hic
        obtain ⟨A', rfl, -, q1, -⟩ := HC.out.get hi
        obtain ⟨x, hx⟩ : ∃ x, g.cs[i].2 = x := ⟨_, rfl⟩
        rw [hx] at q1
        have hup : up g.cs (i : Int) = x := by rw [up_at hi, hx]
        have hun := up_neg _ hw.out (i : Int) (by omega)
        rw [hup] at hun hfe
        have HF : Hid (decide (c ∈ ch g.cs x) = R) := Lib.hid (by rw [← hfe, decide_eq_decide, List.mem_cons]; exact ⟨Or.inr, fun h => h.resolve_left fun e => hic e.symm⟩)
        have j0 : (0 : Int) ≤ (i : Int) := by omega
        have j1 : (i : Int) < (g.cs.length : Int) := by omega
        clear hx hup hfe hic
        go_wp2
        go_round
        case rel => exact ⟨x, rfl, hun.1, by omega, HF.out⟩
        case measure => simp [intOf]; omega
end Go.Proofs.Ytjeacpohanadnaa.gra
