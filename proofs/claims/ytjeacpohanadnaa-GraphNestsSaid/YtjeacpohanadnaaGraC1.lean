/-
  What the small functions of the landed graph return: ranges, depth, commonCluster. Conditions: a graph in memory; clusters that lie in earlier ones.
-/
import Derived.Test.YtjeacpohanadnaaGraCc
import Derived.Test.YtjeacpohanadnaaGraRef8
namespace Go.Proofs.Ytjeacpohanadnaa.gra
open Go.RowKit lex

set_option maxHeartbeats 1000000 in
theorem isfrom_of (l m n : Int) (b : Bool) (w : World) (h : Hid (decide (l ≤ n ∧ n ≤ m) = b)) :
    Calls Try.prog 51 #[.int .i64 l, .int .i64 m, .int .i64 n] w fun e w' => e = .returned (.bool b) ∧ w = w' := by
  have hb := h.out
  by_cases h1 : l ≤ n
  · by_cases h2 : n ≤ m
    · obtain rfl : true = b := by rw [← hb]; simp [h1, h2]
      clear hb h
      go_enter Try.func51, Try.ntmps51
      go_wp2
      go_ret
      exact ⟨rfl, rfl⟩
    · obtain rfl : false = b := by rw [← hb]; simp [h2]
      clear hb h
      go_enter Try.func51, Try.ntmps51
      go_wp2
      go_ret
      exact ⟨rfl, rfl⟩
  · obtain rfl : false = b := by rw [← hb]; simp [h1]
    clear hb h
    go_enter Try.func51, Try.ntmps51
    go_wp2
    go_ret
    exact ⟨rfl, rfl⟩
set_option maxRecDepth 100000 in
set_option maxHeartbeats 4000000 in
theorem isnode_of (v : Value) (g : Gr) (n : Int) (b : Bool) (w : World) (h : Hid (GrV w v g)) (hb : Hid (decide (0 ≤ n ∧ n < (g.ns.length : Int)) = b)) :
    Calls Try.prog 47 #[v, .int .i64 n] w fun e w' => e = .returned (.bool b) ∧ Below w.heap.size w w' := by
  obtain ⟨nv, ev, cv, rfl, -, hns, -, -⟩ := h.out
  have hB := al1 w (.cells #[.string (bb g.nm), .bool g.dir, nv, ev, cv] 26)
  obtain ⟨ao, cap, rfl, hc, hm, _⟩ := id hns
  unfold maxLen at hm
  have e1 : IntKind.i64.wrap ((g.ns.length : Int) - 1) = (g.ns.length : Int) - 1 := IntWalk.i64_in _ (by omega)
  have HQ : Hid (decide (0 ≤ n ∧ n ≤ (g.ns.length : Int) - 1) = b) := Lib.hid (by rw [← hb.out, decide_eq_decide]; omega)
  clear hns hc hm h hb
  go_enter Try.func47, Try.ntmps47
  go_wp2_with fail
  refine (isfrom_of 0 ((g.ns.length : Int) - 1) n b _ HQ).mono ?_
  rintro e w1 ⟨rfl, rfl⟩
  go_wp2
  go_ret
  exact ⟨rfl, hB⟩
set_option maxRecDepth 100000 in
set_option maxHeartbeats 4000000 in
theorem isclu_of (v : Value) (g : Gr) (n : Int) (b : Bool) (w : World) (h : Hid (GrV w v g)) (hb : Hid (decide (-1 ≤ n ∧ n < (g.cs.length : Int)) = b)) :
    Calls Try.prog 42 #[v, .int .i64 n] w fun e w' => e = .returned (.bool b) ∧ Below w.heap.size w w' := by
  obtain ⟨nv, ev, cv, rfl, -, -, -, hcs⟩ := h.out
  have hB := al1 w (.cells #[.string (bb g.nm), .bool g.dir, nv, ev, cv] 26)
  obtain ⟨ao, cap, rfl, hc, hm, _⟩ := id hcs
  unfold maxLen at hm
  have e1 : IntKind.i64.wrap ((g.cs.length : Int) - 1) = (g.cs.length : Int) - 1 := IntWalk.i64_in _ (by omega)
  have HQ : Hid (decide (-1 ≤ n ∧ n ≤ (g.cs.length : Int) - 1) = b) := Lib.hid (by rw [← hb.out, decide_eq_decide]; omega)
  clear hcs hc hm h hb
  go_enter Try.func42, Try.ntmps42
  go_wp2_with fail
  refine (isfrom_of (-1) ((g.cs.length : Int) - 1) n b _ HQ).mono ?_
  rintro e w1 ⟨rfl, rfl⟩
  go_wp2
  go_ret
  exact ⟨rfl, hB⟩
set_option maxRecDepth 100000 in
set_option maxHeartbeats 4000000 in
theorem cdepth_of (v : Value) (g : Gr) (n : Nat) (c R : Int) (w : World) (h : Hid (GrV w v g)) (hn : n ≤ g.cs.length) (hw : Hid (Wf (g.cs.take n))) (hc0 : -1 ≤ c) (hc1 : c < (n : Int)) (hr : Hid (dep (g.cs.take n) c = R)) :
    Calls Try.prog 45 #[v, .int .i64 c] w fun e w' => e = .returned (.int .i64 R) ∧ Below w.heap.size w w' := by
  obtain ⟨nv, ev, cv, rfl, hnl, hns, he, hc⟩ := h.out
  have hB := al1 w (.cells #[.string (bb g.nm), .bool g.dir, nv, ev, cv] 26)
  have HC := Lib.hid (hc.keep hB)
  clear hns he hc h hnl
  obtain ⟨ao, cap, rfl, hc, hm, _⟩ := id HC.out
  unfold maxLen at hm
  have hlm : g.cs.length ≤ 9223372036854775807 := by omega
  have hln : (g.cs.take n).length = n := by rw [List.length_take]; omega
  clear hc hm
  have hR0 : R ≤ (n : Int) := by
    have := dep_bound hw.out n c hc1 hc0
    have := hr.out
    omega
  go_enter Try.func45, Try.ntmps45
  go_wp2_with fail
  go_loop [1, 5] (fun kv mv => ∃ (k m : Int), kv = .int .i64 k ∧ mv = .int .i64 m ∧ -1 ≤ k ∧ k < (n : Int) ∧ 0 ≤ m ∧ m + dep (g.cs.take n) k = R) (fun kv _ => (intOf kv + 1).toNat)
  case atStart => exact ⟨c, 0, rfl, rfl, hc0, hc1, by omega, by rw [hr.out]; omega⟩
  case round =>
    obtain ⟨k, m, rfl, rfl, hk0, hk1, hm0, hfe⟩ := hrel
    clear hr
    by_cases hlt : k < 0
    · rw [dep_neg _ _ hlt] at hfe
      obtain rfl : m = R := by omega
      obtain rfl : k = -1 := by omega
      clear hfe
      go_wp2
      go_ret
      exact ⟨rfl, hB⟩
    · obtain ⟨i, rfl⟩ : ∃ i : Nat, k = (i : Int) := ⟨k.toNat, by omega⟩
      have hi : i < g.cs.length := by omega
      obtain ⟨A, rfl, -, q1, -⟩ := HC.out.get hi
      obtain ⟨u, hu⟩ : ∃ u, g.cs[i].2 = u := ⟨_, rfl⟩
      rw [hu] at q1
      have hup : up (g.cs.take n) (i : Int) = u := by rw [up_at (by omega), List.getElem_take, hu]
      have hun := up_neg _ hw.out (i : Int) (by omega)
      rw [dep_up hw.out _ (by omega), hup] at hfe
      rw [hup] at hun
      have hd := dep_nonneg (g.cs.take n) u
      have i0 : (0 : Int) ≤ (i : Int) := by omega
      have i1 : (i : Int) < (g.cs.length : Int) := by omega
      have HF := Lib.hid hfe
      have hm9 : m < 9223372036854775807 := by omega
      have z1 : ((i : Int) != -1) = true := by rw [bne_iff_ne]; omega
      clear hu hup hfe hd
      go_wp2
      go_round
      case rel => exact ⟨u, m + 1, rfl, by go_num, hun.1, by omega, by omega, by have := HF.out; omega⟩
      case measure => simp [intOf]; omega
set_option maxRecDepth 100000 in
set_option maxHeartbeats 4000000 in
theorem ccomm_of (v : Value) (g : Gr) (c d R : Int) (w : World) (h : Hid (GrV w v g)) (hw : Hid (Wf g.cs)) (hc : Hid (-1 ≤ c ∧ c < (g.cs.length : Int))) (hd : Hid (-1 ≤ d ∧ d < (g.cs.length : Int))) (hr : Hid (IsCC g.cs c d R)) :
    Calls Try.prog 43 #[v, .int .i64 c, .int .i64 d] w fun e w' => e = .returned (.int .i64 R) ∧ Below w.heap.size w w' := by
  obtain ⟨nv, ev, cv, rfl, hnl, hns, he, hcs⟩ := h.out
  have hB := al1 w (.cells #[.string (bb g.nm), .bool g.dir, nv, ev, cv] 26)
  have HC := Lib.hid (hcs.keep hB)
  clear hns he hcs h hnl
  obtain ⟨ao, cap, rfl, hc1, hm, _⟩ := id HC.out
  unfold maxLen at hm
  have hlm : g.cs.length ≤ 9223372036854775807 := by omega
  clear hc1 hm
  go_enter Try.func43, Try.ntmps43
  go_wp2_with fail
  go_loop [1, 2] (fun kv mv => ∃ (k m : Int), kv = .int .i64 k ∧ mv = .int .i64 m ∧ -1 ≤ k ∧ k < (g.cs.length : Int) ∧ -1 ≤ m ∧ m < (g.cs.length : Int) ∧ IsCC g.cs k m R) (fun kv mv => (intOf kv + intOf mv + 2).toNat)
  case atStart => exact ⟨c, d, rfl, rfl, hc.out.1, hc.out.2, hd.out.1, hd.out.2, hr.out⟩
  case round =>
    obtain ⟨k, m, rfl, rfl, hk0, hk1, hm0, hm1, hcc⟩ := hrel
    have HCC := Lib.hid hcc
    clear hr hcc
    by_cases heq : k = m
    · subst heq
      obtain rfl := isCC_eq hw.out hk0 HCC.out
      have z1 : (k != k) = false := by simp
      go_wp2
      go_ret
      exact ⟨rfl, hB⟩
    · have z1 : (k != m) = true := by rw [bne_iff_ne]; exact heq
      by_cases hlt : m < k
      · obtain ⟨i, rfl⟩ : ∃ i : Nat, k = (i : Int) := ⟨k.toNat, by omega⟩
        have hi : i < g.cs.length := by omega
        obtain ⟨A, rfl, -, q1, -⟩ := HC.out.get hi
        obtain ⟨u, hu⟩ : ∃ u, g.cs[i].2 = u := ⟨_, rfl⟩
        rw [hu] at q1
        have hup : up g.cs (i : Int) = u := by rw [up_at hi, hu]
        have hun := up_neg _ hw.out (i : Int) (by omega)
        have hnx := (isCC_left hw.out hm0 hlt).1 HCC.out
        rw [hup] at hun hnx
        have HN := Lib.hid hnx
        have i0 : (0 : Int) ≤ (i : Int) := by omega
        have i1 : (i : Int) < (g.cs.length : Int) := by omega
        clear hu hup hnx heq
        go_wp2
        go_round
        case rel => exact ⟨u, m, rfl, rfl, hun.1, by omega, hm0, hm1, HN.out⟩
        case measure => simp [intOf]; omega
      · obtain ⟨i, rfl⟩ : ∃ i : Nat, m = (i : Int) := ⟨m.toNat, by omega⟩
        have hi : i < g.cs.length := by omega
        obtain ⟨A, rfl, -, q1, -⟩ := HC.out.get hi
        obtain ⟨u, hu⟩ : ∃ u, g.cs[i].2 = u := ⟨_, rfl⟩
        rw [hu] at q1
        have hup : up g.cs (i : Int) = u := by rw [up_at hi, hu]
        have hun := up_neg _ hw.out (i : Int) (by omega)
        have hnx := (isCC_right hw.out hk0 (by omega)).1 HCC.out
        rw [hup] at hun hnx
        have HN := Lib.hid hnx
        have i0 : (0 : Int) ≤ (i : Int) := by omega
        have i1 : (i : Int) < (g.cs.length : Int) := by omega
        clear hu hup hnx heq
        go_wp2
        go_round
        case rel => exact ⟨k, u, rfl, rfl, hk0, hk1, hun.1, by omega, HN.out⟩
        case measure => simp [intOf]; omega
end Go.Proofs.Ytjeacpohanadnaa.gra
