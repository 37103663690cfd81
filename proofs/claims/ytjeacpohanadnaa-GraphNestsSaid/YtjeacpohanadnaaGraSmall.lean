/-
  What the statements' guard small and their has (layer 11) return. Condition: a graph, a list in memory.
-/
import Derived.Test.YtjeacpohanadnaaGraInt
import Derived.Test.YtjeacpohanadnaaGraRef4
namespace Go.Proofs.Ytjeacpohanadnaa.gra
open Go.RowKit lex

def ndS (x : Nd) : Bool := decide (x.nm.length ≤ 50) && decide (x.lb.length ≤ 100) && decide (x.ps.length ≤ 20)
def smallV (g : Gr) : Bool := decide (g.ns.length ≤ 100 ∧ g.es.length ≤ 300 ∧ g.cs.length ≤ 30 ∧ g.nm.length ≤ 50) && g.ns.all ndS
theorem all_step {α : Type} {f : α → Bool} {l : List α} {k : Nat} (h : k < l.length) : (l.take (k + 1)).all f = ((l.take k).all f && f l[k]) := by
  rw [List.take_succ_eq_append_getElem h, List.all_append]; simp
theorem all_no {α : Type} {f : α → Bool} {l : List α} {k : Nat} (h : k < l.length) (hf : f l[k] = false) : l.all f = false := by
  rw [List.all_eq_false]; exact ⟨l[k], List.getElem_mem h, by simp [hf]⟩
set_option maxRecDepth 100000 in
set_option maxHeartbeats 8000000 in
theorem small_of (v : Value) (g : Gr) (R : Bool) (w : World) (h : Hid (GrV w v g)) (hr : Hid (smallV g = R)) :
    Calls Try.prog 7 #[v] w fun e w' => e = .returned (.bool R) ∧ Below w.heap.size w w' := by
  obtain ⟨nv, ev, cv, rfl, hnl, hns, hes, hcs⟩ := h.out
  obtain ⟨no, nc, rfl, -, hm1, -⟩ := id hns
  obtain ⟨eo, ec, rfl, -, -, -⟩ := id hes
  obtain ⟨co, cc, rfl, -, -, -⟩ := id hcs
  have hfe := hr.out
  unfold smallV at hfe
  have HB := Lib.hid (al1 w (.cells #[.string (bb g.nm), .bool g.dir, .slice no g.ns.length nc, .slice eo g.es.length ec, .slice co g.cs.length cc] 26))
  have HN := Lib.hid (hns.keep HB.out)
  obtain ⟨Y, hY⟩ : ∃ Y, bb g.nm = Y := ⟨_, rfl⟩
  have hYl : g.nm.length = Y.size := by rw [← hY]; rfl
  rw [hY] at HB HN
  rw [hYl] at hfe
  simp only [hY]
  clear hns hes hcs hnl h hr hYl
  by_cases a0 : 100 < g.ns.length
  · rw [decide_eq_false (by omega), Bool.false_and] at hfe
    subst hfe
    have l0 : (100 : Int) < (g.ns.length : Int) := by omega
    clear a0 hY
    go_enter Try.func7, Try.ntmps7
    go_wp2
    go_ret
    exact ⟨rfl, HB.out⟩
  by_cases a1 : 300 < g.es.length
  · rw [decide_eq_false (by omega), Bool.false_and] at hfe
    subst hfe
    have l0 : ¬ (100 : Int) < (g.ns.length : Int) := by omega
    have l1 : (300 : Int) < (g.es.length : Int) := by omega
    clear a0 a1 hY
    go_enter Try.func7, Try.ntmps7
    go_wp2
    go_ret
    exact ⟨rfl, HB.out⟩
  by_cases a2 : 30 < g.cs.length
  · rw [decide_eq_false (by omega), Bool.false_and] at hfe
    subst hfe
    have l0 : ¬ (100 : Int) < (g.ns.length : Int) := by omega
    have l1 : ¬ (300 : Int) < (g.es.length : Int) := by omega
    have l2 : (30 : Int) < (g.cs.length : Int) := by omega
    clear a0 a1 a2 hY
    go_enter Try.func7, Try.ntmps7
    go_wp2
    go_ret
    exact ⟨rfl, HB.out⟩
  have l0 : ¬ (100 : Int) < (g.ns.length : Int) := by omega
  have l1 : ¬ (300 : Int) < (g.es.length : Int) := by omega
  have l2 : ¬ (30 : Int) < (g.cs.length : Int) := by omega
  by_cases a3 : 50 < Y.size
  · rw [decide_eq_false (by omega), Bool.false_and] at hfe
    subst hfe
    have l3 : (50 : Int) < (Y.size : Int) := by omega
    clear a0 a1 a2 a3 hY
    go_enter Try.func7, Try.ntmps7
    go_wp2
    go_ret
    exact ⟨rfl, HB.out⟩
  have l3 : ¬ (50 : Int) < (Y.size : Int) := by omega
  rw [decide_eq_true (by omega), Bool.true_and] at hfe
  have m0 : g.ns.length ≤ 100 := by omega
  have HR := Lib.hid hfe
  clear a0 a1 a2 a3 hfe hY
  go_enter Try.func7, Try.ntmps7
  go_wp2_with fail
  go_loop [3] (fun iv => ∃ i : Nat, iv = .int .i64 i ∧ i ≤ g.ns.length ∧ (g.ns.take i).all ndS = true) (fun iv => g.ns.length - (intOf iv).toNat)
  case atStart => exact ⟨0, rfl, Nat.zero_le _, rfl⟩
  case round =>
    obtain ⟨i, rfl, hi, hal⟩ := hrel
    clear l0 l1 l2 l3
    by_cases hlt : i < g.ns.length
    · obtain ⟨A, rfl, q0, q1, -, -, -, ⟨pv, q5, hps⟩, -⟩ := HN.out.get hlt
      obtain ⟨po, pc, rfl, -, -, -⟩ := id hps
      obtain ⟨X, hX⟩ : ∃ X, bb g.ns[i].nm = X := ⟨_, rfl⟩
      obtain ⟨Z, hZ⟩ : ∃ Z, bb g.ns[i].lb = Z := ⟨_, rfl⟩
      obtain ⟨L, hL⟩ : ∃ L, g.ns[i].ps.length = L := ⟨_, rfl⟩
      have hXl : g.ns[i].nm.length = X.size := by rw [← hX]; rfl
      have hZl : g.ns[i].lb.length = Z.size := by rw [← hZ]; rfl
      rw [hX] at q0
      rw [hZ] at q1
      rw [hL] at q5
      have hnd : ndS g.ns[i] = (decide (X.size ≤ 50) && decide (Z.size ≤ 100) && decide (L ≤ 20)) := by unfold ndS; rw [hXl, hZl, hL]
      have i0 : (0 : Int) ≤ (i : Int) := by omega
      have i1 : (i : Int) < (g.ns.length : Int) := by omega
      clear hX hZ hL hXl hZl hps
      by_cases b0 : 50 < X.size
      · have hfe := HR.out
        rw [all_no hlt (by rw [hnd, decide_eq_false (by omega)]; rfl)] at hfe
        subst hfe
        have c0 : (50 : Int) < (X.size : Int) := by omega
        clear b0 hnd
        go_wp2
        go_ret
        exact ⟨rfl, HB.out⟩
      have c0 : ¬ (50 : Int) < (X.size : Int) := by omega
      by_cases b1 : 100 < Z.size
      · have hfe := HR.out
        rw [all_no hlt (by rw [hnd, decide_eq_false (p := Z.size ≤ 100) (by omega), Bool.and_false]; rfl)] at hfe
        subst hfe
        have c1 : (100 : Int) < (Z.size : Int) := by omega
        clear b0 b1 hnd
        go_wp2
        go_ret
        exact ⟨rfl, HB.out⟩
      have c1 : ¬ (100 : Int) < (Z.size : Int) := by omega
      by_cases b2 : 20 < L
      · have hfe := HR.out
        rw [all_no hlt (by rw [hnd, decide_eq_false (p := L ≤ 20) (by omega), Bool.and_false])] at hfe
        subst hfe
        have c2 : (20 : Int) < (L : Int) := by omega
        clear b0 b1 b2 hnd
        go_wp2
        go_ret
        exact ⟨rfl, HB.out⟩
      have c2 : ¬ (20 : Int) < (L : Int) := by omega
      have HA : Hid ((g.ns.take (i + 1)).all ndS = true) := Lib.hid (by rw [all_step hlt, hal, hnd, decide_eq_true (p := X.size ≤ 50) (by omega), decide_eq_true (p := Z.size ≤ 100) (by omega), decide_eq_true (p := L ≤ 20) (by omega)]; rfl)
      clear b0 b1 b2 hnd hal
      go_wp2
      go_round
      case rel => exact ⟨i + 1, by go_num, by omega, HA.out⟩
      case measure => simp [intOf]; omega
    · have hfe := HR.out
      rw [List.take_of_length_le (by omega)] at hal
      rw [hal] at hfe
      subst hfe
      go_wp2
      go_ret
      exact ⟨rfl, HB.out⟩
end Go.Proofs.Ytjeacpohanadnaa.gra
