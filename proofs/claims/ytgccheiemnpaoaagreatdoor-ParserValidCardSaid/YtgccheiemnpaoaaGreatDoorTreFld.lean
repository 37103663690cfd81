/-
  What fields of the reference of layer 7 returns. Condition: the lists lie in memory.
-/
import Derived.Test.YtgccheiemnpaoaaGreatDoorMTw
namespace Go.Proofs.YtgccheiemnpaoaaGreatDoor.tre
open Go.RowKit lex

/-- A statement by value. -/
abbrev stV (s : St) (rv av bv : Value) : Value := .agg #[.int .i64 s.kind, .string (bb s.name), rv, av, bv]
/-- A statement in a block of its own. -/
def at5 (w : World) (b : Nat) (k : Int) (x : ByteArray) (rv av bv : Value) : Prop := w.cell? ⟨b, 0, none⟩ = some (.int .i64 k) ∧ w.cell? ⟨b, 1, none⟩ = some (.string x) ∧ w.cell? ⟨b, 2, none⟩ = some rv ∧ w.cell? ⟨b, 3, none⟩ = some av ∧ w.cell? ⟨b, 4, none⟩ = some bv
theorem at5_new (w : World) (k : Int) (x : ByteArray) (rv av bv : Value) (t : TypeId) : at5 (w.alloc (.cells #[.int .i64 k, .string x, rv, av, bv] t)) w.heap.size k x rv av bv := by
  refine ⟨?_, ?_, ?_, ?_, ?_⟩ <;> go_simp
theorem at5_keep {w1 w2 : World} {b : Nat} {k : Int} {x : ByteArray} {rv av bv : Value} (h : at5 w1 b k x rv av bv) (h2 : Below w1.heap.size w1 w2) : at5 w2 b k x rv av bv :=
  ⟨cell_keep h2 h.1, cell_keep h2 h.2.1, cell_keep h2 h.2.2.1, cell_keep h2 h.2.2.2.1, cell_keep h2 h.2.2.2.2⟩
set_option maxRecDepth 100000 in
set_option maxHeartbeats 8000000 in
theorem rfld_of (s : St) (rv av bv : Value) (R : Int) (w : World) (h : Hid (fvOk w ⟨s, 0, rv, av, bv⟩)) (hR : Hid (fldE s = R)) :
    Calls Tryz.prog 29 #[stV s rv av bv] w fun e w' => e = .returned (.int .i64 R) ∧ Below w.heap.size w w' := by
  obtain ⟨k, n, r, a, b⟩ := s
  obtain ⟨hnl, hrv, hav, hbv⟩ := h.out
  simp only [St.refs, St.body, St.attrs, St.name] at hrv hav hbv hnl
  have hR2 := hR.out
  simp only [fldE, St.kind, St.name, St.refs, St.attrs, St.body] at hR2
  clear hR
  have hR := Lib.hid hR2
  clear hR2
  clear h
  have hav' := hav
  obtain ⟨ro, rc, rfl, _, _, _⟩ := hrv
  obtain ⟨so, sc, rfl, _, _, _⟩ := hav'
  obtain ⟨bo, bc, rfl, _, _, _⟩ := hbv
  show Calls Tryz.prog 29 #[.agg #[.int .i64 k, .string (bb n), .slice ro r.length rc, .slice so a.length sc, .slice bo b.length bc]] w _
  have hB := al1 w (.cells #[.int .i64 k, .string (bb n), .slice ro r.length rc, .slice so a.length sc, .slice bo b.length bc] 44)
  have HAV := Lib.hid (hav.keep hB)
  obtain ⟨X, hX⟩ : ∃ X, bb n = X := ⟨_, rfl⟩
  have hXn : X.toList = n := by rw [← hX, ByteArray.toList_eq]
  have e0 : X.toList.isEmpty = decide (n = []) := by rw [hXn]; cases n <;> rfl
  have e1 : (X.toList == [110, 111, 100, 101]) = decide (n = wNode) := by rw [hXn, Bool.eq_iff_iff, beq_iff_eq, decide_eq_true_eq]; rfl
  have e2 : (X.toList == [101, 100, 103, 101]) = decide (n = wEdge) := by rw [hXn, Bool.eq_iff_iff, beq_iff_eq, decide_eq_true_eq]; rfl
  have e3 : (X.toList != [110, 111, 100, 101]) = !decide (n = wNode) := by rw [bne, e1]
  have e4 : (X.toList != [101, 100, 103, 101]) = !decide (n = wEdge) := by rw [bne, e2]
  rw [hX] at HAV hB ⊢
  clear hav hX hXn hnl
  have q1 : decide ((0 : Int) < (r.length : Int)) = decide (0 < r.length) := by rw [Bool.eq_iff_iff]; simp
  have q2 : decide ((0 : Int) < (a.length : Int)) = decide (0 < a.length) := by rw [Bool.eq_iff_iff]; simp
  have q3 : decide ((0 : Int) < (b.length : Int)) = decide (0 < b.length) := by rw [Bool.eq_iff_iff]; simp
  have q4 : decide ((r.length : Int) < 2) = decide (r.length < 2) := by rw [Bool.eq_iff_iff, decide_eq_true_eq, decide_eq_true_eq]; omega
  have q5 : ((a.length : Int) != 1) = !decide (a.length = 1) := by rw [bne, Bool.eq_iff_iff]; simp; omega
  -- ways (genfld.py)
  by_cases kl : k < 1
  · obtain rfl : (1 : Int) = R := by rw [← hR.out]; simp [kl]
    clear hR
    go_enter Tryz.func29, Tryz.ntmps29
    go_wp2
    go_ret
    exact ⟨rfl, hB⟩
  by_cases kh : 5 < k
  · obtain rfl : (1 : Int) = R := by rw [← hR.out]; simp [kh]
    clear hR
    go_enter Tryz.func29, Tryz.ntmps29
    go_wp2
    go_ret
    exact ⟨rfl, hB⟩
  have hk : k = 1 ∨ k = 2 ∨ k = 3 ∨ k = 4 ∨ k = 5 := by omega
  clear kl kh
  rcases hk with rfl | rfl | rfl | rfl | rfl
  · by_cases t1 : 0 < r.length
    · rw [decide_eq_true t1] at q1
      have pt1 : decide (0 < r.length) = true := decide_eq_true t1
      obtain rfl : (1 : Int) = R := by rw [← hR.out]; simp [t1]
      clear hR t1
      go_enter Tryz.func29, Tryz.ntmps29
      go_wp2
      go_ret
      exact ⟨rfl, hB⟩
    · rw [decide_eq_false t1] at q1
      have pt1 : decide (0 < r.length) = false := decide_eq_false t1
      by_cases t2 : 0 < b.length
      · rw [decide_eq_true t2] at q3
        have pt2 : decide (0 < b.length) = true := decide_eq_true t2
        obtain rfl : (1 : Int) = R := by rw [← hR.out]; simp [t1, t2]
        clear hR t1 t2
        go_enter Tryz.func29, Tryz.ntmps29
        go_wp2
        go_ret
        exact ⟨rfl, hB⟩
      · rw [decide_eq_false t2] at q3
        have pt2 : decide (0 < b.length) = false := decide_eq_false t2
        obtain rfl : (0 : Int) = R := by rw [← hR.out]; simp [t1, t2]
        clear hR t1 t2
        go_enter Tryz.func29, Tryz.ntmps29
        go_wp2
        go_ret
        exact ⟨rfl, hB⟩
  · by_cases t1 : n = []
    · rw [decide_eq_true t1] at e0
      by_cases t2 : 0 < b.length
      · rw [decide_eq_true t2] at q3
        have pt2 : decide (0 < b.length) = true := decide_eq_true t2
        obtain rfl : (1 : Int) = R := by rw [← hR.out]; simp [t1, t2]
        clear hR t1 t2
        go_enter Tryz.func29, Tryz.ntmps29
        go_wp2
        go_ret
        exact ⟨rfl, hB⟩
      · rw [decide_eq_false t2] at q3
        have pt2 : decide (0 < b.length) = false := decide_eq_false t2
        by_cases t3 : r.length < 2
        · rw [decide_eq_true t3] at q4
          have pt3 : decide (r.length < 2) = true := decide_eq_true t3
          obtain rfl : (1 : Int) = R := by rw [← hR.out]; simp [t1, t2, t3]
          clear hR t1 t2 t3
          go_enter Tryz.func29, Tryz.ntmps29
          go_wp2
          go_ret
          exact ⟨rfl, hB⟩
        · rw [decide_eq_false t3] at q4
          have pt3 : decide (r.length < 2) = false := decide_eq_false t3
          obtain rfl : (0 : Int) = R := by rw [← hR.out]; simp [t1, t2, t3]
          clear hR t1 t2 t3
          go_enter Tryz.func29, Tryz.ntmps29
          go_wp2
          go_ret
          exact ⟨rfl, hB⟩
    · rw [decide_eq_false t1] at e0
      obtain rfl : (1 : Int) = R := by rw [← hR.out]; simp [t1]
      clear hR t1
      go_enter Tryz.func29, Tryz.ntmps29
      go_wp2
      go_ret
      exact ⟨rfl, hB⟩
  · by_cases t1 : 0 < r.length
    · rw [decide_eq_true t1] at q1
      have pt1 : decide (0 < r.length) = true := decide_eq_true t1
      obtain rfl : (1 : Int) = R := by rw [← hR.out]; simp [t1]
      clear hR t1
      go_enter Tryz.func29, Tryz.ntmps29
      go_wp2
      go_ret
      exact ⟨rfl, hB⟩
    · rw [decide_eq_false t1] at q1
      have pt1 : decide (0 < r.length) = false := decide_eq_false t1
      by_cases t2 : 0 < b.length
      · rw [decide_eq_true t2] at q3
        have pt2 : decide (0 < b.length) = true := decide_eq_true t2
        obtain rfl : (1 : Int) = R := by rw [← hR.out]; simp [t1, t2]
        clear hR t1 t2
        go_enter Tryz.func29, Tryz.ntmps29
        go_wp2
        go_ret
        exact ⟨rfl, hB⟩
      · rw [decide_eq_false t2] at q3
        have pt2 : decide (0 < b.length) = false := decide_eq_false t2
        by_cases t3 : n = wNode
        · rw [decide_eq_true t3] at e1; rw [decide_eq_true t3] at e3
          obtain rfl : (0 : Int) = R := by rw [← hR.out]; simp [t1, t2, t3]
          clear hR t1 t2 t3
          go_enter Tryz.func29, Tryz.ntmps29
          go_wp2
          go_ret
          exact ⟨rfl, hB⟩
        · rw [decide_eq_false t3] at e1; rw [decide_eq_false t3] at e3
          by_cases t4 : n = wEdge
          · rw [decide_eq_true t4] at e2; rw [decide_eq_true t4] at e4
            obtain rfl : (0 : Int) = R := by rw [← hR.out]; simp [t1, t2, t4]
            clear hR t1 t2 t3 t4
            go_enter Tryz.func29, Tryz.ntmps29
            go_wp2
            go_ret
            exact ⟨rfl, hB⟩
          · rw [decide_eq_false t4] at e2; rw [decide_eq_false t4] at e4
            obtain rfl : (1 : Int) = R := by rw [← hR.out]; simp [t1, t2, t3, t4]
            clear hR t1 t2 t3 t4
            go_enter Tryz.func29, Tryz.ntmps29
            go_wp2
            go_ret
            exact ⟨rfl, hB⟩
  · by_cases t1 : 0 < r.length
    · rw [decide_eq_true t1] at q1
      have pt1 : decide (0 < r.length) = true := decide_eq_true t1
      obtain rfl : (1 : Int) = R := by rw [← hR.out]; simp [t1]
      clear hR t1
      go_enter Tryz.func29, Tryz.ntmps29
      go_wp2
      go_ret
      exact ⟨rfl, hB⟩
    · rw [decide_eq_false t1] at q1
      have pt1 : decide (0 < r.length) = false := decide_eq_false t1
      by_cases t2 : 0 < b.length
      · rw [decide_eq_true t2] at q3
        have pt2 : decide (0 < b.length) = true := decide_eq_true t2
        obtain rfl : (1 : Int) = R := by rw [← hR.out]; simp [t1, t2]
        clear hR t1 t2
        go_enter Tryz.func29, Tryz.ntmps29
        go_wp2
        go_ret
        exact ⟨rfl, hB⟩
      · rw [decide_eq_false t2] at q3
        have pt2 : decide (0 < b.length) = false := decide_eq_false t2
        by_cases t3 : a.length = 1
        · rw [decide_eq_true t3] at q5
          have pt3 : decide (a.length = 1) = true := decide_eq_true t3
          obtain ⟨y, hy⟩ : ∃ y, a = [y] := List.length_eq_one_iff.1 t3
          obtain ⟨_, _, ec, _, _, hA⟩ := HAV.out
          obtain ⟨A, rfl, hAt⟩ := hA (by rw [hy]; simp)
          have ec2 : so = some A := by simp only [Value.slice.injEq] at ec; exact ec.1
          subst ec2
          have c0 := (hAt 0 (by rw [hy]; simp)).1
          have e5 : A.add (0 * 2) = A := by unfold Addr.add; rfl
          rw [e5] at c0
          have e6 : a[0]'(by rw [hy]; simp) = y := by subst hy; rfl
          rw [e6] at c0
          obtain ⟨Y, hY⟩ : ∃ Y, bb y.1 = Y := ⟨_, rfl⟩
          have hYn : Y.toList = y.1 := by rw [← hY, ByteArray.toList_eq]
          have e7 : Y.toList.isEmpty = decide (y.1 = []) := by rw [hYn]; cases y.1 <;> rfl
          rw [hY] at c0
          have hal : a.length = 1 := t3
          have l1 : (a.length : Int) = 1 := by omega
          clear HAV hAt hA ec e5 e6 hY hYn
          by_cases t4 : y.1 = []
          · rw [decide_eq_true t4] at e7
            obtain rfl : (0 : Int) = R := by rw [← hR.out]; simp [t1, t2, hy, t4]
            clear hR hal hy t1 t2 t3 t4
            go_enter Tryz.func29, Tryz.ntmps29
            go_wp2
            go_ret
            exact ⟨rfl, hB⟩
          · rw [decide_eq_false t4] at e7
            obtain rfl : (1 : Int) = R := by rw [← hR.out]; simp [t1, t2, hy, t4]
            clear hR hal hy t1 t2 t3 t4
            go_enter Tryz.func29, Tryz.ntmps29
            go_wp2
            go_ret
            exact ⟨rfl, hB⟩
        · rw [decide_eq_false t3] at q5
          have pt3 : decide (a.length = 1) = false := decide_eq_false t3
          obtain rfl : (1 : Int) = R := by rw [← hR.out]; simp [t1, t2, t3]
          clear hR t1 t2 t3
          go_enter Tryz.func29, Tryz.ntmps29
          go_wp2
          go_ret
          exact ⟨rfl, hB⟩
  · by_cases t1 : 0 < r.length
    · rw [decide_eq_true t1] at q1
      have pt1 : decide (0 < r.length) = true := decide_eq_true t1
      obtain rfl : (1 : Int) = R := by rw [← hR.out]; simp [t1]
      clear hR t1
      go_enter Tryz.func29, Tryz.ntmps29
      go_wp2
      go_ret
      exact ⟨rfl, hB⟩
    · rw [decide_eq_false t1] at q1
      have pt1 : decide (0 < r.length) = false := decide_eq_false t1
      by_cases t2 : 0 < a.length
      · rw [decide_eq_true t2] at q2
        have pt2 : decide (0 < a.length) = true := decide_eq_true t2
        obtain rfl : (1 : Int) = R := by rw [← hR.out]; simp [t1, t2]
        clear hR t1 t2
        go_enter Tryz.func29, Tryz.ntmps29
        go_wp2
        go_ret
        exact ⟨rfl, hB⟩
      · rw [decide_eq_false t2] at q2
        have pt2 : decide (0 < a.length) = false := decide_eq_false t2
        obtain rfl : (0 : Int) = R := by rw [← hR.out]; simp [t1, t2]
        clear hR t1 t2
        go_enter Tryz.func29, Tryz.ntmps29
        go_wp2
        go_ret
        exact ⟨rfl, hB⟩
end Go.Proofs.YtgccheiemnpaoaaGreatDoor.tre
