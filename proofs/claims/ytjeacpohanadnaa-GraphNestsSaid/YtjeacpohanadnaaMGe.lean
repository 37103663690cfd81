/-
  Comparisons of structs of a graph, and what SameArcs of the reference of layer 11 returns. Condition: two digraphs in memory.
  What sameNode of the reference of layer 11 returns. Condition: two nodes in memory.
-/
import Derived.Test.YtjeacpohanadnaaGraDg
import Derived.Deep.QuietTactic
import Derived.Laws.StructEq
namespace Go.Proofs.Ytjeacpohanadnaa.gra
open Go.RowKit lex

theorem guard_pt : Try.prog.eqGuardType Try.prog.depth 77 = false := by kernel_rfl
theorem neq_pt (u v : Pt) (dq : Bool) (h : Hid (decide (u ≠ v) = dq)) (w : World) : (binOp .neq 77 (.agg #[.string (bb u.1), .int .i64 u.2]) (.agg #[.string (bb v.1), .int .i64 v.2])).run Try.prog w = .ok (.bool dq) w := by
  have hu : Try.prog.underlying 77 = some (.struct (Try.prog.fieldsOf 77)) := by kernel_rfl
  have hp : Try.prog.stoodInHeld 77 = false := by kernel_rfl
  obtain ⟨a0, a1⟩ := u
  obtain ⟨c0, c1⟩ := v
  rw [run_neq_struct, run_equalIn_agg w 9999 _ _ _ hu hp, ← h.out]
  by_cases h1 : a0 = c0 <;> by_cases h2 : a1 = c1 <;> simp [go_sem, Op.eqFields, Program.fieldsOf, Try.underlying77, Try.underlying9, Try.underlying3, ByteArray.toList_eq, h1, h2]
theorem guard_cl : Try.prog.eqGuardType Try.prog.depth 50 = false := by kernel_rfl
theorem neq_cl (u v : Pt) (dq : Bool) (h : Hid (decide (u ≠ v) = dq)) (w : World) : (binOp .neq 50 (.agg #[.string (bb u.1), .int .i64 u.2]) (.agg #[.string (bb v.1), .int .i64 v.2])).run Try.prog w = .ok (.bool dq) w := by
  have hu : Try.prog.underlying 50 = some (.struct (Try.prog.fieldsOf 50)) := by kernel_rfl
  have hp : Try.prog.stoodInHeld 50 = false := by kernel_rfl
  obtain ⟨a0, a1⟩ := u
  obtain ⟨c0, c1⟩ := v
  rw [run_neq_struct, run_equalIn_agg w 9999 _ _ _ hu hp, ← h.out]
  by_cases h1 : a0 = c0 <;> by_cases h2 : a1 = c1 <;> simp [go_sem, Op.eqFields, Program.fieldsOf, Try.underlying50, Try.underlying9, Try.underlying3, ByteArray.toList_eq, h1, h2]
theorem guard_ar : Try.prog.eqGuardType Try.prog.depth 61 = false := by kernel_rfl
theorem neq_ar (u v : Ar) (dq : Bool) (h : Hid (decide (u ≠ v) = dq)) (w : World) : (binOp .neq 61 (.agg #[.int .i64 u.1, .int .i64 u.2]) (.agg #[.int .i64 v.1, .int .i64 v.2])).run Try.prog w = .ok (.bool dq) w := by
  have hu : Try.prog.underlying 61 = some (.struct (Try.prog.fieldsOf 61)) := by kernel_rfl
  have hp : Try.prog.stoodInHeld 61 = false := by kernel_rfl
  obtain ⟨a0, a1⟩ := u
  obtain ⟨c0, c1⟩ := v
  rw [run_neq_struct, run_equalIn_agg w 9999 _ _ _ hu hp, ← h.out]
  by_cases h1 : a0 = c0 <;> by_cases h2 : a1 = c1 <;> simp [go_sem, Op.eqFields, Program.fieldsOf, Try.underlying61, Try.underlying3, h1, h2]
theorem guard_ed : Try.prog.eqGuardType Try.prog.depth 56 = false := by kernel_rfl
theorem neq_ed (u v : Ed) (dq : Bool) (h : Hid (decide (u ≠ v) = dq)) (w : World) : (binOp .neq 56 (.agg #[.int .i64 u.fr, .int .i64 u.to, .int .i64 u.fp, .int .i64 u.tp, .string (bb u.lb), .int .i64 u.wt, .int .i64 u.ln]) (.agg #[.int .i64 v.fr, .int .i64 v.to, .int .i64 v.fp, .int .i64 v.tp, .string (bb v.lb), .int .i64 v.wt, .int .i64 v.ln])).run Try.prog w = .ok (.bool dq) w := by
  have hu : Try.prog.underlying 56 = some (.struct (Try.prog.fieldsOf 56)) := by kernel_rfl
  have hp : Try.prog.stoodInHeld 56 = false := by kernel_rfl
  obtain ⟨a0, a1, a2, a3, a4, a5, a6⟩ := u
  obtain ⟨c0, c1, c2, c3, c4, c5, c6⟩ := v
  simp only [Ed.mk.injEq, ne_eq] at h
  rw [run_neq_struct, run_equalIn_agg w 9999 _ _ _ hu hp, ← h.out]
  by_cases h0 : a0 = c0
  case neg => simp [go_sem, Op.eqFields, Program.fieldsOf, Try.underlying56, Try.underlying9, Try.underlying3, ByteArray.toList_eq, h0]
  subst h0
  by_cases h1 : a1 = c1
  case neg => simp [go_sem, Op.eqFields, Program.fieldsOf, Try.underlying56, Try.underlying9, Try.underlying3, ByteArray.toList_eq, h1]
  subst h1
  by_cases h2 : a2 = c2
  case neg => simp [go_sem, Op.eqFields, Program.fieldsOf, Try.underlying56, Try.underlying9, Try.underlying3, ByteArray.toList_eq, h2]
  subst h2
  by_cases h3 : a3 = c3
  case neg => simp [go_sem, Op.eqFields, Program.fieldsOf, Try.underlying56, Try.underlying9, Try.underlying3, ByteArray.toList_eq, h3]
  subst h3
  by_cases h4 : a4 = c4
  case neg => simp [go_sem, Op.eqFields, Program.fieldsOf, Try.underlying56, Try.underlying9, Try.underlying3, ByteArray.toList_eq, h4]
  subst h4
  by_cases h5 : a5 = c5
  case neg => simp [go_sem, Op.eqFields, Program.fieldsOf, Try.underlying56, Try.underlying9, Try.underlying3, ByteArray.toList_eq, h5]
  subst h5
  by_cases h6 : a6 = c6
  case neg => simp [go_sem, Op.eqFields, Program.fieldsOf, Try.underlying56, Try.underlying9, Try.underlying3, ByteArray.toList_eq, h6]
  subst h6
  simp [go_sem, Op.eqFields, Program.fieldsOf, Try.underlying56, Try.underlying9, Try.underlying3]
theorem take_eq {α : Type} {a b : List α} {k : Nat} (ha : k < a.length) (hb : k < b.length) (h : a.take k = b.take k) (he : a[k] = b[k]) : a.take (k + 1) = b.take (k + 1) := by
  rw [List.take_succ_eq_append_getElem ha, List.take_succ_eq_append_getElem hb, h, he]
theorem take_ne {α : Type} {a b : List α} {k : Nat} (ha : k < a.length) (hb : k < b.length) (he : a[k] ≠ b[k]) : a ≠ b := fun e => he (by subst e; rfl)
theorem take_all {α : Type} {a b : List α} {k : Nat} (hl : a.length = b.length) (hk : a.length ≤ k) (h : a.take k = b.take k) : a = b := by
  rw [List.take_of_length_le hk, List.take_of_length_le (by omega)] at h; exact h
theorem dgb_keep {w w' : World} {b : Nat} {n : Int} {v : Value} (h : dgb w b n v) (hb : Below w.heap.size w w') : dgb w' b n v := dgb_below hb (World.block_lt_of_cell? w _ h.1) h
set_option maxRecDepth 100000 in
set_option maxHeartbeats 8000000 in
theorem gsamearcs_of (v v2 : Value) (n n2 : Int) (a b : List Ar) (R : Bool) (w : World) (h1 : Hid (DgV w v n a)) (h2 : Hid (DgV w v2 n2 b)) (hr : Hid (decide (n = n2 ∧ a = b) = R)) :
    Calls Try.prog 13 #[v, v2] w fun e w' => e = .returned (.bool R) ∧ Below w.heap.size w w' := by
  have hmx : Try.prog.follows .mixedOrders = true := by kernel_rfl
  obtain ⟨av, rfl, ha⟩ := h1.out
  obtain ⟨bv, rfl, hb⟩ := h2.out
  obtain ⟨ao, ac, rfl, hc1, hm1, -⟩ := id ha
  obtain ⟨bo, bc, rfl, hc2, hm2, -⟩ := id hb
  unfold maxLen at hm1 hm2
  have hla : a.length ≤ 9223372036854775807 := by omega
  have hlb : b.length ≤ 9223372036854775807 := by omega
  have hfe := hr.out
  have HB := Lib.hid (al2 w (.cells #[.int .i64 n, .slice ao a.length ac] 35) (.cells #[.int .i64 n2, .slice bo b.length bc] 35))
  have HC := Lib.hid (dgb_alloc (.cells #[.int .i64 n2, .slice bo b.length bc] 35) (dgb_new w n ao a.length ac 35))
  have hd := dgb_new (w.alloc (.cells #[.int .i64 n, .slice ao a.length ac] 35)) n2 bo b.length bc 35
  rw [World.size_alloc] at hd
  have HD := Lib.hid hd
  have HA := Lib.hid (ha.keep HB.out)
  have HBb := Lib.hid (hb.keep HB.out)
  have hga := guard_ar
  obtain ⟨c0, c1, -, -⟩ := HC.out
  obtain ⟨d0, d1, -, -⟩ := HD.out
  clear hc1 hm1 hc2 hm2 ha hb h1 h2 hr hd
  by_cases hn : n = n2
  case neg =>
    have b0 : (n != n2) = true := by rw [bne_iff_ne]; exact hn
    rw [decide_eq_false (fun e => hn e.1)] at hfe
    subst hfe
    clear hn
    go_enter Try.func13, Try.ntmps13
    go_wp2
    go_ret
    exact ⟨rfl, HB.out⟩
  subst hn
  have b0 : (n != n) = false := by simp
  by_cases hl : a.length = b.length
  case neg =>
    have b1 : ((a.length : Int) != (b.length : Int)) = true := by rw [bne_iff_ne]; omega
    rw [decide_eq_false (fun e => hl (by rw [e.2]))] at hfe
    subst hfe
    clear hl
    go_enter Try.func13, Try.ntmps13
    go_wp2
    go_ret
    exact ⟨rfl, HB.out⟩
  have b1 : ((a.length : Int) != (b.length : Int)) = false := by rw [hl]; simp
  have HL := Lib.hid hl
  have HR := Lib.hid hfe
  obtain ⟨W2, hW2⟩ : ∃ W2, (w.alloc (.cells #[.int .i64 n, .slice ao a.length ac] 35)).alloc (.cells #[.int .i64 n, .slice bo b.length bc] 35) = W2 := ⟨_, rfl⟩
  have HW2 := Lib.hid hW2
  clear hW2 hl hfe
  go_enter Try.func13, Try.ntmps13
  go_wp2_with fail
  rw [HW2.out] at HB HC HD HA HBb ⊢
  clear c0 c1 d0 d1 b0 b1
  go_loopw [5] (fun iv wr => ∃ i : Nat, iv = .int .i64 i ∧ i ≤ a.length ∧ a.take i = b.take i ∧ Below W2.heap.size W2 wr) (fun iv _ => a.length - (intOf iv).toNat)
  case atStart => exact ⟨0, rfl, Nat.zero_le _, rfl, Below.refl _ _⟩
  case round =>
    obtain ⟨i, rfl, hi, htk, hB⟩ := hrel
    rename World => wr
    have HB2 := Lib.hid (below_keep hB HB.out)
    obtain ⟨c0, c1, -, -⟩ := dgb_keep HC.out hB
    obtain ⟨d0, d1, -, -⟩ := dgb_keep HD.out hB
    by_cases hlt : i < a.length
    · have hlt2 : i < b.length := by have := HL.out; omega
      obtain ⟨A, rfl, q0, q1⟩ := (HA.out.keep hB).get hlt
      obtain ⟨B, rfl, p0, p1⟩ := (HBb.out.keep hB).get hlt2
      obtain ⟨x, hx⟩ : ∃ x, a[i] = x := ⟨_, rfl⟩
      obtain ⟨y, hy⟩ : ∃ y, b[i] = y := ⟨_, rfl⟩
      rw [hx] at q0 q1
      rw [hy] at p0 p1
      have i0 : (0 : Int) ≤ (i : Int) := by omega
      have i1 : (i : Int) < (a.length : Int) := by omega
      have i2 : (i : Int) < (b.length : Int) := by omega
      by_cases hxy : x = y
      · have hneq := neq_ar x y false (Lib.hid (by simp [hxy]))
        have HT := Lib.hid (take_eq hlt hlt2 htk (by rw [hx, hy, hxy]))
        clear htk hx hy hxy
        go_wp2_with fail
        go_quiet (fail)
        have HB3 := Lib.hid (below_keep (drew_n wr nq) hB)
        generalize wr.drewN nq = w3 at HB3 ⊢
        go_wp2
        go_roundw
        case rel => exact ⟨i + 1, by go_num, by omega, HT.out, HB3.out⟩
        case measure => simp [intOf]; omega
      · have hneq := neq_ar x y true (Lib.hid (by simp [hxy]))
        have hfe := HR.out
        rw [decide_eq_false (fun e => take_ne hlt hlt2 (by rw [hx, hy]; exact hxy) e.2)] at hfe
        subst hfe
        clear htk hx hy hxy
        go_wp2_with fail
        go_quiet (fail)
        have HB3 := Lib.hid (below_keep (drew_n wr nq) HB2.out)
        generalize wr.drewN nq = w3 at HB3 ⊢
        go_wp2
        go_ret
        exact ⟨rfl, HB3.out⟩
    · have hfe := HR.out
      rw [decide_eq_true ⟨trivial, take_all HL.out (by omega) htk⟩] at hfe
      subst hfe
      clear htk
      go_wp2
      go_ret
      exact ⟨rfl, HB2.out⟩
end Go.Proofs.Ytjeacpohanadnaa.gra
namespace Go.Proofs.Ytjeacpohanadnaa.gra
open Go.RowKit lex

/-- A node by value. -/
def NdV (w : World) (v : Value) (x : Nd) : Prop := ∃ pv, v = .agg #[.string (bb x.nm), .string (bb x.lb), .int .i64 x.w, .int .i64 x.h, .int .i64 x.cl, pv] ∧ Pts w pv x.ps
theorem NdV.keep {w1 w2 : World} {v : Value} {x : Nd} (h : NdV w1 v x) (hb : Below w1.heap.size w1 w2) : NdV w2 v x := by
  obtain ⟨pv, rfl, h1⟩ := h; exact ⟨pv, rfl, h1.keep hb⟩
/-- A node's box. -/
def nbx (W : World) (b : Nat) (X L : ByteArray) (p q r : Int) (v : Value) : Prop :=
  W.cell? ⟨b, 0, none⟩ = some (.string X) ∧ W.cell? ⟨b, 1, none⟩ = some (.string L) ∧ W.cell? ⟨b, 2, none⟩ = some (.int .i64 p) ∧ W.cell? ⟨b, 3, none⟩ = some (.int .i64 q) ∧ W.cell? ⟨b, 4, none⟩ = some (.int .i64 r) ∧ W.cell? ⟨b, 5, none⟩ = some v
theorem nbx_new (w : World) (X L : ByteArray) (p q r : Int) (ao : Option Addr) (n c : Nat) (t : TypeId) : nbx (w.alloc (.cells #[.string X, .string L, .int .i64 p, .int .i64 q, .int .i64 r, .slice ao n c] t)) w.heap.size X L p q r (.slice ao n c) := by
  refine ⟨?_, ?_, ?_, ?_, ?_, ?_⟩ <;> go_simp
theorem nbx_keep {w1 w2 : World} {b : Nat} {X L : ByteArray} {p q r : Int} {v : Value} (h : nbx w1 b X L p q r v) (h2 : Below w1.heap.size w1 w2) : nbx w2 b X L p q r v := by
  obtain ⟨a0, a1, a2, a3, a4, a5⟩ := h
  exact ⟨cell_keep h2 a0, cell_keep h2 a1, cell_keep h2 a2, cell_keep h2 a3, cell_keep h2 a4, cell_keep h2 a5⟩
set_option maxRecDepth 100000 in
set_option maxHeartbeats 16000000 in
theorem gsamenode_of (v v2 : Value) (x y : Nd) (R : Bool) (w : World) (h1 : Hid (NdV w v x)) (h2 : Hid (NdV w v2 y)) (hr : Hid (decide (x = y) = R)) :
    Calls Try.prog 41 #[v, v2] w fun e w' => e = .returned (.bool R) ∧ Below w.heap.size w w' := by
  have hmx : Try.prog.follows .mixedOrders = true := by kernel_rfl
  obtain ⟨av, rfl, ha⟩ := h1.out
  obtain ⟨bv, rfl, hb⟩ := h2.out
  have hfe := hr.out
  clear h1 h2 hr
  obtain ⟨n0, l0, p0, q0, r0, a⟩ := x
  obtain ⟨n1, l1, p1, q1, r1, b⟩ := y
  simp only at ha hb
  simp only [Nd.mk.injEq] at hfe
  obtain ⟨ao, ac, rfl, hc1, hm1, -⟩ := id ha
  obtain ⟨bo, bc, rfl, hc2, hm2, -⟩ := id hb
  unfold maxLen at hm1 hm2
  have hla : a.length ≤ 9223372036854775807 := by omega
  have hlb : b.length ≤ 9223372036854775807 := by omega
  obtain ⟨X, hX⟩ : ∃ X, bb n0 = X := ⟨_, rfl⟩
  obtain ⟨Y, hY⟩ : ∃ Y, bb n1 = Y := ⟨_, rfl⟩
  obtain ⟨L, hL⟩ : ∃ L, bb l0 = L := ⟨_, rfl⟩
  obtain ⟨M, hM⟩ : ∃ M, bb l1 = M := ⟨_, rfl⟩
  have hXY : n0 = n1 ↔ X.toList = Y.toList := by rw [← hX, ← hY, ByteArray.toList_eq, ByteArray.toList_eq]
  have hLM : l0 = l1 ↔ L.toList = M.toList := by rw [← hL, ← hM, ByteArray.toList_eq, ByteArray.toList_eq]
  simp only [hX, hY, hL, hM]
  simp only [hXY, hLM] at hfe
  have HB := Lib.hid (al2 w (.cells #[.string X, .string L, .int .i64 p0, .int .i64 q0, .int .i64 r0, .slice ao a.length ac] 48) (.cells #[.string Y, .string M, .int .i64 p1, .int .i64 q1, .int .i64 r1, .slice bo b.length bc] 48))
  have HC := Lib.hid (nbx_keep (nbx_new w X L p0 q0 r0 ao a.length ac 48) (al1 _ (.cells #[.string Y, .string M, .int .i64 p1, .int .i64 q1, .int .i64 r1, .slice bo b.length bc] 48)))
  have hd := nbx_new (w.alloc (.cells #[.string X, .string L, .int .i64 p0, .int .i64 q0, .int .i64 r0, .slice ao a.length ac] 48)) Y M p1 q1 r1 bo b.length bc 48
  rw [World.size_alloc] at hd
  have HD := Lib.hid hd
  have HA := Lib.hid (ha.keep HB.out)
  have HBb := Lib.hid (hb.keep HB.out)
  have hga := guard_pt
  obtain ⟨c0, c1, c2, c3, c4, c5⟩ := HC.out
  obtain ⟨d0, d1, d2, d3, d4, d5⟩ := HD.out
  clear hc1 hm1 hc2 hm2 ha hb hd hX hY hL hM hXY hLM
  by_cases k0 : X.toList = Y.toList
  case neg =>
    have z0 : (X.toList == Y.toList) = false := by rw [beq_eq_false_iff_ne]; exact k0
    have y0 : (X.toList != Y.toList) = true := by rw [bne_iff_ne]; exact k0
    rw [decide_eq_false (fun e => k0 (e.1))] at hfe
    subst hfe
    clear k0
    go_enter Try.func41, Try.ntmps41
    go_wp2
    go_ret
    exact ⟨rfl, HB.out⟩
  have z0 : (X.toList == Y.toList) = true := by rw [beq_iff_eq]; exact k0
  have y0 : (X.toList != Y.toList) = false := by rw [bne_eq_false_iff_eq]; exact k0
  by_cases k1 : L.toList = M.toList
  case neg =>
    have z1 : (L.toList == M.toList) = false := by rw [beq_eq_false_iff_ne]; exact k1
    have y1 : (L.toList != M.toList) = true := by rw [bne_iff_ne]; exact k1
    rw [decide_eq_false (fun e => k1 (e.2.1))] at hfe
    subst hfe
    clear k0 k1
    go_enter Try.func41, Try.ntmps41
    go_wp2
    go_ret
    exact ⟨rfl, HB.out⟩
  have z1 : (L.toList == M.toList) = true := by rw [beq_iff_eq]; exact k1
  have y1 : (L.toList != M.toList) = false := by rw [bne_eq_false_iff_eq]; exact k1
  by_cases k2 : p0 = p1
  case neg =>
    have y2 : (p0 != p1) = true := by rw [bne_iff_ne]; exact k2
    rw [decide_eq_false (fun e => k2 (e.2.2.1))] at hfe
    subst hfe
    clear k0 k1 k2
    go_enter Try.func41, Try.ntmps41
    go_wp2
    go_ret
    exact ⟨rfl, HB.out⟩
  subst k2
  have y2 : (p0 != p0) = false := by simp
  by_cases k3 : q0 = q1
  case neg =>
    have y3 : (q0 != q1) = true := by rw [bne_iff_ne]; exact k3
    rw [decide_eq_false (fun e => k3 (e.2.2.2.1))] at hfe
    subst hfe
    clear k0 k1 k3
    go_enter Try.func41, Try.ntmps41
    go_wp2
    go_ret
    exact ⟨rfl, HB.out⟩
  subst k3
  have y3 : (q0 != q0) = false := by simp
  by_cases k4 : r0 = r1
  case neg =>
    have y4 : (r0 != r1) = true := by rw [bne_iff_ne]; exact k4
    rw [decide_eq_false (fun e => k4 (e.2.2.2.2.1))] at hfe
    subst hfe
    clear k0 k1 k4
    go_enter Try.func41, Try.ntmps41
    go_wp2
    go_ret
    exact ⟨rfl, HB.out⟩
  subst k4
  have y4 : (r0 != r0) = false := by simp
  by_cases k5 : a.length = b.length
  case neg =>
    have y5 : ((a.length : Int) != (b.length : Int)) = true := by rw [bne_iff_ne]; omega
    rw [decide_eq_false (fun e => k5 (congrArg List.length e.2.2.2.2.2))] at hfe
    subst hfe
    clear k0 k1 k5
    go_enter Try.func41, Try.ntmps41
    go_wp2
    go_ret
    exact ⟨rfl, HB.out⟩
  have y5 : ((a.length : Int) != (b.length : Int)) = false := by rw [k5]; simp
  have HL := Lib.hid k5
  have HR : Hid (decide (a = b) = R) := Lib.hid (by rw [← hfe]; simp [k0, k1])
  obtain ⟨W2, hW2⟩ : ∃ W2, (w.alloc (.cells #[.string X, .string L, .int .i64 p0, .int .i64 q0, .int .i64 r0, .slice ao a.length ac] 48)).alloc (.cells #[.string Y, .string M, .int .i64 p0, .int .i64 q0, .int .i64 r0, .slice bo b.length bc] 48) = W2 := ⟨_, rfl⟩
  have HW2 := Lib.hid hW2
  clear hW2 hfe k0 k1 k5
  go_enter Try.func41, Try.ntmps41
  go_wp2_with fail
  rw [HW2.out] at HB HC HD HA HBb ⊢
  clear c0 c1 c2 c3 c4 c5 d0 d1 d2 d3 d4 d5 z0 z1 y0 y1 y2 y3 y4 y5
  go_loopw [5] (fun iv wr => ∃ i : Nat, iv = .int .i64 i ∧ i ≤ a.length ∧ a.take i = b.take i ∧ Below W2.heap.size W2 wr) (fun iv _ => a.length - (intOf iv).toNat)
  case atStart => exact ⟨0, rfl, Nat.zero_le _, rfl, Below.refl _ _⟩
  case round =>
    obtain ⟨i, rfl, hi, htk, hB⟩ := hrel
    rename World => wr
    have HB2 := Lib.hid (below_keep hB HB.out)
    obtain ⟨-, -, -, -, -, c5⟩ := nbx_keep HC.out hB
    obtain ⟨-, -, -, -, -, d5⟩ := nbx_keep HD.out hB
    by_cases hlt : i < a.length
    · have hlt2 : i < b.length := by have := HL.out; omega
      obtain ⟨A, rfl, s0, s1, -⟩ := (HA.out.keep hB).get hlt
      obtain ⟨B, rfl, t0, t1, -⟩ := (HBb.out.keep hB).get hlt2
      obtain ⟨x, hx⟩ : ∃ x, a[i] = x := ⟨_, rfl⟩
      obtain ⟨y, hy⟩ : ∃ y, b[i] = y := ⟨_, rfl⟩
      rw [hx] at s0 s1
      rw [hy] at t0 t1
      have i0 : (0 : Int) ≤ (i : Int) := by omega
      have i1 : (i : Int) < (a.length : Int) := by omega
      have i2 : (i : Int) < (b.length : Int) := by omega
      by_cases hxy : x = y
      · have hneq := neq_pt x y false (Lib.hid (by simp [hxy]))
        have HT := Lib.hid (take_eq hlt hlt2 htk (by rw [hx, hy, hxy]))
        clear htk hx hy hxy
        go_wp2_with fail
        go_quiet (fail)
        have HB3 := Lib.hid (below_keep (drew_n wr nq) hB)
        generalize wr.drewN nq = w3 at HB3 ⊢
        go_wp2
        go_roundw
        case rel => exact ⟨i + 1, by go_num, by omega, HT.out, HB3.out⟩
        case measure => simp [intOf]; omega
      · have hneq := neq_pt x y true (Lib.hid (by simp [hxy]))
        have hfe := HR.out
        rw [decide_eq_false (fun e => take_ne hlt hlt2 (by rw [hx, hy]; exact hxy) e)] at hfe
        subst hfe
        clear htk hx hy hxy
        go_wp2_with fail
        go_quiet (fail)
        have HB3 := Lib.hid (below_keep (drew_n wr nq) HB2.out)
        generalize wr.drewN nq = w3 at HB3 ⊢
        go_wp2
        go_ret
        exact ⟨rfl, HB3.out⟩
    · have hfe := HR.out
      rw [decide_eq_true (take_all HL.out (by omega) htk)] at hfe
      subst hfe
      clear htk
      go_wp2
      go_ret
      exact ⟨rfl, HB2.out⟩
end Go.Proofs.Ytjeacpohanadnaa.gra
