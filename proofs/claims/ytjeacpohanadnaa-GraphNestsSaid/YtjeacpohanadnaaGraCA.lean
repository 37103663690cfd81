/-
  What Same of the landed graph returns, with the library's slices.Equal and slices.EqualFunc that it calls. Condition: two graphs in memory.
-/
import Derived.Test.YtjeacpohanadnaaMGe
import Derived.Test.YtjeacpohanadnaaGraRef4
namespace Go.Proofs.Ytjeacpohanadnaa.gra
open Go.RowKit lex

set_option maxRecDepth 100000 in
set_option maxHeartbeats 4000000 in
theorem eqpo_of (v v2 : Value) (a b : List Pt) (R : Bool) (w : World) (h1 : Hid (Pts w v a)) (h2 : Hid (Pts w v2 b)) (hr : Hid (decide (a = b) = R)) :
    Calls Try.prog 60 #[v, v2] w fun e w' => e = .returned (.bool R) ∧ Below w.heap.size w w' := by
  have hmx : Try.prog.follows .mixedOrders = true := by kernel_rfl
  obtain ⟨ao, ac, rfl, hc1, hm1, -⟩ := id h1.out
  obtain ⟨bo, bc, rfl, hc2, hm2, -⟩ := id h2.out
  unfold maxLen at hm1 hm2
  have hla : a.length ≤ 9223372036854775807 := by omega
  have hlb : b.length ≤ 9223372036854775807 := by omega
  have hfe := hr.out
  have hga := guard_pt
  clear hc1 hm1 hc2 hm2 hr
  by_cases hl : a.length = b.length
  case neg =>
    have b1 : ((a.length : Int) != (b.length : Int)) = true := by rw [bne_iff_ne]; omega
    rw [decide_eq_false (fun e => hl (by rw [e]))] at hfe
    subst hfe
    clear hl
    go_enter Try.func60, Try.ntmps60
    go_wp2
    go_ret
    exact ⟨rfl, Below.refl _ _⟩
  have b1 : ((a.length : Int) != (b.length : Int)) = false := by rw [hl]; simp
  have HL := Lib.hid hl
  have HR := Lib.hid hfe
  clear hl hfe
  go_enter Try.func60, Try.ntmps60
  go_wp2_with fail
  clear b1
  go_loopw [13] (fun iv wr => ∃ i : Nat, iv = .int .i64 i ∧ i ≤ a.length ∧ a.take i = b.take i ∧ Below w.heap.size w wr) (fun iv _ => a.length - (intOf iv).toNat)
  case atStart => exact ⟨0, rfl, Nat.zero_le _, rfl, Below.refl _ _⟩
  case round =>
    obtain ⟨i, rfl, hi, htk, hB⟩ := hrel
    rename World => wr
    have HB2 := Lib.hid hB
    by_cases hlt : i < a.length
    · have hlt2 : i < b.length := by have := HL.out; omega
      have hg1 := (h1.out.keep hB).get hlt
      have hg2 := (h2.out.keep hB).get hlt2
      obtain ⟨x, hx⟩ : ∃ x, a[i] = x := ⟨_, rfl⟩
      obtain ⟨y, hy⟩ : ∃ y, b[i] = y := ⟨_, rfl⟩
      rw [hx] at hg1
      rw [hy] at hg2
      obtain ⟨A, rfl, s0, s1, -⟩ := hg1
      obtain ⟨B, rfl, t0, t1, -⟩ := hg2
      have i0 : (0 : Int) ≤ (i : Int) := by omega
      have i1 : (i : Int) < (a.length : Int) := by omega
      have i2 : (i : Int) < (b.length : Int) := by omega
      by_cases hxy : x = y
      · have hneq := neq_pt x y false (Lib.hid (by simp [hxy]))
        have HT := Lib.hid (take_eq hlt hlt2 htk (by rw [hx, hy, hxy]))
        clear htk hx hy hxy hB
        go_wp2_with fail
        go_quiet (fail)
        have HB3 := Lib.hid (below_keep (drew_n wr nq) HB2.out)
        generalize wr.drewN nq = w3 at HB3 ⊢
        go_wp2
        go_roundw
        case rel => exact ⟨i + 1, by go_num, by omega, HT.out, HB3.out⟩
        case measure => simp [intOf]; omega
      · have hneq := neq_pt x y true (Lib.hid (by simp [hxy]))
        have hfe := HR.out
        rw [decide_eq_false (fun e => take_ne hlt hlt2 (by rw [hx, hy]; exact hxy) e)] at hfe
        subst hfe
        clear htk hx hy hxy hB
        go_wp2_with fail
        go_quiet (fail)
        have HB3 := Lib.hid (below_keep (drew_n wr nq) HB2.out)
        generalize wr.drewN nq = w3 at HB3 ⊢
        go_wp2
        go_ret
        exact ⟨rfl, HB3.out⟩
    · have hfe := HR.out
      rw [decide_eq_true (take_all HL.out (by omega) htk)] at hfe
      subst hfe
      clear htk
      go_wp2
      go_ret
      exact ⟨rfl, HB2.out⟩
set_option maxRecDepth 100000 in
set_option maxHeartbeats 4000000 in
theorem eqcl_of (v v2 : Value) (a b : List Cl) (R : Bool) (w : World) (h1 : Hid (Cls w v a)) (h2 : Hid (Cls w v2 b)) (hr : Hid (decide (a = b) = R)) :
    Calls Try.prog 40 #[v, v2] w fun e w' => e = .returned (.bool R) ∧ Below w.heap.size w w' := by
  have hmx : Try.prog.follows .mixedOrders = true := by kernel_rfl
  obtain ⟨ao, ac, rfl, hc1, hm1, -⟩ := id h1.out
  obtain ⟨bo, bc, rfl, hc2, hm2, -⟩ := id h2.out
  unfold maxLen at hm1 hm2
  have hla : a.length ≤ 9223372036854775807 := by omega
  have hlb : b.length ≤ 9223372036854775807 := by omega
  have hfe := hr.out
  have hga := guard_cl
  clear hc1 hm1 hc2 hm2 hr
  by_cases hl : a.length = b.length
  case neg =>
    have b1 : ((a.length : Int) != (b.length : Int)) = true := by rw [bne_iff_ne]; omega
    rw [decide_eq_false (fun e => hl (by rw [e]))] at hfe
    subst hfe
    clear hl
    go_enter Try.func40, Try.ntmps40
    go_wp2
    go_ret
    exact ⟨rfl, Below.refl _ _⟩
  have b1 : ((a.length : Int) != (b.length : Int)) = false := by rw [hl]; simp
  have HL := Lib.hid hl
  have HR := Lib.hid hfe
  clear hl hfe
  go_enter Try.func40, Try.ntmps40
  go_wp2_with fail
  clear b1
  go_loopw [13] (fun iv wr => ∃ i : Nat, iv = .int .i64 i ∧ i ≤ a.length ∧ a.take i = b.take i ∧ Below w.heap.size w wr) (fun iv _ => a.length - (intOf iv).toNat)
  case atStart => exact ⟨0, rfl, Nat.zero_le _, rfl, Below.refl _ _⟩
  case round =>
    obtain ⟨i, rfl, hi, htk, hB⟩ := hrel
    rename World => wr
    have HB2 := Lib.hid hB
    by_cases hlt : i < a.length
    · have hlt2 : i < b.length := by have := HL.out; omega
      have hg1 := (h1.out.keep hB).get hlt
      have hg2 := (h2.out.keep hB).get hlt2
      obtain ⟨x, hx⟩ : ∃ x, a[i] = x := ⟨_, rfl⟩
      obtain ⟨y, hy⟩ : ∃ y, b[i] = y := ⟨_, rfl⟩
      rw [hx] at hg1
      rw [hy] at hg2
      obtain ⟨A, rfl, s0, s1, -⟩ := hg1
      obtain ⟨B, rfl, t0, t1, -⟩ := hg2
      have i0 : (0 : Int) ≤ (i : Int) := by omega
      have i1 : (i : Int) < (a.length : Int) := by omega
      have i2 : (i : Int) < (b.length : Int) := by omega
      by_cases hxy : x = y
      · have hneq := neq_cl x y false (Lib.hid (by simp [hxy]))
        have HT := Lib.hid (take_eq hlt hlt2 htk (by rw [hx, hy, hxy]))
        clear htk hx hy hxy hB
        go_wp2_with fail
        go_quiet (fail)
        have HB3 := Lib.hid (below_keep (drew_n wr nq) HB2.out)
        generalize wr.drewN nq = w3 at HB3 ⊢
        go_wp2
        go_roundw
        case rel => exact ⟨i + 1, by go_num, by omega, HT.out, HB3.out⟩
        case measure => simp [intOf]; omega
      · have hneq := neq_cl x y true (Lib.hid (by simp [hxy]))
        have hfe := HR.out
        rw [decide_eq_false (fun e => take_ne hlt hlt2 (by rw [hx, hy]; exact hxy) e)] at hfe
        subst hfe
        clear htk hx hy hxy hB
        go_wp2_with fail
        go_quiet (fail)
        have HB3 := Lib.hid (below_keep (drew_n wr nq) HB2.out)
        generalize wr.drewN nq = w3 at HB3 ⊢
        go_wp2
        go_ret
        exact ⟨rfl, HB3.out⟩
    · have hfe := HR.out
      rw [decide_eq_true (take_all HL.out (by omega) htk)] at hfe
      subst hfe
      clear htk
      go_wp2
      go_ret
      exact ⟨rfl, HB2.out⟩
set_option maxRecDepth 100000 in
set_option maxHeartbeats 4000000 in
theorem eqed_of (v v2 : Value) (a b : List Ed) (R : Bool) (w : World) (h1 : Hid (Eds w v a)) (h2 : Hid (Eds w v2 b)) (hr : Hid (decide (a = b) = R)) :
    Calls Try.prog 39 #[v, v2] w fun e w' => e = .returned (.bool R) ∧ Below w.heap.size w w' := by
  have hmx : Try.prog.follows .mixedOrders = true := by kernel_rfl
  obtain ⟨ao, ac, rfl, hc1, hm1, -⟩ := id h1.out
  obtain ⟨bo, bc, rfl, hc2, hm2, -⟩ := id h2.out
  unfold maxLen at hm1 hm2
  have hla : a.length ≤ 9223372036854775807 := by omega
  have hlb : b.length ≤ 9223372036854775807 := by omega
  have hfe := hr.out
  have hga := guard_ed
  clear hc1 hm1 hc2 hm2 hr
  by_cases hl : a.length = b.length
  case neg =>
    have b1 : ((a.length : Int) != (b.length : Int)) = true := by rw [bne_iff_ne]; omega
    rw [decide_eq_false (fun e => hl (by rw [e]))] at hfe
    subst hfe
    clear hl
    go_enter Try.func39, Try.ntmps39
    go_wp2
    go_ret
    exact ⟨rfl, Below.refl _ _⟩
  have b1 : ((a.length : Int) != (b.length : Int)) = false := by rw [hl]; simp
  have HL := Lib.hid hl
  have HR := Lib.hid hfe
  clear hl hfe
  go_enter Try.func39, Try.ntmps39
  go_wp2_with fail
  clear b1
  go_loopw [13] (fun iv wr => ∃ i : Nat, iv = .int .i64 i ∧ i ≤ a.length ∧ a.take i = b.take i ∧ Below w.heap.size w wr) (fun iv _ => a.length - (intOf iv).toNat)
  case atStart => exact ⟨0, rfl, Nat.zero_le _, rfl, Below.refl _ _⟩
  case round =>
    obtain ⟨i, rfl, hi, htk, hB⟩ := hrel
    rename World => wr
    have HB2 := Lib.hid hB
    by_cases hlt : i < a.length
    · have hlt2 : i < b.length := by have := HL.out; omega
      have hg1 := (h1.out.keep hB).get hlt
      have hg2 := (h2.out.keep hB).get hlt2
      obtain ⟨x, hx⟩ : ∃ x, a[i] = x := ⟨_, rfl⟩
      obtain ⟨y, hy⟩ : ∃ y, b[i] = y := ⟨_, rfl⟩
      rw [hx] at hg1
      rw [hy] at hg2
      obtain ⟨A, rfl, s0, s1, s2, s3, s4, s5, s6, -⟩ := hg1
      obtain ⟨B, rfl, t0, t1, t2, t3, t4, t5, t6, -⟩ := hg2
      have i0 : (0 : Int) ≤ (i : Int) := by omega
      have i1 : (i : Int) < (a.length : Int) := by omega
      have i2 : (i : Int) < (b.length : Int) := by omega
      by_cases hxy : x = y
      · have hneq := neq_ed x y false (Lib.hid (by simp [hxy]))
        have HT := Lib.hid (take_eq hlt hlt2 htk (by rw [hx, hy, hxy]))
        clear htk hx hy hxy hB
        go_wp2_with fail
        go_quiet (fail)
        have HB3 := Lib.hid (below_keep (drew_n wr nq) HB2.out)
        generalize wr.drewN nq = w3 at HB3 ⊢
        go_wp2
        go_roundw
        case rel => exact ⟨i + 1, by go_num, by omega, HT.out, HB3.out⟩
        case measure => simp [intOf]; omega
      · have hneq := neq_ed x y true (Lib.hid (by simp [hxy]))
        have hfe := HR.out
        rw [decide_eq_false (fun e => take_ne hlt hlt2 (by rw [hx, hy]; exact hxy) e)] at hfe
        subst hfe
        clear htk hx hy hxy hB
        go_wp2_with fail
        go_quiet (fail)
        have HB3 := Lib.hid (below_keep (drew_n wr nq) HB2.out)
        generalize wr.drewN nq = w3 at HB3 ⊢
        go_wp2
        go_ret
        exact ⟨rfl, HB3.out⟩
    · have hfe := HR.out
      rw [decide_eq_true (take_all HL.out (by omega) htk)] at hfe
      subst hfe
      clear htk
      go_wp2
      go_ret
      exact ⟨rfl, HB2.out⟩
set_option maxRecDepth 100000 in
set_option maxHeartbeats 16000000 in
theorem csamenode_of (v v2 : Value) (x y : Nd) (R : Bool) (w : World) (h1 : Hid (NdV w v x)) (h2 : Hid (NdV w v2 y)) (hr : Hid (decide (x = y) = R)) :
    Calls Try.prog 38 #[v, v2] w fun e w' => e = .returned (.bool R) ∧ Below w.heap.size w w' := by
  have hmx : Try.prog.follows .mixedOrders = true := by kernel_rfl
  obtain ⟨av, rfl, ha⟩ := h1.out
  obtain ⟨bv, rfl, hb⟩ := h2.out
  have hfe := hr.out
  clear h1 h2 hr
  obtain ⟨n0, l0, p0, q0, r0, a⟩ := x
  obtain ⟨n1, l1, p1, q1, r1, b⟩ := y
  simp only at ha hb
  simp only [Nd.mk.injEq] at hfe
  obtain ⟨ao, ac, rfl, hc1, hm1, -⟩ := id ha
  obtain ⟨bo, bc, rfl, hc2, hm2, -⟩ := id hb
  unfold maxLen at hm1 hm2
  have hla : a.length ≤ 9223372036854775807 := by omega
  have hlb : b.length ≤ 9223372036854775807 := by omega
  obtain ⟨X, hX⟩ : ∃ X, bb n0 = X := ⟨_, rfl⟩
  obtain ⟨Y, hY⟩ : ∃ Y, bb n1 = Y := ⟨_, rfl⟩
  obtain ⟨L, hL⟩ : ∃ L, bb l0 = L := ⟨_, rfl⟩
  obtain ⟨M, hM⟩ : ∃ M, bb l1 = M := ⟨_, rfl⟩
  have hXY : n0 = n1 ↔ X.toList = Y.toList := by rw [← hX, ← hY, ByteArray.toList_eq, ByteArray.toList_eq]
  have hLM : l0 = l1 ↔ L.toList = M.toList := by rw [← hL, ← hM, ByteArray.toList_eq, ByteArray.toList_eq]
  simp only [hX, hY, hL, hM]
  simp only [hXY, hLM] at hfe
  have HB := Lib.hid (al2 w (.cells #[.string X, .string L, .int .i64 p0, .int .i64 q0, .int .i64 r0, .slice ao a.length ac] 48) (.cells #[.string Y, .string M, .int .i64 p1, .int .i64 q1, .int .i64 r1, .slice bo b.length bc] 48))
  have HC := Lib.hid (nbx_keep (nbx_new w X L p0 q0 r0 ao a.length ac 48) (al1 _ (.cells #[.string Y, .string M, .int .i64 p1, .int .i64 q1, .int .i64 r1, .slice bo b.length bc] 48)))
  have hd := nbx_new (w.alloc (.cells #[.string X, .string L, .int .i64 p0, .int .i64 q0, .int .i64 r0, .slice ao a.length ac] 48)) Y M p1 q1 r1 bo b.length bc 48
  rw [World.size_alloc] at hd
  have HD := Lib.hid hd
  have HA := Lib.hid (ha.keep HB.out)
  have HBb := Lib.hid (hb.keep HB.out)
  obtain ⟨c0, c1, c2, c3, c4, c5⟩ := HC.out
  obtain ⟨d0, d1, d2, d3, d4, d5⟩ := HD.out
  clear hc1 hm1 hc2 hm2 ha hb hd hX hY hL hM hXY hLM
  by_cases k0 : X.toList = Y.toList
  case neg =>
    have z0 : (X.toList == Y.toList) = false := by rw [beq_eq_false_iff_ne]; exact k0
    rw [decide_eq_false (fun e => k0 (e.1))] at hfe
    subst hfe
    clear k0
    go_enter Try.func38, Try.ntmps38
    go_wp2
    go_ret
    exact ⟨rfl, HB.out⟩
  have z0 : (X.toList == Y.toList) = true := by rw [beq_iff_eq]; exact k0
  by_cases k1 : L.toList = M.toList
  case neg =>
    have z1 : (L.toList == M.toList) = false := by rw [beq_eq_false_iff_ne]; exact k1
    rw [decide_eq_false (fun e => k1 (e.2.1))] at hfe
    subst hfe
    clear k0 k1
    go_enter Try.func38, Try.ntmps38
    go_wp2
    go_ret
    exact ⟨rfl, HB.out⟩
  have z1 : (L.toList == M.toList) = true := by rw [beq_iff_eq]; exact k1
  by_cases k2 : p0 = p1
  case neg =>
    have z2 : (p0 == p1) = false := by rw [beq_eq_false_iff_ne]; exact k2
    rw [decide_eq_false (fun e => k2 (e.2.2.1))] at hfe
    subst hfe
    clear k0 k1 k2
    go_enter Try.func38, Try.ntmps38
    go_wp2
    go_ret
    exact ⟨rfl, HB.out⟩
  subst k2
  by_cases k3 : q0 = q1
  case neg =>
    have z3 : (q0 == q1) = false := by rw [beq_eq_false_iff_ne]; exact k3
    rw [decide_eq_false (fun e => k3 (e.2.2.2.1))] at hfe
    subst hfe
    clear k0 k1 k3
    go_enter Try.func38, Try.ntmps38
    go_wp2
    go_ret
    exact ⟨rfl, HB.out⟩
  subst k3
  by_cases k4 : r0 = r1
  case neg =>
    have z4 : (r0 == r1) = false := by rw [beq_eq_false_iff_ne]; exact k4
    rw [decide_eq_false (fun e => k4 (e.2.2.2.2.1))] at hfe
    subst hfe
    clear k0 k1 k4
    go_enter Try.func38, Try.ntmps38
    go_wp2
    go_ret
    exact ⟨rfl, HB.out⟩
  subst k4
  have HR : Hid (decide (a = b) = R) := Lib.hid (by rw [← hfe]; simp [k0, k1])
  clear hfe k0 k1
  go_enter Try.func38, Try.ntmps38
  go_wp2_with fail
  refine (eqpo_of _ _ a b R _ HA HBb HR).mono ?_
  rintro e w3 ⟨rfl, hb3⟩
  have HB3 := Lib.hid (below_keep hb3 HB.out)
  clear hb3
  go_wp2
  go_ret
  exact ⟨rfl, HB3.out⟩
set_option maxRecDepth 100000 in
set_option maxHeartbeats 8000000 in
theorem eqnd_of (v v2 : Value) (a b : List Nd) (R : Bool) (w : World) (h1 : Hid (Nds w v a)) (h2 : Hid (Nds w v2 b)) (hr : Hid (decide (a = b) = R)) :
    Calls Try.prog 37 #[v, v2, .func (.func 38) #[] #[]] w fun e w' => e = .returned (.bool R) ∧ Below w.heap.size w w' := by
  obtain ⟨ao, ac, rfl, hc1, hm1, -⟩ := id h1.out
  obtain ⟨bo, bc, rfl, hc2, hm2, -⟩ := id h2.out
  unfold maxLen at hm1 hm2
  have hla : a.length ≤ 9223372036854775807 := by omega
  have hlb : b.length ≤ 9223372036854775807 := by omega
  have hfe := hr.out
  clear hc1 hm1 hc2 hm2 hr
  by_cases hl : a.length = b.length
  case neg =>
    have b1 : ((a.length : Int) != (b.length : Int)) = true := by rw [bne_iff_ne]; omega
    rw [decide_eq_false (fun e => hl (by rw [e]))] at hfe
    subst hfe
    clear hl
    go_enter Try.func37, Try.ntmps37
    go_wp2
    go_ret
    exact ⟨rfl, Below.refl _ _⟩
  have b1 : ((a.length : Int) != (b.length : Int)) = false := by rw [hl]; simp
  have HL := Lib.hid hl
  have HR := Lib.hid hfe
  clear hl hfe
  go_enter Try.func37, Try.ntmps37
  go_wp2_with fail
  clear b1
  go_loopw [17] (fun iv wr => ∃ i : Nat, iv = .int .i64 i ∧ i ≤ a.length ∧ a.take i = b.take i ∧ Below w.heap.size w wr) (fun iv _ => a.length - (intOf iv).toNat)
  case atStart => exact ⟨0, rfl, Nat.zero_le _, rfl, Below.refl _ _⟩
  case round =>
    obtain ⟨i, rfl, hi, htk, hB⟩ := hrel
    rename World => wr
    have HB2 := Lib.hid hB
    by_cases hlt : i < a.length
    · have hlt2 : i < b.length := by have := HL.out; omega
      have hg1 := (h1.out.keep hB).get hlt
      have hg2 := (h2.out.keep hB).get hlt2
      obtain ⟨x, hx⟩ : ∃ x, a[i] = x := ⟨_, rfl⟩
      obtain ⟨y, hy⟩ : ∃ y, b[i] = y := ⟨_, rfl⟩
      rw [hx] at hg1
      rw [hy] at hg2
      obtain ⟨A, rfl, s0, s1, s2, s3, s4, ⟨pv, s5, hs6⟩, -⟩ := hg1
      obtain ⟨B, rfl, t0, t1, t2, t3, t4, ⟨pv2, t5, ht6⟩, -⟩ := hg2
      obtain ⟨po, pc, rfl, -, -, -⟩ := id hs6
      obtain ⟨qo, qc, rfl, -, -, -⟩ := id ht6
      have i0 : (0 : Int) ≤ (i : Int) := by omega
      have i1 : (i : Int) < (a.length : Int) := by omega
      have i2 : (i : Int) < (b.length : Int) := by omega
      have HXY : Hid ((x = y → a.take (i + 1) = b.take (i + 1)) ∧ (x ≠ y → a ≠ b)) := Lib.hid ⟨fun e => take_eq hlt hlt2 htk (by rw [hx, hy, e]), fun e => take_ne hlt hlt2 (by rw [hx, hy]; exact e)⟩
      obtain ⟨q, hq⟩ : ∃ q, decide (x = y) = q := ⟨_, rfl⟩
      have HQ := Lib.hid hq
      have hal := al2 wr (.cells #[.string (bb x.nm), .string (bb x.lb), .int .i64 x.w, .int .i64 x.h, .int .i64 x.cl, .slice po x.ps.length pc] 48) (.cells #[.string (bb y.nm), .string (bb y.lb), .int .i64 y.w, .int .i64 y.h, .int .i64 y.cl, .slice qo y.ps.length qc] 48)
      have HX : Hid (NdV _ (.agg #[.string (bb x.nm), .string (bb x.lb), .int .i64 x.w, .int .i64 x.h, .int .i64 x.cl, .slice po x.ps.length pc]) x) := Lib.hid ⟨_, rfl, hs6.keep hal⟩
      have HY : Hid (NdV _ (.agg #[.string (bb y.nm), .string (bb y.lb), .int .i64 y.w, .int .i64 y.h, .int .i64 y.cl, .slice qo y.ps.length qc]) y) := Lib.hid ⟨_, rfl, ht6.keep hal⟩
      have HAL := Lib.hid (below_keep hal HB2.out)
      have hbl := World.block_lt_of_cell? wr _ t0
      clear htk hx hy hs6 ht6 hq hal hB
      go_wp2_with fail
      refine (csamenode_of _ _ x y q _ HX HY HQ).mono ?_
      rintro e w3 ⟨rfl, hb3⟩
      have HB3 := Lib.hid (below_keep hb3 HAL.out)
      clear hb3 s0 s1 s2 s3 s4 s5 t0 t1 t2 t3 t4 t5 hbl
      cases q
      · have hfe := HR.out
        rw [decide_eq_false (fun e => HXY.out.2 (of_decide_eq_false HQ.out) e)] at hfe
        subst hfe
        go_wp2
        go_ret
        exact ⟨rfl, HB3.out⟩
      · have HT := Lib.hid (HXY.out.1 (of_decide_eq_true HQ.out))
        go_wp2
        go_roundw
        case rel => exact ⟨i + 1, by go_num, by omega, HT.out, HB3.out⟩
        case measure => simp [intOf]; omega
    · have hfe := HR.out
      rw [decide_eq_true (take_all HL.out (by omega) htk)] at hfe
      subst hfe
      clear htk
      go_wp2
      go_ret
      exact ⟨rfl, HB2.out⟩
set_option maxRecDepth 100000 in
set_option maxHeartbeats 16000000 in
theorem csame_of (v v2 : Value) (g h : Gr) (R : Bool) (w : World) (h1 : Hid (GrV w v g)) (h2 : Hid (GrV w v2 h)) (hr : Hid (decide (g = h) = R)) :
    Calls Try.prog 16 #[v, v2] w fun e w' => e = .returned (.bool R) ∧ Below w.heap.size w w' := by
  obtain ⟨nv, ev, cv, rfl, -, ha, he, hcl⟩ := h1.out
  obtain ⟨nv2, ev2, cv2, rfl, -, hb, hf, hcl2⟩ := h2.out
  have hfe := hr.out
  clear h1 h2 hr
  obtain ⟨n0, d, a, es, cs⟩ := g
  obtain ⟨n1, d1, b, fs, hs⟩ := h
  simp only at ha hb he hf hcl hcl2
  simp only [Gr.mk.injEq] at hfe
  obtain ⟨ao, ac, rfl, -, -, -⟩ := id ha
  obtain ⟨bo, bc, rfl, -, -, -⟩ := id hb
  obtain ⟨eo, ec, rfl, -, -, -⟩ := id he
  obtain ⟨fo, fc, rfl, -, -, -⟩ := id hf
  obtain ⟨co, cc, rfl, -, -, -⟩ := id hcl
  obtain ⟨ho, hc, rfl, -, -, -⟩ := id hcl2
  obtain ⟨X, hX⟩ : ∃ X, bb n0 = X := ⟨_, rfl⟩
  obtain ⟨Y, hY⟩ : ∃ Y, bb n1 = Y := ⟨_, rfl⟩
  have hXY : n0 = n1 ↔ X.toList = Y.toList := by rw [← hX, ← hY, ByteArray.toList_eq, ByteArray.toList_eq]
  simp only [hX, hY]
  simp only [hXY] at hfe
  have HB := Lib.hid (al2 w (.cells #[.string X, .bool d, .slice ao a.length ac, .slice eo es.length ec, .slice co cs.length cc] 26) (.cells #[.string Y, .bool d1, .slice bo b.length bc, .slice fo fs.length fc, .slice ho hs.length hc] 26))
  have HC := Lib.hid (gat_alloc (.cells #[.string Y, .bool d1, .slice bo b.length bc, .slice fo fs.length fc, .slice ho hs.length hc] 26) (gat_new w X d (.slice ao a.length ac) (.slice eo es.length ec) (.slice co cs.length cc) 26))
  have hd := gat_new (w.alloc (.cells #[.string X, .bool d, .slice ao a.length ac, .slice eo es.length ec, .slice co cs.length cc] 26)) Y d1 (.slice bo b.length bc) (.slice fo fs.length fc) (.slice ho hs.length hc) 26
  rw [World.size_alloc] at hd
  have HD := Lib.hid hd
  have HA := Lib.hid (ha.keep HB.out)
  have HA2 := Lib.hid (hb.keep HB.out)
  have hE := he.keep HB.out
  have hE2 := hf.keep HB.out
  have hK := hcl.keep HB.out
  have hK2 := hcl2.keep HB.out
  have HE := Lib.hid hE
  have HE2 := Lib.hid hE2
  have HK := Lib.hid hK
  have HK2 := Lib.hid hK2
  obtain ⟨c0, c1, c2, c3, c4⟩ := HC.out
  obtain ⟨d0, d1', d2, d3, d4⟩ := HD.out
  clear ha hb he hf hcl hcl2 hd hX hY hXY hE hE2 hK hK2
  by_cases k0 : X.toList = Y.toList
  case neg =>
    have z0 : (X.toList == Y.toList) = false := by rw [beq_eq_false_iff_ne]; exact k0
    rw [decide_eq_false (fun e => k0 e.1)] at hfe
    subst hfe
    clear k0
    go_enter Try.func16, Try.ntmps16
    go_wp2
    go_ret
    exact ⟨rfl, HB.out⟩
  have z0 : (X.toList == Y.toList) = true := by rw [beq_iff_eq]; exact k0
  by_cases k1 : d = d1
  case neg =>
    rw [decide_eq_false (fun e => k1 e.2.1)] at hfe
    subst hfe
    clear k0
    cases d <;> cases d1 <;> first | exact absurd rfl k1 | skip
    all_goals
      clear k1
      go_enter Try.func16, Try.ntmps16
      go_wp2
      go_ret
      exact ⟨rfl, HB.out⟩
  subst k1
  obtain ⟨b1, hb1⟩ : ∃ q, decide (a = b) = q := ⟨_, rfl⟩
  obtain ⟨b2, hb2⟩ : ∃ q, decide (es = fs) = q := ⟨_, rfl⟩
  obtain ⟨b3, hb3⟩ : ∃ q, decide (cs = hs) = q := ⟨_, rfl⟩
  have HR : Hid ((b1 && (b2 && b3)) = R) := Lib.hid (by rw [← hfe, ← hb1, ← hb2, ← hb3, Bool.eq_iff_iff]; simp [k0])
  have H1 := Lib.hid hb1
  have H2 := Lib.hid hb2
  have H3 := Lib.hid hb3
  have z1 : (d == d) = true := by simp
  clear hfe hb1 hb2 hb3 k0
  go_enter Try.func16, Try.ntmps16
  go_wp2_with fail
  refine (eqnd_of _ _ a b b1 _ HA HA2 H1).mono ?_
  rintro e w3 ⟨rfl, hw3⟩
  have HB3 := Lib.hid (below_keep hw3 HB.out)
  have HC3 := Lib.hid (gat_keep HC.out hw3)
  have HD3 := Lib.hid (gat_keep HD.out hw3)
  have HE3 := Lib.hid (HE.out.keep hw3)
  have HE32 := Lib.hid (HE2.out.keep hw3)
  have HK3 := Lib.hid (HK.out.keep hw3)
  have HK32 := Lib.hid (HK2.out.keep hw3)
  clear hw3 c0 c1 c2 c3 c4 d0 d1' d2 d3 d4 z0 z1
  obtain ⟨c0, c1, c2, c3, c4⟩ := HC3.out
  obtain ⟨d0, d1', d2, d3, d4⟩ := HD3.out
  cases b1
  · obtain rfl : false = R := by rw [← HR.out]; rfl
    go_wp2
    go_ret
    exact ⟨rfl, HB3.out⟩
  go_wp2_with fail
  refine (eqed_of _ _ es fs b2 _ HE3 HE32 H2).mono ?_
  rintro e w4 ⟨rfl, hw4⟩
  have HB4 := Lib.hid (below_keep hw4 HB3.out)
  have HC4 := Lib.hid (gat_keep HC3.out hw4)
  have HD4 := Lib.hid (gat_keep HD3.out hw4)
  have HK4 := Lib.hid (HK3.out.keep hw4)
  have HK42 := Lib.hid (HK32.out.keep hw4)
  clear hw4 c0 c1 c2 c3 c4 d0 d1' d2 d3 d4
  obtain ⟨c0, c1, c2, c3, c4⟩ := HC4.out
  obtain ⟨d0, d1', d2, d3, d4⟩ := HD4.out
  cases b2
  · obtain rfl : false = R := by rw [← HR.out]; rfl
    go_wp2
    go_ret
    exact ⟨rfl, HB4.out⟩
  obtain rfl : b3 = R := by rw [← HR.out]; rfl
  go_wp2_with fail
  refine (eqcl_of _ _ cs hs b3 _ HK4 HK42 H3).mono ?_
  rintro e w5 ⟨rfl, hw5⟩
  have HB5 := Lib.hid (below_keep hw5 HB4.out)
  clear hw5
  go_wp2
  go_ret
  exact ⟨rfl, HB5.out⟩
end Go.Proofs.Ytjeacpohanadnaa.gra
