/-
  What SameInts, Same and Degree of the reference of layer 14 return. Conditions: lists or digraphs in memory.
-/
import Derived.Test.YtkmamdlhpbobhaaDigRef1
import Derived.Laws.StructEq
import Derived.Deep.QuietTactic
import Derived.Lib.QuietBelow
namespace Go.Proofs.Ytkmamdlhpbobhaa.dig
open Go.RowKit

theorem take_same {a b : List Int} {k : Nat} (ha : k < a.length) (hb : k < b.length) (h : a.take k = b.take k) (he : a[k] = b[k]) : a.take (k + 1) = b.take (k + 1) := by
  rw [List.take_succ_eq_append_getElem ha, List.take_succ_eq_append_getElem hb, h, he]
set_option maxRecDepth 100000 in
set_option maxHeartbeats 4000000 in
theorem rints_of (v v2 : Value) (a b : List Int) (R : Bool) (w : World) (h1 : Hid (Ins w v a)) (h2 : Hid (Ins w v2 b)) (hr : Hid (decide (a = b) = R)) :
    Calls Try.prog 17 #[v, v2] w fun e w' => e = .returned (.bool R) ∧ Below w.heap.size w w' := by
  obtain ⟨ao, ac, rfl, -, hm1, -⟩ := id h1.out
  obtain ⟨bo, bc, rfl, -, hm2, -⟩ := id h2.out
  unfold maxLen at hm1 hm2
  have hla : a.length ≤ 9223372036854775807 := by have := h1.out; obtain ⟨_, _, e, hc, hm, _⟩ := this; cases e; unfold maxLen at hm; omega
  have hlb : b.length ≤ 9223372036854775807 := by have := h2.out; obtain ⟨_, _, e, hc, hm, _⟩ := this; cases e; unfold maxLen at hm; omega
  clear hm1 hm2
  have hfe := hr.out
  by_cases hl : a.length = b.length
  case neg =>
    have b0 : ((a.length : Int) != (b.length : Int)) = true := by rw [bne_iff_ne]; omega
    rw [decide_eq_false (fun e => hl (by rw [e]))] at hfe
    subst hfe
    clear hl
    go_enter Try.func17, Try.ntmps17
    go_wp2
    go_ret
    exact ⟨rfl, Below.refl _ _⟩
  have b0 : ((a.length : Int) != (b.length : Int)) = false := by rw [hl]; simp
  have HR := Lib.hid hfe
  clear hfe hr
  go_enter Try.func17, Try.ntmps17
  go_wp2_with fail
  go_loopw [5] (fun iv wr => ∃ i : Nat, iv = .int .i64 i ∧ i ≤ a.length ∧ a.take i = b.take i ∧ Below w.heap.size w wr) (fun iv _ => a.length - (intOf iv).toNat)
  case atStart => exact ⟨0, rfl, Nat.zero_le _, rfl, Below.refl _ _⟩
  case round =>
    obtain ⟨i, rfl, hi, htk, hB⟩ := hrel
    rename World => wr
    have HB := Lib.hid hB
    by_cases hlt : i < a.length
    · have hlt2 : i < b.length := by omega
      obtain ⟨A, rfl, q0⟩ := (h1.out.keep hB).get hlt
      obtain ⟨B, rfl, p0⟩ := (h2.out.keep hB).get hlt2
      obtain ⟨x, hx⟩ : ∃ x, a[i] = x := ⟨_, rfl⟩
      obtain ⟨y, hy⟩ : ∃ y, b[i] = y := ⟨_, rfl⟩
      unfold inAt at q0 p0
      rw [hx, Nat.mul_one] at q0
      rw [hy, Nat.mul_one] at p0
      have i0 : (0 : Int) ≤ (i : Int) := by omega
      have i1 : (i : Int) < (a.length : Int) := by omega
      have i2 : (i : Int) < (b.length : Int) := by omega
      by_cases hxy : x = y
      · have b1 : (x != y) = false := by rw [hxy]; simp
        have HT := Lib.hid (take_same hlt hlt2 htk (by rw [hx, hy, hxy]))
        clear htk hx hy hxy hB
        go_wp2_with fail
        go_quiet (fail)
        have HB3 := Lib.hid (below_keep (drew_n wr nq) HB.out)
        generalize wr.drewN nq = w3 at HB3 ⊢
        go_wp2
        go_roundw
        case rel => exact ⟨i + 1, by go_num, by omega, HT.out, HB3.out⟩
        case measure => simp [intOf]; omega
      · have b1 : (x != y) = true := by rw [bne_iff_ne]; exact hxy
        have hfe := HR.out
        rw [decide_eq_false (fun e => hxy (by subst e; rw [← hx, ← hy]))] at hfe
        subst hfe
        clear htk hx hy hxy hB
        go_wp2_with fail
        go_quiet (fail)
        have HB3 := Lib.hid (below_keep (drew_n wr nq) HB.out)
        generalize wr.drewN nq = w3 at HB3 ⊢
        go_wp2
        go_ret
        exact ⟨rfl, HB3.out⟩
    · have hfe := HR.out
      rw [decide_eq_true (by rw [List.take_of_length_le (by omega), List.take_of_length_le (by omega)] at htk; exact htk)] at hfe
      subst hfe
      clear htk hB
      go_wp2
      go_ret
      exact ⟨rfl, HB.out⟩
def dgb (W : World) (b : Nat) (n : Int) (v : Value) : Prop := W.cell? ⟨b, 0, none⟩ = some (.int .i64 n) ∧ W.cell? ⟨b, 1, none⟩ = some v ∧ W.frozen? ⟨b, 0, none⟩ = false ∧ W.frozen? ⟨b, 1, none⟩ = false
theorem dgb_new (w : World) (n : Int) (ao : Option Addr) (k c : Nat) (t : TypeId) : dgb (w.alloc (.cells #[.int .i64 n, .slice ao k c] t)) w.heap.size n (.slice ao k c) := by
  refine ⟨?_, ?_, ?_, ?_⟩ <;> go_simp
theorem dgb_below {B : Nat} {w w' : World} {b : Nat} {n : Int} {v : Value} (h : Below B w w') (hb : b < B) (hd : dgb w b n v) : dgb w' b n v := by
  obtain ⟨h0, h1, h2, h3⟩ := hd
  exact ⟨by rw [h.cell (p := ⟨b, 0, none⟩) hb]; exact h0, by rw [h.cell (p := ⟨b, 1, none⟩) hb]; exact h1, by rw [h.frozen (p := ⟨b, 0, none⟩) hb]; exact h2, by rw [h.frozen (p := ⟨b, 1, none⟩) hb]; exact h3⟩
theorem dgb_set1 {w : World} {b : Nat} {n : Int} {v : Value} (ao : Option Addr) (k c : Nat) (h : dgb w b n v) : dgb (w.setCell ⟨b, 1, none⟩ (.slice ao k c)) b n (.slice ao k c) := by
  obtain ⟨h0, h1, h2, h3⟩ := h
  refine ⟨?_, ?_, ?_, ?_⟩ <;> go_simp
theorem dgb_far {w : World} {b d o : Nat} {n : Int} {v u : Value} (hb : b ≠ d) (h : dgb w b n v) : dgb (w.setCell ⟨d, o, none⟩ u) b n v := by
  obtain ⟨h0, h1, h2, h3⟩ := h
  refine ⟨?_, ?_, ?_, ?_⟩ <;> go_simp
theorem dgb_alloc {w : World} {b : Nat} {n : Int} {v : Value} (o : Obj) (h : dgb w b n v) : dgb (w.alloc o) b n v := dgb_below (al1 ..) (World.block_lt_of_cell? w _ h.1) h
theorem guard_ar : Try.prog.eqGuardType Try.prog.depth 43 = false := by kernel_rfl
theorem neq_ar (u v : Ar) (dq : Bool) (h : Hid (decide (u ≠ v) = dq)) (w : World) : (binOp .neq 43 (.agg #[.int .i64 u.1, .int .i64 u.2]) (.agg #[.int .i64 v.1, .int .i64 v.2])).run Try.prog w = .ok (.bool dq) w := by
  have hu : Try.prog.underlying 43 = some (.struct (Try.prog.fieldsOf 43)) := by kernel_rfl
  have hp : Try.prog.stoodInHeld 43 = false := by kernel_rfl
  obtain ⟨a0, a1⟩ := u
  obtain ⟨c0, c1⟩ := v
  rw [run_neq_struct, run_equalIn_agg w 9999 _ _ _ hu hp, ← h.out]
  by_cases h1 : a0 = c0 <;> by_cases h2 : a1 = c1 <;> simp [go_sem, Op.eqFields, Program.fieldsOf, Try.underlying43, Try.underlying3, h1, h2]
theorem take_eq {α : Type} {a b : List α} {k : Nat} (ha : k < a.length) (hb : k < b.length) (h : a.take k = b.take k) (he : a[k] = b[k]) : a.take (k + 1) = b.take (k + 1) := by
  rw [List.take_succ_eq_append_getElem ha, List.take_succ_eq_append_getElem hb, h, he]
theorem take_ne {α : Type} {a b : List α} {k : Nat} (ha : k < a.length) (hb : k < b.length) (he : a[k] ≠ b[k]) : a ≠ b := fun e => he (by subst e; rfl)
theorem take_all {α : Type} {a b : List α} {k : Nat} (hl : a.length = b.length) (hk : a.length ≤ k) (h : a.take k = b.take k) : a = b := by
  rw [List.take_of_length_le hk, List.take_of_length_le (by omega)] at h; exact h
theorem dgb_keep {w w' : World} {b : Nat} {n : Int} {v : Value} (h : dgb w b n v) (hb : Below w.heap.size w w') : dgb w' b n v := dgb_below hb (World.block_lt_of_cell? w _ h.1) h
set_option maxRecDepth 100000 in
set_option maxHeartbeats 8000000 in
theorem rsame_of (v v2 : Value) (n n2 : Int) (a b : List Ar) (R : Bool) (w : World) (h1 : Hid (DgV w v n a)) (h2 : Hid (DgV w v2 n2 b)) (hr : Hid (decide (n = n2 ∧ a = b) = R)) :
    Calls Try.prog 14 #[v, v2] w fun e w' => e = .returned (.bool R) ∧ Below w.heap.size w w' := by
  have hmx : Try.prog.follows .mixedOrders = true := by kernel_rfl
  obtain ⟨av, rfl, ha⟩ := h1.out
  obtain ⟨bv, rfl, hb⟩ := h2.out
  obtain ⟨ao, ac, rfl, hc1, hm1, -⟩ := id ha
  obtain ⟨bo, bc, rfl, hc2, hm2, -⟩ := id hb
  unfold maxLen at hm1 hm2
  have hla : a.length ≤ 9223372036854775807 := by omega
  have hlb : b.length ≤ 9223372036854775807 := by omega
  have hfe := hr.out
  have HB := Lib.hid (al2 w (.cells #[.int .i64 n, .slice ao a.length ac] 24) (.cells #[.int .i64 n2, .slice bo b.length bc] 24))
  have HC := Lib.hid (dgb_alloc (.cells #[.int .i64 n2, .slice bo b.length bc] 24) (dgb_new w n ao a.length ac 24))
  have hd := dgb_new (w.alloc (.cells #[.int .i64 n, .slice ao a.length ac] 24)) n2 bo b.length bc 24
  rw [World.size_alloc] at hd
  have HD := Lib.hid hd
  have HA := Lib.hid (ha.keep HB.out)
  have HBb := Lib.hid (hb.keep HB.out)
  have hga := guard_ar
  obtain ⟨c0, c1, -, -⟩ := HC.out
  obtain ⟨d0, d1, -, -⟩ := HD.out
  clear hc1 hm1 hc2 hm2 ha hb h1 h2 hr hd
  by_cases hn : n = n2
  case neg =>
    have b0 : (n != n2) = true := by rw [bne_iff_ne]; exact hn
    rw [decide_eq_false (fun e => hn e.1)] at hfe
    subst hfe
    clear hn
    go_enter Try.func14, Try.ntmps14
    go_wp2
    go_ret
    exact ⟨rfl, HB.out⟩
  subst hn
  have b0 : (n != n) = false := by simp
  by_cases hl : a.length = b.length
  case neg =>
    have b1 : ((a.length : Int) != (b.length : Int)) = true := by rw [bne_iff_ne]; omega
    rw [decide_eq_false (fun e => hl (by rw [e.2]))] at hfe
    subst hfe
    clear hl
    go_enter Try.func14, Try.ntmps14
    go_wp2
    go_ret
    exact ⟨rfl, HB.out⟩
  have b1 : ((a.length : Int) != (b.length : Int)) = false := by rw [hl]; simp
  have HL := Lib.hid hl
  have HR := Lib.hid hfe
  obtain ⟨W2, hW2⟩ : ∃ W2, (w.alloc (.cells #[.int .i64 n, .slice ao a.length ac] 24)).alloc (.cells #[.int .i64 n, .slice bo b.length bc] 24) = W2 := ⟨_, rfl⟩
  have HW2 := Lib.hid hW2
  clear hW2 hl hfe
  go_enter Try.func14, Try.ntmps14
  go_wp2_with fail
  rw [HW2.out] at HB HC HD HA HBb ⊢
  clear c0 c1 d0 d1 b0 b1
  go_loopw [5] (fun iv wr => ∃ i : Nat, iv = .int .i64 i ∧ i ≤ a.length ∧ a.take i = b.take i ∧ Below W2.heap.size W2 wr) (fun iv _ => a.length - (intOf iv).toNat)
  case atStart => exact ⟨0, rfl, Nat.zero_le _, rfl, Below.refl _ _⟩
  case round =>
    obtain ⟨i, rfl, hi, htk, hB⟩ := hrel
    rename World => wr
    have HB2 := Lib.hid (below_keep hB HB.out)
    obtain ⟨c0, c1, -, -⟩ := dgb_keep HC.out hB
    obtain ⟨d0, d1, -, -⟩ := dgb_keep HD.out hB
    by_cases hlt : i < a.length
    · have hlt2 : i < b.length := by have := HL.out; omega
      obtain ⟨A, rfl, q0, q1⟩ := (HA.out.keep hB).get hlt
      obtain ⟨B, rfl, p0, p1⟩ := (HBb.out.keep hB).get hlt2
      obtain ⟨x, hx⟩ : ∃ x, a[i] = x := ⟨_, rfl⟩
      obtain ⟨y, hy⟩ : ∃ y, b[i] = y := ⟨_, rfl⟩
      rw [hx] at q0 q1
      rw [hy] at p0 p1
      have i0 : (0 : Int) ≤ (i : Int) := by omega
      have i1 : (i : Int) < (a.length : Int) := by omega
      have i2 : (i : Int) < (b.length : Int) := by omega
      by_cases hxy : x = y
      · have hneq := neq_ar x y false (Lib.hid (by simp [hxy]))
        have HT := Lib.hid (take_eq hlt hlt2 htk (by rw [hx, hy, hxy]))
        clear htk hx hy hxy
        go_wp2_with fail
        go_quiet (fail)
        have HB3 := Lib.hid (below_keep (drew_n wr nq) hB)
        generalize wr.drewN nq = w3 at HB3 ⊢
        go_wp2
        go_roundw
        case rel => exact ⟨i + 1, by go_num, by omega, HT.out, HB3.out⟩
        case measure => simp [intOf]; omega
      · have hneq := neq_ar x y true (Lib.hid (by simp [hxy]))
        have hfe := HR.out
        rw [decide_eq_false (fun e => take_ne hlt hlt2 (by rw [hx, hy]; exact hxy) e.2)] at hfe
        subst hfe
        clear htk hx hy hxy
        go_wp2_with fail
        go_quiet (fail)
        have HB3 := Lib.hid (below_keep (drew_n wr nq) HB2.out)
        generalize wr.drewN nq = w3 at HB3 ⊢
        go_wp2
        go_ret
        exact ⟨rfl, HB3.out⟩
    · have hfe := HR.out
      rw [decide_eq_true ⟨trivial, take_all HL.out (by omega) htk⟩] at hfe
      subst hfe
      clear htk
      go_wp2
      go_ret
      exact ⟨rfl, HB2.out⟩
set_option maxRecDepth 100000 in
set_option maxHeartbeats 4000000 in
theorem rdeg_of (v : Value) (n : Int) (l : List Ar) (x R : Int) (w : World) (h : Hid (DgV w v n l)) (hl400 : l.length ≤ 1000000) (hr : Hid (degV n l x = R)) :
    Calls Try.prog 16 #[v, .int .i64 x] w fun e w' => e = .returned (.int .i64 R) ∧ Below w.heap.size w w' := by
  obtain ⟨av, rfl, hl⟩ := id h.out
  obtain ⟨ao, c, rfl, -, -, -⟩ := id hl
  have HL := Lib.hid hl
  have HB1 := Lib.hid (al1 w (.cells #[.int .i64 n, .slice ao l.length c] 24))
  have HK1 := Lib.hid (blk_new w #[.int .i64 n, .slice ao l.length c] 24)
  have HV := Lib.hid h.out
  obtain ⟨b, hb⟩ : ∃ b, validD n l = b := ⟨_, rfl⟩
  have hfe := hr.out
  unfold degV at hfe
  rw [hb] at hfe
  have HVD := Lib.hid hb
  clear h hl hb hr
  go_enter Try.func16, Try.ntmps16
  go_wp2_with fail
  obtain ⟨g0, hg0⟩ : ∃ g, w.heap.size = g := ⟨_, rfl⟩
  rw [hg0] at HK1
  try simp only [hg0]
  generalize w.alloc (.cells #[.int .i64 n, .slice ao l.length c] 24) = w1 at HB1 HK1 ⊢
  have HG0 := Lib.hid hg0
  clear hg0
  refine (rvalid_of _ n l b w1 (Lib.hid (HV.out.keep HB1.out)) HVD).mono ?_
  rintro e w2 ⟨rfl, hb2⟩
  have HB2 := Lib.hid (HB1.out.trans (hb2.mono HB1.out.size))
  have HK2 := Lib.hid (blk_keep hb2 HK1.out)
  clear hb2
  cases b
  case false =>
    rw [if_neg (by decide)] at hfe
    subst hfe
    go_wp2
    go_ret
    exact ⟨rfl, HB2.out⟩
  rw [if_pos rfl] at hfe
  have HR := Lib.hid hfe
  clear hfe
  have c0 : w2.cell? ⟨g0, 0, none⟩ = some (.int .i64 n) := by rw [blk_cell HK2.out]; rfl
  have c1 : w2.cell? ⟨g0, 1, none⟩ = some (.slice ao l.length c) := by rw [blk_cell HK2.out]; rfl
  go_wp2_with fail
  go_loop [5, 6] (fun dv iv => ∃ (k : Nat) (d : Int), dv = .int .i64 d ∧ iv = .int .i64 k ∧ k ≤ l.length ∧ deg (l.take k) x = d) (fun _ iv => l.length - (intOf iv).toNat)
  case atStart => exact ⟨0, 0, rfl, rfl, Nat.zero_le _, rfl⟩
  case round =>
    obtain ⟨k, d, rfl, rfl, hk, hd⟩ := hrel
    have hdr := deg_rng (l.take k) x
    rw [hd, List.length_take] at hdr
    have HD := Lib.hid hd
    clear hd
    by_cases hlt : k < l.length
    case neg =>
      obtain rfl : k = l.length := by omega
      have hR : d = R := by rw [← HR.out, ← HD.out, List.take_length]
      subst hR
      clear hdr
      go_wp2
      go_ret
      exact ⟨rfl, HB2.out⟩
    obtain ⟨A, rfl, p0, p1⟩ := (HL.out.keep HB2.out).at hlt
    have hst := deg_take hlt x
    obtain ⟨y, hy⟩ : ∃ y, l[k] = y := ⟨_, rfl⟩
    rw [hy] at p0 p1 hst
    rw [HD.out] at hst
    obtain ⟨y0, y1⟩ := y
    simp only at p0 p1
    unfold deg1 at hst
    simp only at hst
    have i0 : (0 : Int) ≤ (k : Int) := by omega
    have i1 : (k : Int) < (l.length : Int) := by omega
    have HST := Lib.hid hst
    have hd0 : 0 ≤ d ∧ d ≤ 2000000 := by omega
    clear hy hst hdr
    cases e1 : (y0 == x) <;> cases e2 : (y1 == x)
    all_goals
      have hst := HST.out
      have e1' := e1
      have e2' := e2
      simp only [beq_iff_eq, beq_eq_false_iff_ne] at e1' e2'
      simp only [e1', e2', if_true, if_false] at hst
      have HN := Lib.hid hst
      clear hst e1' e2'
      go_wp2
      go_roundw
      case rel => exact ⟨k + 1, _, rfl, by go_num, by omega, by have := HN.out; omega⟩
      case measure => simp [intOf]; omega
end Go.Proofs.Ytkmamdlhpbobhaa.dig
