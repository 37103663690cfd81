/-
  What Has, Same, free and Order of the reference of layer 15 return. Conditions: digraphs and lists in memory.
-/
import Derived.Test.YtncedgnpdojkkaaTpoStr
import Derived.Test.YtncedgnpdojkkaaDigRef2
namespace Go.Proofs.Ytncedgnpdojkkaa.tpo
open Go.RowKit dig

set_option maxRecDepth 100000 in
set_option maxHeartbeats 4000000 in
theorem thas_of (v : Value) (l : List Int) (n : Int) (r : Bool) (w : World) (h : Hid (Ins w v l)) (hr : Hid (l.contains n = r)) :
    Calls Try.prog 21 #[v, .int .i64 n] w fun e w' => e = .returned (.bool r) ∧ w = w' := by
  obtain ⟨ao, cap, rfl, hc, hm, -⟩ := id h.out
  unfold maxLen at hm
  have hlm : l.length ≤ 9223372036854775807 := by omega
  have HR : Hid ((l.drop 0).contains n = r) := Lib.hid (by rw [List.drop_zero]; exact hr.out)
  clear hc hm hr
  go_enter Try.func21, Try.ntmps21
  go_wp2_with fail
  go_loop [5] (fun iv => ∃ k : Nat, iv = .int .i64 k ∧ k ≤ l.length ∧ (l.drop k).contains n = r) (fun iv => l.length - (intOf iv).toNat)
  case atStart => exact ⟨0, rfl, Nat.zero_le _, HR.out⟩
  case round =>
    obtain ⟨k, rfl, hk, hfe⟩ := hrel
    have HFE := Lib.hid hfe
    clear hfe HR
    by_cases hlt : k < l.length
    · have hget := h.out.at hlt
      have hst := HFE.out
      rw [List.drop_eq_getElem_cons hlt, List.contains_cons] at hst
      obtain ⟨y, hy⟩ : ∃ y, l[k] = y := ⟨_, rfl⟩
      rw [hy] at hst hget
      obtain ⟨A, rfl, q0⟩ := hget
      have i0 : (0 : Int) ≤ (k : Int) := by omega
      have i1 : (k : Int) < (l.length : Int) := by omega
      by_cases hxy : y = n
      · have b1 : (y == n) = true := by rw [beq_iff_eq]; exact hxy
        have b2 : (n == y) = true := by rw [beq_iff_eq]; exact hxy.symm
        rw [b2, Bool.true_or] at hst
        subst hst
        clear hxy hy b2
        go_wp2
        go_ret
        exact ⟨rfl, rfl⟩
      · have b1 : (y == n) = false := by rw [beq_eq_false_iff_ne]; exact hxy
        have b2 : (n == y) = false := by rw [beq_eq_false_iff_ne]; exact fun e => hxy e.symm
        rw [b2, Bool.false_or] at hst
        have HS := Lib.hid hst
        clear hxy hy b2 hst
        go_wp2
        go_round
        case rel => exact ⟨k + 1, by go_num, by omega, HS.out⟩
        case measure => simp [intOf]; omega
    · have hst := HFE.out
      rw [List.drop_of_length_le (by omega)] at hst
      subst hst
      go_wp2
      go_ret
      exact ⟨rfl, rfl⟩
set_option maxRecDepth 100000 in
set_option maxHeartbeats 4000000 in
theorem tsame_of (v v2 : Value) (a b : List Int) (R : Bool) (w : World) (h1 : Hid (Ins w v a)) (h2 : Hid (Ins w v2 b)) (hr : Hid (decide (a = b) = R)) :
    Calls Try.prog 13 #[v, v2] w fun e w' => e = .returned (.bool R) ∧ Below w.heap.size w w' := by
  obtain ⟨ao, ac, rfl, -, hm1, -⟩ := id h1.out
  obtain ⟨bo, bc, rfl, -, hm2, -⟩ := id h2.out
  unfold maxLen at hm1 hm2
  have hla : a.length ≤ 9223372036854775807 := by have := h1.out; obtain ⟨_, _, e, hc, hm, _⟩ := this; cases e; unfold maxLen at hm; omega
  have hlb : b.length ≤ 9223372036854775807 := by have := h2.out; obtain ⟨_, _, e, hc, hm, _⟩ := this; cases e; unfold maxLen at hm; omega
  clear hm1 hm2
  have hfe := hr.out
  by_cases hl : a.length = b.length
  case neg =>
    have b0 : ((a.length : Int) != (b.length : Int)) = true := by rw [bne_iff_ne]; omega
    rw [decide_eq_false (fun e => hl (by rw [e]))] at hfe
    subst hfe
    clear hl
    go_enter Try.func13, Try.ntmps13
    go_wp2
    go_ret
    exact ⟨rfl, Below.refl _ _⟩
  have b0 : ((a.length : Int) != (b.length : Int)) = false := by rw [hl]; simp
  have HR := Lib.hid hfe
  clear hfe hr
  go_enter Try.func13, Try.ntmps13
  go_wp2_with fail
  go_loopw [5] (fun iv wr => ∃ i : Nat, iv = .int .i64 i ∧ i ≤ a.length ∧ a.take i = b.take i ∧ Below w.heap.size w wr) (fun iv _ => a.length - (intOf iv).toNat)
  case atStart => exact ⟨0, rfl, Nat.zero_le _, rfl, Below.refl _ _⟩
  case round =>
    obtain ⟨i, rfl, hi, htk, hB⟩ := hrel
    rename World => wr
    have HB := Lib.hid hB
    by_cases hlt : i < a.length
    · have hlt2 : i < b.length := by omega
      obtain ⟨A, rfl, q0⟩ := (h1.out.keep hB).get hlt
      obtain ⟨B, rfl, p0⟩ := (h2.out.keep hB).get hlt2
      obtain ⟨x, hx⟩ : ∃ x, a[i] = x := ⟨_, rfl⟩
      obtain ⟨y, hy⟩ : ∃ y, b[i] = y := ⟨_, rfl⟩
      unfold inAt at q0 p0
      rw [hx, Nat.mul_one] at q0
      rw [hy, Nat.mul_one] at p0
      have i0 : (0 : Int) ≤ (i : Int) := by omega
      have i1 : (i : Int) < (a.length : Int) := by omega
      have i2 : (i : Int) < (b.length : Int) := by omega
      by_cases hxy : x = y
      · have b1 : (x != y) = false := by rw [hxy]; simp
        have HT := Lib.hid (take_same hlt hlt2 htk (by rw [hx, hy, hxy]))
        clear htk hx hy hxy hB
        go_wp2_with fail
        go_quiet (fail)
        have HB3 := Lib.hid (below_keep (drew_n wr nq) HB.out)
        generalize wr.drewN nq = w3 at HB3 ⊢
        go_wp2
        go_roundw
        case rel => exact ⟨i + 1, by go_num, by omega, HT.out, HB3.out⟩
        case measure => simp [intOf]; omega
      · have b1 : (x != y) = true := by rw [bne_iff_ne]; exact hxy
        have hfe := HR.out
        rw [decide_eq_false (fun e => hxy (by subst e; rw [← hx, ← hy]))] at hfe
        subst hfe
        clear htk hx hy hxy hB
        go_wp2_with fail
        go_quiet (fail)
        have HB3 := Lib.hid (below_keep (drew_n wr nq) HB.out)
        generalize wr.drewN nq = w3 at HB3 ⊢
        go_wp2
        go_ret
        exact ⟨rfl, HB3.out⟩
    · have hfe := HR.out
      rw [decide_eq_true (by rw [List.take_of_length_le (by omega), List.take_of_length_le (by omega)] at htk; exact htk)] at hfe
      subst hfe
      clear htk hB
      go_wp2
      go_ret
      exact ⟨rfl, HB.out⟩
/-- How many elements a slice in a slot has. -/
def lenOf : Value → Nat | .slice _ k _ => k | _ => 0
set_option maxRecDepth 100000 in
set_option maxHeartbeats 4000000 in
theorem tfree_of (v dv : Value) (n x : Int) (l : List Ar) (done : List Int) (R : Bool) (w : World) (h : Hid (DgV w v n l)) (hd : Hid (Ins w dv done)) (hr : Hid (freeB l done x = R)) :
    Calls Try.prog 25 #[v, dv, .int .i64 x] w fun e w' => e = .returned (.bool R) ∧ Below w.heap.size w w' := by
  obtain ⟨av, rfl, hl⟩ := id h.out
  obtain ⟨ao, c, rfl, hc1, hc2, -⟩ := id hl
  obtain ⟨so, sc, rfl, -, -, -⟩ := id hd.out
  unfold maxLen at hc2
  have hlm : l.length ≤ 9223372036854775807 := by omega
  have HL := Lib.hid hl
  have HB1 := Lib.hid (al1 w (.cells #[.int .i64 n, .slice ao l.length c] 24))
  have HK1 := Lib.hid (blk_new w #[.int .i64 n, .slice ao l.length c] 24)
  have hfe := hr.out
  unfold freeB at hfe
  obtain ⟨b, hb⟩ : ∃ b, done.contains x = b := ⟨_, rfl⟩
  rw [hb] at hfe
  have HCX := Lib.hid hb
  clear h hl hc1 hc2 hr hb
  go_enter Try.func25, Try.ntmps25
  go_wp2_with fail
  obtain ⟨g0, hg0⟩ : ∃ g, w.heap.size = g := ⟨_, rfl⟩
  rw [hg0] at HK1
  try simp only [hg0]
  generalize w.alloc (.cells #[.int .i64 n, .slice ao l.length c] 24) = w1 at HB1 HK1 ⊢
  have HG0 := Lib.hid hg0
  clear hg0
  have HDN := Lib.hid (hd.out.keep HB1.out)
  refine (thas_of _ done x b w1 HDN HCX).mono ?_
  rintro e w2 ⟨rfl, rfl⟩
  cases b
  case true =>
    rw [Bool.not_true, Bool.false_and] at hfe
    subst hfe
    go_wp2
    go_ret
    exact ⟨rfl, HB1.out⟩
  rw [Bool.not_false, Bool.true_and] at hfe
  have HR : Hid (((l.drop 0).all fun a => !(a.2 == x) || done.contains a.1) = R) := Lib.hid (by rw [List.drop_zero]; exact hfe)
  have c1 : w1.cell? ⟨g0, 1, none⟩ = some (.slice ao l.length c) := by rw [blk_cell HK1.out]; rfl
  clear hfe
  go_wp2_with fail
  go_loop [7] (fun iv => ∃ k : Nat, iv = .int .i64 k ∧ k ≤ l.length ∧ ((l.drop k).all fun a => !(a.2 == x) || done.contains a.1) = R) (fun iv => l.length - (intOf iv).toNat)
  case atStart => exact ⟨0, rfl, Nat.zero_le _, HR.out⟩
  case round =>
    obtain ⟨k, rfl, hk, hfe⟩ := hrel
    have HFE := Lib.hid hfe
    clear hfe HR
    by_cases hlt : k < l.length
    case neg =>
      have hst := HFE.out
      rw [List.drop_of_length_le (by omega), List.all_nil] at hst
      subst hst
      go_wp2
      go_ret
      exact ⟨rfl, HB1.out⟩
    have hst := HFE.out
    rw [List.drop_eq_getElem_cons hlt, List.all_cons] at hst
    obtain ⟨A, rfl, p0, p1⟩ := (HL.out.keep HB1.out).at hlt
    obtain ⟨y, hy⟩ : ∃ y, l[k] = y := ⟨_, rfl⟩
    rw [hy] at p0 p1 hst
    obtain ⟨y0, y1⟩ := y
    simp only at p0 p1 hst
    have i0 : (0 : Int) ≤ (k : Int) := by omega
    have i1 : (k : Int) < (l.length : Int) := by omega
    have HST := Lib.hid hst
    clear hst hy HFE
    cases e1 : (y1 == x)
    case false =>
      have hst := HST.out
      rw [e1, Bool.not_false, Bool.true_or, Bool.true_and] at hst
      have HN := Lib.hid hst
      have e2 : ¬ y1 = x := by simpa using e1
      clear hst
      go_wp2
      go_round
      case rel => exact ⟨k + 1, by go_num, by omega, HN.out⟩
      case measure => simp [intOf]; omega
    have hst := HST.out
    rw [e1, Bool.not_true, Bool.false_or] at hst
    have e2 : y1 = x := by simpa using e1
    obtain ⟨q, hq⟩ : ∃ q, done.contains y0 = q := ⟨_, rfl⟩
    rw [hq] at hst
    have HQ := Lib.hid hq
    clear hq
    cases q
    case false =>
      rw [Bool.false_and] at hst
      subst hst
      clear HST
      go_wp2_with (with_reducible refine (thas_of _ done y0 false _ HDN HQ).mono ?_; rintro e wz ⟨rfl, rfl⟩)
      go_ret
      exact ⟨rfl, HB1.out⟩
    rw [Bool.true_and] at hst
    have HN := Lib.hid hst
    clear hst
    go_wp2_with (with_reducible refine (thas_of _ done y0 true _ HDN HQ).mono ?_; rintro e wz ⟨rfl, rfl⟩)
    go_round
    case rel => exact ⟨k + 1, by go_num, by omega, HN.out⟩
    case measure => simp [intOf]; omega
/-- Numbers and a yes or no that a call leaves. -/
def NbOut (L : List Int) (b : Bool) (w : World) (e : Ending) (w' : World) : Prop := ∃ v, e = .returned (.tuple #[v, .bool b]) ∧ Ins w' v L ∧ Below w.heap.size w w'
set_option maxRecDepth 100000 in
set_option maxHeartbeats 8000000 in
theorem tord_of (v : Value) (n : Int) (l : List Ar) (L : List Int) (R : Bool) (w : World) (h : Hid (DgV w v n l)) (hr : Hid (ordV n l = (L, R))) :
    Calls Try.prog 10 #[v] w (NbOut L R w) := by
  obtain ⟨av, rfl, hl⟩ := id h.out
  obtain ⟨lo, lc, rfl, -, -, -⟩ := id hl
  have HL := Lib.hid hl
  have HB1 := Lib.hid (al1 w (.cells #[.int .i64 n, .slice lo l.length lc] 24))
  have HK1 := Lib.hid (dgb_new w n lo l.length lc 24)
  have HV := Lib.hid h.out
  obtain ⟨b, hb⟩ : ∃ b, validD n l = b := ⟨_, rfl⟩
  have hfe := hr.out
  unfold ordV at hfe
  rw [hb] at hfe
  have HVD := Lib.hid hb
  have HFE := Lib.hid hfe
  obtain ⟨W1, hW1⟩ : ∃ W1, w.alloc (.cells #[.int .i64 n, .slice lo l.length lc] 24) = W1 := ⟨_, rfl⟩
  have HW1 := Lib.hid hW1
  rw [hW1] at HB1 HK1
  clear h hl hb hr hfe hW1
  go_enter Try.func10, Try.ntmps10
  go_wp2_with fail
  rw [HW1.out]
  obtain ⟨g0, hg0⟩ : ∃ g, w.heap.size = g := ⟨_, rfl⟩
  have HG0 := Lib.hid hg0
  rw [hg0] at HK1
  try simp only [hg0]
  clear hg0 HW1
  refine (rvalid_of _ n l b W1 (Lib.hid (HV.out.keep HB1.out)) HVD).mono ?_
  rintro e w2 ⟨rfl, hb2⟩
  have HB2 := Lib.hid (HB1.out.trans (hb2.mono HB1.out.size))
  have HK2 := Lib.hid (dgb_keep HK1.out hb2)
  clear hb2 HB1 HK1
  cases b
  case false =>
    have hf := HFE.out
    rw [if_neg (by decide)] at hf
    obtain ⟨rfl, rfl⟩ : L = [] ∧ R = false := ⟨(Prod.mk.inj hf).1.symm, (Prod.mk.inj hf).2.symm⟩
    go_wp2
    refine bodyPost_ret (v := .tuple #[.slice none 0 0, .bool false]) (by simp [results, Try.results10, go_sem]) rfl ?_
    exact ⟨_, rfl, Rw.nil .., HB2.out⟩
  have hf := HFE.out
  rw [if_pos rfl] at hf
  obtain ⟨h0, h64, -, -⟩ := validD_iff.1 HVD.out
  obtain ⟨m, rfl⟩ := Int.eq_ofNat_of_zero_le h0
  simp only [Int.toNat_natCast] at hf
  obtain ⟨Z, hZ⟩ : ∃ Z, ordF l m m [] = Z := ⟨_, rfl⟩
  rw [hZ] at hf
  have HZ := Lib.hid hZ
  have HF := Lib.hid hf
  obtain ⟨c0, -, -, -⟩ := HK2.out
  have hg1 : g0 < w2.heap.size := World.block_lt_of_cell? w2 _ c0
  have hgw : w.heap.size ≤ g0 := by rw [HG0.out]; exact Nat.le_refl _
  obtain ⟨B2, hB2⟩ : ∃ B2, w2.heap.size = B2 := ⟨_, rfl⟩
  have hsz0 : B2 ≤ w2.heap.size := by omega
  rw [hB2] at hg1
  clear hf HFE hB2 hZ c0
  go_wp2_with fail
  go_loopw [4] (fun tv wr => ∃ (io : Option Addr) (ic : Nat) (D : List Int), tv = .slice io D.length ic ∧ D.length ≤ m ∧ ordF l m (m - D.length) D = Z ∧ Irow wr B2 (.slice io D.length ic) D ∧ dgb wr g0 m (.slice lo l.length lc) ∧ Below w.heap.size w wr ∧ B2 ≤ wr.heap.size) (fun tv _ => m - lenOf tv)
  case atStart => exact ⟨none, 0, [], rfl, Nat.zero_le _, HZ.out, own_nil _ _ _ _, HK2.out, HB2.out, hsz0⟩
  case round =>
    obtain ⟨io, ic, D, rfl, hDm, hZ, hirow, hdg, hB, hsz⟩ := hrel
    rename World => wr
    have HIROW := Lib.hid hirow
    have HDG := Lib.hid hdg
    have HB := Lib.hid hB
    have HZ := Lib.hid hZ
    have hDl : D.length ≤ 9223372036854775807 := by omega
    obtain ⟨c0, c1, -, -⟩ := hdg
    clear hirow hB hZ HB2 HK2
    by_cases hlt : D.length < m
    case neg =>
      have hz := HZ.out
      rw [show m - D.length = 0 by omega, ordF] at hz
      have hf := HF.out
      rw [← hz] at hf
      obtain ⟨rfl, rfl⟩ : L = D ∧ R = true := ⟨(Prod.mk.inj hf).1.symm, (Prod.mk.inj hf).2.symm⟩
      have e1 : ¬ (L.length : Int) < (m : Int) := by omega
      clear hz hf hlt
      go_wp2
      refine bodyPost_ret (v := .tuple #[.slice io L.length ic, .bool true]) (by simp [results, Try.results10, go_sem]) rfl ?_
      exact ⟨_, rfl, Irow.ins HIROW.out, HB.out⟩
    have e1 : (D.length : Int) < (m : Int) := by omega
    obtain ⟨V, hV⟩ : ∃ V, nextV l D m 0 = V := ⟨_, rfl⟩
    have hVm : V ≤ m := by rw [← hV]; have := (next_spec l D m 0).2.1; omega
    have hz := HZ.out
    rw [show m - D.length = (m - (D.length + 1)) + 1 by omega, ordF, hV] at hz
    have HZN := Lib.hid hz
    have HVN := Lib.hid hV
    have HVM := Lib.hid hVm
    clear hz hV hVm
    go_wp2_with fail
    clear c0 c1
    go_loopw [5] (fun iv wq => ∃ k : Nat, iv = .int .i64 k ∧ k ≤ m ∧ nextV l D (m - k) k = V ∧ Below wr.heap.size wr wq) (fun iv _ => m - (intOf iv).toNat)
    case atStart => exact ⟨0, rfl, Nat.zero_le _, HVN.out, Below.refl _ _⟩
    case round =>
      obtain ⟨k, rfl, hk, hnv, hbq⟩ := hrel
      rename World => wq
      have HBQ := Lib.hid (below_keep hbq HB.out)
      have HIROWQ := Lib.hid (own_keep HIROW.out hbq)
      have HDGQ := Lib.hid (dgb_keep HDG.out hbq)
      have HNV := Lib.hid hnv
      have HQ := Lib.hid hbq
      have hszq : B2 ≤ wq.heap.size := Nat.le_trans hsz hbq.size
      obtain ⟨c0, c1, -, -⟩ := HDGQ.out
      clear hnv hbq
      by_cases hkm : k < m
      case neg =>
        have hkV : k = V := by have := HNV.out; rw [show m - k = 0 by omega, nextV] at this; exact this
        have hVe : V = m := by omega
        subst hVe
        have hz := HZN.out
        rw [if_neg (by omega)] at hz
        have hf := HF.out
        rw [← hz] at hf
        obtain ⟨rfl, rfl⟩ : L = [] ∧ R = false := ⟨(Prod.mk.inj hf).1.symm, (Prod.mk.inj hf).2.symm⟩
        have e2 : ¬ (k : Int) < (V : Int) := by omega
        have e3 : ((k : Int) == (V : Int)) = true := by rw [beq_iff_eq]; omega
        have e4 : decide ((k : Int) < (V : Int)) = false := decide_eq_false e2
        clear hz hf hkm hkV
        go_wp2
        refine bodyPost_ret (v := .tuple #[.slice none 0 0, .bool false]) (by simp [results, Try.results10, go_sem]) rfl ?_
        exact ⟨_, rfl, Rw.nil .., HBQ.out⟩
      have e2 : (k : Int) < (m : Int) := by omega
      have e4 : decide ((k : Int) < (m : Int)) = true := decide_eq_true e2
      have hnv := HNV.out
      rw [show m - k = (m - (k + 1)) + 1 by omega, nextV] at hnv
      obtain ⟨q, hq⟩ : ∃ q, freeB l D (k : Int) = q := ⟨_, rfl⟩
      rw [hq] at hnv
      have HFQ := Lib.hid hq
      have HNV2 := Lib.hid hnv
      clear hnv hq hkm
      go_wp2_with fail
      refine (tfree_of _ _ m k l D q wq (Lib.hid ⟨_, rfl, HL.out.keep HBQ.out⟩) (Lib.hid (Irow.ins HIROWQ.out)) HFQ).mono ?_
      rintro e w4 ⟨rfl, hb4⟩
      have HB4 := Lib.hid (below_keep hb4 HBQ.out)
      have HIROW4 := Lib.hid (own_keep HIROWQ.out hb4)
      have HDG4 := Lib.hid (dgb_keep HDGQ.out hb4)
      have HQ4 := Lib.hid (below_keep hb4 HQ.out)
      have hsz4 : B2 ≤ w4.heap.size := Nat.le_trans hszq hb4.size
      clear hb4 c0 c1 HBQ HIROWQ HDGQ HQ hszq
      obtain ⟨c0, c1, -, -⟩ := HDG4.out
      cases q
      case false =>
        have hn := HNV2.out
        rw [if_neg (by decide)] at hn
        have HN := Lib.hid hn
        clear hn
        go_wp2
        go_roundw
        case rel => exact ⟨k + 1, by go_num, by omega, HN.out, HQ4.out⟩
        case measure => simp [intOf]; omega
      have hn := HNV2.out
      rw [if_pos rfl] at hn
      subst hn
      have hz := HZN.out
      rw [if_pos (by omega)] at hz
      have HZ2 := Lib.hid hz
      have e3 : ((k : Int) == (m : Int)) = false := by rw [beq_eq_false_iff_ne]; omega
      clear hz
      go_wp2_with (at_builtin; refine app_in rfl (.tmp 31) (.tmp 33) rfl B2 _ D (k : Int) w4.heap.size rfl rfl rfl HIROW4 (by omega) hsz4 ?_; intro io6 ic6 w6 hrow6 hgrow6; have hb6 := (Below.refl B2 w4).grown hgrow6 hsz4 (fun q hq => (World.ownsRow.lt HIROW4.out q hq).1); have HIROW6 := Lib.hid hrow6; have HDG6 := Lib.hid (dgb_below hb6 (by omega) HDG4.out); have HB6 := Lib.hid (HB4.out.trans (hb6.mono (by omega))); have HS6 := Lib.hid (Nat.le_trans hsz4 hb6.size); clear hgrow6 hb6 hrow6)
      have hlD : (D ++ [(k : Int)]).length = D.length + 1 := by simp
      go_roundw
      case rel => exact ⟨io6, ic6, D ++ [(k : Int)], by rw [hlD], by omega, by rw [hlD]; exact HZ2.out, by rw [hlD]; exact HIROW6.out, HDG6.out, HB6.out, HS6.out⟩
      case measure => simp [lenOf]; omega
end Go.Proofs.Ytncedgnpdojkkaa.tpo
