/-
  What Induced of the reference of layer 14 returns. Condition: a digraph and a list of at most 1000000 numbers in memory.
-/
import Derived.Test.YtkmamdlhpbobhaaDigRef4
namespace Go.Proofs.Ytkmamdlhpbobhaa.dig
open Go.RowKit

/-- A digraph, numbers and an error that a call leaves. -/
def IndOut (n : Int) (L : List Ar) (J : List Int) (E : Int) (w : World) (e : Ending) (w' : World) : Prop := ∃ v jv, e = .returned (.tuple #[v, jv, .int .i64 E]) ∧ DgV w' v n L ∧ Ins w' jv J ∧ Below w.heap.size w w'
def indE (n : Int) (l : List Ar) (keep : List Int) : ((Int × List Ar) × List Int) × Int :=
  if validD n l = false then (((0, []), []), 1) else if chosen [] keep n ≠ 0 then (((0, []), []), chosen [] keep n) else (((((keep.length : Nat) : Int), indA keep l), indI keep l 0), 0)
theorem indA_take (keep : List Int) {l : List Ar} : ∀ {k : Nat} (h : k < l.length), indA keep (l.take (k + 1)) = indA keep (l.take k) ++ (if 0 ≤ placeI keep l[k].1 0 ∧ 0 ≤ placeI keep l[k].2 0 then [(placeI keep l[k].1 0, placeI keep l[k].2 0)] else []) := by
  induction l with
  | nil => intro k h; simp at h
  | cons a t ih =>
    intro k h
    cases k with
    | zero => simp [indA]
    | succ k =>
      rw [List.take_succ_cons, List.take_succ_cons, indA, indA, ih (by simpa using h)]
      simp only [List.getElem_cons_succ]
      split <;> simp
theorem indI_take (keep : List Int) {l : List Ar} : ∀ {k i : Nat} (h : k < l.length), indI keep (l.take (k + 1)) i = indI keep (l.take k) i ++ (if 0 ≤ placeI keep l[k].1 0 ∧ 0 ≤ placeI keep l[k].2 0 then [((i + k : Nat) : Int)] else []) := by
  induction l with
  | nil => intro k i h; simp at h
  | cons a t ih =>
    intro k i h
    cases k with
    | zero => simp [indI]
    | succ k =>
      rw [List.take_succ_cons, List.take_succ_cons, indI, indI, ih (by simpa using h)]
      simp only [List.getElem_cons_succ]
      rw [show i + 1 + k = i + (k + 1) by omega]
      split <;> simp
theorem indA_len (keep : List Int) : ∀ l : List Ar, (indA keep l).length ≤ l.length
  | [] => Nat.le_refl _
  | a :: t => by have := indA_len keep t; rw [indA]; split <;> simp only [List.length_cons] <;> omega
theorem indI_len (keep : List Int) : ∀ (l : List Ar) (i : Nat), (indI keep l i).length ≤ l.length
  | [], _ => Nat.le_refl _
  | a :: t, i => by have := indI_len keep t (i + 1); rw [indI]; split <;> simp only [List.length_cons] <;> omega
set_option maxRecDepth 100000 in
set_option maxHeartbeats 8000000 in
theorem rind_of (v sv : Value) (n m : Int) (l L : List Ar) (keep J : List Int) (E : Int) (w : World) (h : Hid (DgV w v n l)) (hs : Hid (Ins w sv keep)) (hr : Hid (indE n l keep = (((m, L), J), E))) :
    Calls Try.prog 25 #[v, sv] w (IndOut m L J E w) := by
  have hmx : Try.prog.follows .mixedOrders = true := by kernel_rfl
  obtain ⟨av, rfl, hl⟩ := id h.out
  obtain ⟨lo, lc, rfl, hq1, hq2, -⟩ := id hl
  obtain ⟨so, sc, rfl, hq3, hq4, -⟩ := id hs.out
  unfold maxLen at hq2 hq4
  have hlm : l.length ≤ 9223372036854775807 := by omega
  have hkm : keep.length ≤ 9223372036854775807 := by omega
  have HL := Lib.hid hl
  have HV := Lib.hid h.out
  obtain ⟨b, hb⟩ : ∃ b, validD n l = b := ⟨_, rfl⟩
  obtain ⟨ce, hce⟩ : ∃ ce, chosen [] keep n = ce := ⟨_, rfl⟩
  have hfe := hr.out
  unfold indE at hfe
  rw [hb, hce] at hfe
  have HVD := Lib.hid hb
  have HCE := Lib.hid hce
  have HFE := Lib.hid hfe
  obtain ⟨W1, hW1⟩ : ∃ W1, w.alloc (.cells #[.int .i64 n, .slice lo l.length lc] 24) = W1 := ⟨_, rfl⟩
  obtain ⟨W2, hW2⟩ : ∃ W2, W1.alloc (.cells #[.int .i64 0, .slice none 0 0] 24) = W2 := ⟨_, rfl⟩
  have s1 : W1.heap.size = w.heap.size + 1 := by rw [← hW1]; simp
  have HD0 : Hid (dgb W2 w.heap.size n (.slice lo l.length lc)) := Lib.hid (by rw [← hW2, ← hW1]; exact dgb_alloc _ (dgb_new ..))
  have HD1 : Hid (dgb W2 (w.heap.size + 1) 0 (.slice none 0 0)) := Lib.hid (by rw [← hW2, ← s1]; exact dgb_new ..)
  have HB : Hid (Below w.heap.size w W2) := Lib.hid (by rw [← hW2, ← hW1]; exact al2 ..)
  have HW1 := Lib.hid hW1
  have HW2 := Lib.hid hW2
  clear h hl hb hce hfe hr hq1 hq2 hq3 hq4 s1 hW1 hW2
  go_enter Try.func25, Try.ntmps25
  go_wp2_with fail
  rw [HW1.out, HW2.out]
  obtain ⟨g0, hg0⟩ : ∃ g, w.heap.size = g := ⟨_, rfl⟩
  have HG0 := Lib.hid hg0
  rw [hg0] at HD0 HD1
  try simp only [hg0]
  clear hg0 HW1 HW2 W1
  refine (rvalid_of _ n l b W2 (Lib.hid (HV.out.keep HB.out)) HVD).mono ?_
  rintro e w2 ⟨rfl, hb2⟩
  have HB2 := Lib.hid (HB.out.trans (hb2.mono HB.out.size))
  have HD0' := Lib.hid (dgb_keep HD0.out hb2)
  have HD1' := Lib.hid (dgb_keep HD1.out hb2)
  clear hb2 HD0 HD1 HB
  obtain ⟨c0, c1, c2, c3⟩ := HD0'.out
  obtain ⟨d0, d1, d2, d3⟩ := HD1'.out
  cases b
  case false =>
    have hf := HFE.out
    rw [if_pos rfl] at hf
    obtain ⟨⟨⟨rfl, rfl⟩, rfl⟩, rfl⟩ : ((m = 0 ∧ L = []) ∧ J = []) ∧ E = 1 := by simp only [Prod.mk.injEq] at hf; exact ⟨⟨⟨hf.1.1.1.symm, hf.1.1.2.symm⟩, hf.1.2.symm⟩, hf.2.symm⟩
    clear hf
    go_wp2
    have r0 : ((w2.setCell ⟨g0 + 1, 0, none⟩ (.int .i64 0)).setCell ⟨g0 + 1, 1, none⟩ (.slice none 0 0)).cell? ⟨g0 + 1, 0, none⟩ = some (.int .i64 0) := by go_simp
    have r1 : ((w2.setCell ⟨g0 + 1, 0, none⟩ (.int .i64 0)).setCell ⟨g0 + 1, 1, none⟩ (.slice none 0 0)).cell? ⟨g0 + 1, 1, none⟩ = some (.slice none 0 0) := by go_simp
    refine bodyPost_ret (v := .tuple #[.agg #[.int .i64 0, .slice none 0 0], .slice none 0 0, .int .i64 1]) (by simp [results, Try.results25, go_sem, r0, r1]) rfl ?_
    exact ⟨_, _, rfl, ⟨_, rfl, Rw.nil ..⟩, Rw.nil .., (HB2.out.setCell (by have := HG0.out; simp only; omega) _).setCell (by have := HG0.out; simp only; omega) _⟩
  have hf := HFE.out
  rw [if_neg (by decide)] at hf
  have HFE2 := Lib.hid hf
  have HSI := Lib.hid (hs.out.keep HB2.out)
  clear hf HFE
  go_wp2_with fail
  clear c0 c1 c2 c3 d0 d1 d2 d3
  refine (rchosen_of _ keep n ce w2 HSI HCE).mono ?_
  rintro e w3 ⟨rfl, hb3⟩
  have HB3 := Lib.hid (HB2.out.trans (hb3.mono HB2.out.size))
  have HD0 := Lib.hid (dgb_keep HD0'.out hb3)
  have HD1 := Lib.hid (dgb_keep HD1'.out hb3)
  clear hb3 HD0' HD1' HB2 HSI
  obtain ⟨c0, c1, c2, c3⟩ := HD0.out
  obtain ⟨d0, d1, d2, d3⟩ := HD1.out
  by_cases hz : ce = 0
  case neg =>
    have hf := HFE2.out
    rw [if_pos hz] at hf
    obtain ⟨⟨⟨rfl, rfl⟩, rfl⟩, rfl⟩ : ((m = 0 ∧ L = []) ∧ J = []) ∧ E = ce := by simp only [Prod.mk.injEq] at hf; exact ⟨⟨⟨hf.1.1.1.symm, hf.1.1.2.symm⟩, hf.1.2.symm⟩, hf.2.symm⟩
    have z0 : (E != 0) = true := by rw [bne_iff_ne]; exact hz
    clear hf hz
    go_wp2
    have r0 : ((w3.setCell ⟨g0 + 1, 0, none⟩ (.int .i64 0)).setCell ⟨g0 + 1, 1, none⟩ (.slice none 0 0)).cell? ⟨g0 + 1, 0, none⟩ = some (.int .i64 0) := by go_simp
    have r1 : ((w3.setCell ⟨g0 + 1, 0, none⟩ (.int .i64 0)).setCell ⟨g0 + 1, 1, none⟩ (.slice none 0 0)).cell? ⟨g0 + 1, 1, none⟩ = some (.slice none 0 0) := by go_simp
    refine bodyPost_ret (v := .tuple #[.agg #[.int .i64 0, .slice none 0 0], .slice none 0 0, .int .i64 E]) (by simp [results, Try.results25, go_sem, r0, r1]) rfl ?_
    exact ⟨_, _, rfl, ⟨_, rfl, Rw.nil ..⟩, Rw.nil .., (HB3.out.setCell (by have := HG0.out; simp only; omega) _).setCell (by have := HG0.out; simp only; omega) _⟩
  subst hz
  have hf := HFE2.out
  rw [if_neg (by simp)] at hf
  obtain ⟨⟨⟨rfl, rfl⟩, rfl⟩, rfl⟩ : ((m = ((keep.length : Nat) : Int) ∧ L = indA keep l) ∧ J = indI keep l 0) ∧ E = 0 := by simp only [Prod.mk.injEq] at hf; exact ⟨⟨⟨hf.1.1.1.symm, hf.1.1.2.symm⟩, hf.1.2.symm⟩, hf.2.symm⟩
  obtain ⟨-, -, h256, -⟩ := validD_iff.1 HVD.out
  obtain ⟨K, hK⟩ : ∃ K : Nat, keep.length = K := ⟨_, rfl⟩
  have HKK := Lib.hid hK
  have hg1 : g0 + 1 < w3.heap.size := World.block_lt_of_cell? w3 _ HD1.out.1
  have hgw : w.heap.size ≤ g0 := by rw [HG0.out]; exact Nat.le_refl _
  rw [hK] at hkm ⊢
  clear hf HFE2 hK
  go_wp2_with fail
  obtain ⟨g2, hg2⟩ : ∃ g, w3.heap.size = g := ⟨_, rfl⟩
  have HD2 : Hid (dgb (w3.alloc (.cells #[.int .i64 (K : Int), .slice none 0 0] 24)) w3.heap.size (K : Int) (.slice none 0 0)) := Lib.hid (dgb_new ..)
  have HB4 := Lib.hid (below_keep (al1 w3 (.cells #[.int .i64 (K : Int), .slice none 0 0] 24)) HB3.out)
  have HD04 := Lib.hid (dgb_alloc (.cells #[.int .i64 (K : Int), .slice none 0 0] 24) HD0.out)
  have HD14 := Lib.hid (dgb_alloc (.cells #[.int .i64 (K : Int), .slice none 0 0] 24) HD1.out)
  have HSZ : Hid (w3.heap.size + 1 ≤ (w3.alloc (.cells #[.int .i64 (K : Int), .slice none 0 0] 24)).heap.size) := Lib.hid (by simp)
  rw [hg2] at HD2 HSZ hg1
  try simp only [hg2]
  clear c0 c1 c2 c3 d0 d1 d2 d3 HD0 HD1
  generalize w3.alloc (.cells #[.int .i64 (K : Int), .slice none 0 0] 24) = w4 at HD2 HB4 HD04 HD14 HSZ ⊢
  go_loopw [9, 10] (fun tv iv wr => ∃ (k : Nat) (ao io : Option Addr) (cap ic : Nat) (C : List Ar) (D : List Int), iv = .int .i64 k ∧ tv = .slice io D.length ic ∧ k ≤ l.length ∧ indA keep (l.take k) = C ∧ indI keep (l.take k) 0 = D ∧ Arow wr (g2 + 1) (.slice ao C.length cap) C ∧ Irow wr (g2 + 1) (.slice io D.length ic) D ∧ dgb wr g0 n (.slice lo l.length lc) ∧ dgb wr (g0 + 1) 0 (.slice none 0 0) ∧ dgb wr g2 (K : Int) (.slice ao C.length cap) ∧ Below w.heap.size w wr ∧ g2 + 1 ≤ wr.heap.size) (fun _ iv _ => l.length - (intOf iv).toNat)
  case atStart => exact ⟨0, none, none, 0, 0, [], [], rfl, rfl, Nat.zero_le _, rfl, rfl, own_nil _ _ _ _, own_nil _ _ _ _, HD04.out, HD14.out, HD2.out, HB4.out, HSZ.out⟩
  case round =>
    obtain ⟨k, ao, io, cap, ic, C, D, rfl, rfl, hk, hC, hD, hrow, hirow, hd0, hd1, hd2, hB, hsz⟩ := hrel
    rename World => wr
    have hCl : C.length ≤ 256 := by rw [← hC]; exact Nat.le_trans (indA_len keep _) (by rw [List.length_take]; omega)
    have hDl : D.length ≤ 256 := by rw [← hD]; exact Nat.le_trans (indI_len keep _ 0) (by rw [List.length_take]; omega)
    have HROW := Lib.hid hrow
    have HIROW := Lib.hid hirow
    have HC := Lib.hid hC
    have HD := Lib.hid hD
    have HD0 := Lib.hid hd0
    have HD1 := Lib.hid hd1
    have HD2 := Lib.hid hd2
    have HB := Lib.hid hB
    obtain ⟨c0, c1, -, -⟩ := hd0
    obtain ⟨d0, d1, d2, d3⟩ := hd2
    clear hrow hirow hC hD hB HD04 HD14 HB4
    by_cases hlt : k < l.length
    case neg =>
      obtain rfl : k = l.length := by omega
      have HC2 : Hid (C = indA keep l) := Lib.hid (by rw [← HC.out, List.take_length])
      have HD3 : Hid (D = indI keep l 0) := Lib.hid (by rw [← HD.out, List.take_length])
      obtain ⟨e0, e1, e2, e3⟩ := hd1
      go_wp2
      have r0 : (wr.setCell ⟨g0 + 1, 0, none⟩ (.int .i64 (K : Int))).cell? ⟨g0 + 1, 0, none⟩ = some (.int .i64 (K : Int)) := by go_simp
      have r1 : ((wr.setCell ⟨g0 + 1, 0, none⟩ (.int .i64 (K : Int))).setCell ⟨g0 + 1, 1, none⟩ (.slice ao C.length cap)).cell? ⟨g0 + 1, 1, none⟩ = some (.slice ao C.length cap) := by go_simp
      refine bodyPost_ret (v := .tuple #[.agg #[.int .i64 (K : Int), .slice ao C.length cap], .slice io D.length ic, .int .i64 0]) (by simp [results, Try.results25, go_sem, r0, r1]) rfl ?_
      refine ⟨_, _, rfl, ⟨_, by rw [HKK.out], ?_⟩, ?_, (HB.out.setCell (by simp only; omega) _).setCell (by simp only; omega) _⟩
      · rw [← HC2.out]
        exact Arow.ars (ownsRow_setCell_below (ownsRow_setCell_below HROW.out (by simp; omega) _) (by simp; omega) _)
      · rw [← HD3.out]
        exact Irow.ins (ownsRow_setCell_below (ownsRow_setCell_below HIROW.out (by simp; omega) _) (by simp; omega) _)
    obtain ⟨A, rfl, p0, p1⟩ := (HL.out.keep HB.out).at hlt
    have hst := indA_take keep hlt
    have hst2 := indI_take keep (i := 0) hlt
    obtain ⟨x, hx⟩ : ∃ x, l[k] = x := ⟨_, rfl⟩
    rw [hx] at p0 p1 hst hst2
    rw [HC.out] at hst
    rw [HD.out, Nat.zero_add] at hst2
    obtain ⟨x, y⟩ := x
    simp only at p0 p1 hst hst2
    obtain ⟨p, hp⟩ : ∃ p, placeI keep x 0 = p := ⟨_, rfl⟩
    obtain ⟨q, hq⟩ : ∃ q, placeI keep y 0 = q := ⟨_, rfl⟩
    rw [hp, hq] at hst hst2
    have HP := Lib.hid hp
    have HQ := Lib.hid hq
    have HST := Lib.hid hst
    have HST2 := Lib.hid hst2
    have i0 : (0 : Int) ≤ (k : Int) := by omega
    have i1 : (k : Int) < (l.length : Int) := by omega
    have hsk : Ins wr (.slice so keep.length sc) keep := hs.out.keep HB.out
    rw [HKK.out] at hsk
    have HSK := Lib.hid hsk
    have q1 : ∀ j, Calls Try.prog 40 #[.slice so K sc, .int .i64 x] (wr.drewN j) fun e w' => e = .returned (.int .i64 p) ∧ w' = wr.drewN j := fun j => (rplace_of _ keep x p _ (Lib.hid (HSK.out.keep (drew_n wr j))) HP).mono fun _ _ h => ⟨h.1, h.2.symm⟩
    have q2 : ∀ j, Calls Try.prog 40 #[.slice so K sc, .int .i64 y] (wr.drewN j) fun e w' => e = .returned (.int .i64 q) ∧ w' = wr.drewN j := fun j => (rplace_of _ keep y q _ (Lib.hid (HSK.out.keep (drew_n wr j))) HQ).mono fun _ _ h => ⟨h.1, h.2.symm⟩
    clear hst hst2 hx hp hq hd1 hsk d0 d1 d2 d3
    go_wp2_with fail
    go_quiet (first | with_reducible exact Calls.quiet_of_same (q1 _) | with_reducible exact Calls.quiet_of_same (q2 _))
    have HBN := Lib.hid (below_keep (drew_n wr nq) HB.out)
    have HROWN := Lib.hid (own_keep HROW.out (drew_n wr nq))
    have HIROWN := Lib.hid (own_keep HIROW.out (drew_n wr nq))
    have HD0N := Lib.hid (dgb_keep HD0.out (drew_n wr nq))
    have HD1N := Lib.hid (dgb_keep HD1.out (drew_n wr nq))
    have HD2N := Lib.hid (dgb_keep HD2.out (drew_n wr nq))
    have hszN : g2 + 1 ≤ (wr.drewN nq).heap.size := Nat.le_trans hsz (drew_n wr nq).size
    clear q1 q2 p0 p1 c0 c1 HSK hsz
    generalize wr.drewN nq = wn at HBN HROWN HIROWN HD0N HD1N HD2N hszN ⊢
    clear HROW HIROW HD0 HD1 HD2 HB
    obtain ⟨d0, d1, d2, d3⟩ := HD2N.out
    by_cases hpq : 0 ≤ p ∧ 0 ≤ q
    case neg =>
      have HN1 : Hid (indA keep (l.take (k + 1)) = C) := Lib.hid (by rw [HST.out, if_neg hpq, List.append_nil])
      have HN2 : Hid (indI keep (l.take (k + 1)) 0 = D) := Lib.hid (by rw [HST2.out, if_neg hpq, List.append_nil])
      by_cases hp0 : 0 ≤ p
      · have e1 : decide (0 ≤ p) = true := decide_eq_true hp0
        have e2 : decide (0 ≤ q) = false := decide_eq_false (fun h => hpq ⟨hp0, h⟩)
        clear hpq hp0
        go_wp2
        go_roundw
        case rel => exact ⟨k + 1, ao, io, cap, ic, C, D, by go_num, rfl, by omega, HN1.out, HN2.out, HROWN.out, HIROWN.out, HD0N.out, HD1N.out, HD2N.out, HBN.out, hszN⟩
        case measure => simp [intOf]; omega
      · have e1 : decide (0 ≤ p) = false := decide_eq_false hp0
        clear hpq hp0
        go_wp2
        go_roundw
        case rel => exact ⟨k + 1, ao, io, cap, ic, C, D, by go_num, rfl, by omega, HN1.out, HN2.out, HROWN.out, HIROWN.out, HD0N.out, HD1N.out, HD2N.out, HBN.out, hszN⟩
        case measure => simp [intOf]; omega
    have HN1 : Hid (indA keep (l.take (k + 1)) = C ++ [(p, q)]) := Lib.hid (by rw [HST.out, if_pos hpq])
    have HN2 : Hid (indI keep (l.take (k + 1)) 0 = D ++ [(k : Int)]) := Lib.hid (by rw [HST2.out, if_pos hpq])
    have e1 : decide (0 ≤ p) = true := decide_eq_true hpq.1
    have e2 : decide (0 ≤ q) = true := decide_eq_true hpq.2
    have hgl : g2 < wn.heap.size := by omega
    clear hpq
    go_wp2_with (first | (at_builtin; refine app_ar rfl (.tmp 58) (.tmp 62) rfl (g2 + 1) _ C p q wn.heap.size rfl rfl rfl HROWN (by omega) hszN ?_; intro ao4 cap4 w4 hrow4 hgrow4; have hb4 := (Below.refl (g2 + 1) wn).grown hgrow4 hszN (fun q hq => (World.ownsRow.lt HROWN.out q hq).1); have hir4 := World.ownsRow.kept HIROWN.out hgrow4 (own_far HIROWN.out HROWN.out (by decide)); have g4 := dgb_below hb4 (by omega) HD2N.out; have HD04 := Lib.hid (dgb_below hb4 (by omega) HD0N.out); have HD14 := Lib.hid (dgb_below hb4 (by omega) HD1N.out); have HD25 := Lib.hid (dgb_set1 ao4 (C.length + 1) cap4 g4); have HB4 := Lib.hid (HBN.out.trans (hb4.mono (by omega))); have HS4 := Lib.hid (Nat.le_trans hszN hb4.size); have HROW5 := Lib.hid (ownsRow_setCell_below (a := ⟨g2, 1, none⟩) hrow4 (by simp) (.slice ao4 (C.length + 1) cap4)); have HIROW5 := Lib.hid (ownsRow_setCell_below (a := ⟨g2, 1, none⟩) hir4 (by simp) (.slice ao4 (C.length + 1) cap4)); obtain ⟨f0, f1, f2, f3⟩ := g4; clear hgrow4 hb4 hrow4 hir4) | (at_builtin; refine app_in rfl (.tmp 65) (.tmp 67) rfl (g2 + 1) _ D (k : Int) w4.heap.size (by simp) rfl rfl HIROW5 (by omega) (by simpa using HS4.out) ?_; intro io6 ic6 w6 hrow6 hgrow6; have hb6 := (Below.refl (g2 + 1) _).grown hgrow6 (by simpa using HS4.out) (fun q hq => (World.ownsRow.lt HIROW5.out q hq).1); have HIROW6 := Lib.hid hrow6; have HROW6 := Lib.hid (World.ownsRow.kept HROW5.out hgrow6 (own_far HROW5.out HIROW5.out (by decide))); have HD26 := Lib.hid (dgb_below hb6 (by omega) HD25.out); have HD06 := Lib.hid (dgb_below hb6 (by omega) (dgb_far (by omega) HD04.out)); have HD16 := Lib.hid (dgb_below hb6 (by omega) (dgb_far (by omega) HD14.out)); have HB6 := Lib.hid ((HB4.out.setCell (by simp; omega) _).trans (hb6.mono (by omega))); have HS6 := Lib.hid (Nat.le_trans (by simpa using HS4.out) hb6.size); clear hgrow6 hb6 hrow6))
    have hlC : (C ++ [(p, q)]).length = C.length + 1 := by simp
    have hlD : (D ++ [(k : Int)]).length = D.length + 1 := by simp
    go_roundw
    case rel => exact ⟨k + 1, ao4, io6, cap4, ic6, C ++ [(p, q)], D ++ [(k : Int)], by go_num, by rw [hlD], by omega, HN1.out, HN2.out, by rw [hlC]; exact HROW6.out, by rw [hlD]; exact HIROW6.out, HD06.out, HD16.out, by rw [hlC]; exact HD26.out, HB6.out, HS6.out⟩
    case measure => simp [intOf]; omega
end Go.Proofs.Ytkmamdlhpbobhaa.dig
