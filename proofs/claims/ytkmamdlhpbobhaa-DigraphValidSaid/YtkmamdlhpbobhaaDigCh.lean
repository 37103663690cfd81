/-
  What Simple of the landed layer 14 returns. Condition: a digraph in memory.
-/
import Derived.Test.YtkmamdlhpbobhaaDigCg
import Derived.Test.YtkmamdlhpbobhaaDigRef6
namespace Go.Proofs.Ytkmamdlhpbobhaa.dig
open Go.RowKit

/-! ### What is kept tells which ends are joined already -/
theorem joined_same {a b x : Ar} (h : joined x a.1 a.2 = true) (h2 : joined b x.1 x.2 = true) : joined b a.1 a.2 = true := by
  rw [joined_iff] at *
  omega
theorem sim_any : ∀ (l done kept : List Ar), (∀ a : Ar, a.1 ≠ a.2 → kept.any (fun b => joined b a.1 a.2) = done.any (fun b => joined b a.1 a.2)) → ∀ a : Ar, a.1 ≠ a.2 →
    (kept ++ simA done l).any (fun b => joined b a.1 a.2) = (done ++ l).any (fun b => joined b a.1 a.2)
  | [], done, kept, h, a, ha => by rw [simA, List.append_nil, List.append_nil]; exact h a ha
  | x :: t, done, kept, h, a, ha => by
    rw [simA]
    by_cases hg : gone done x = true
    · rw [if_pos hg, show done ++ x :: t = done ++ [x] ++ t by simp]
      refine sim_any t (done ++ [x]) kept (fun c hc => ?_) a ha
      rw [h c hc, List.any_append, List.any_cons, List.any_nil, Bool.or_false]
      cases q : joined x c.1 c.2 with
      | false => rw [Bool.or_false]
      | true =>
        rw [Bool.or_true]
        unfold gone at hg
        rw [Bool.or_eq_true] at hg
        have q2 := joined_iff.1 q
        rcases hg with hg | hg
        · rw [beq_iff_eq] at hg; omega
        · obtain ⟨b, hb, h2⟩ := List.any_eq_true.1 hg
          exact List.any_eq_true.2 ⟨b, hb, joined_same q h2⟩
    · rw [if_neg hg, show kept ++ x :: simA (done ++ [x]) t = (kept ++ [x]) ++ simA (done ++ [x]) t by simp, show done ++ x :: t = done ++ [x] ++ t by simp]
      refine sim_any t (done ++ [x]) (kept ++ [x]) (fun c hc => ?_) a ha
      rw [List.any_append, List.any_append, h c hc]
theorem any_two (C : List Ar) (x y : Int) : (C.any (fun b => decide ((x, y) = b)) || C.any (fun b => decide ((y, x) = b))) = C.any (fun b => joined b x y) := by
  rw [Bool.eq_iff_iff, Bool.or_eq_true, List.any_eq_true, List.any_eq_true, List.any_eq_true]
  constructor
  · rintro (⟨b, hb, h⟩ | ⟨b, hb, h⟩)
    · rw [decide_eq_true_eq] at h; subst h; exact ⟨_, hb, joined_iff.2 (Or.inl ⟨rfl, rfl⟩)⟩
    · rw [decide_eq_true_eq] at h; subst h; exact ⟨_, hb, joined_iff.2 (Or.inr ⟨rfl, rfl⟩)⟩
  · rintro ⟨b, hb, h⟩
    rcases joined_iff.1 h with ⟨h1, h2⟩ | ⟨h1, h2⟩
    · exact Or.inl ⟨b, hb, by rw [decide_eq_true_eq]; exact Prod.ext h1.symm h2.symm⟩
    · exact Or.inr ⟨b, hb, by rw [decide_eq_true_eq]; exact Prod.ext h1.symm h2.symm⟩
/-- An arc is left out where it is a loop, or it or its reverse was kept. -/
theorem gone_kept {l C : List Ar} {k : Nat} (hC : simA [] (l.take k) = C) (x y : Int) : gone (l.take k) (x, y) = ((x == y) || (C.any (fun b => decide ((x, y) = b)) || C.any (fun b => decide ((y, x) = b)))) := by
  unfold gone
  simp only
  cases q : (x == y) with
  | true => rfl
  | false =>
    rw [Bool.false_or, Bool.false_or, any_two, ← hC]
    have := sim_any (l.take k) [] [] (fun _ _ => rfl) (x, y) (by simpa using q)
    simp only [List.nil_append] at this
    exact this.symm
theorem own_blk_far {w : World} {B e s n g : Nat} {v : Value} {xs : List Value} {t : TypeId} {arr : Array Value} (h : w.ownsRow B e s v n xs) (hk : blk w g t arr) (ht : t ≠ e) : v.ownBlock ≠ some g := by
  intro q
  rcases h.2 with ⟨rfl, _⟩ | ⟨g2, cap, cur, rfl, _, hg, _⟩
  · cases q
  · have e3 : g2 = g := Option.some.inj q
    subst e3
    unfold blk at hk
    rw [hg] at hk
    injection hk with hk
    injection hk with _ h5 _
    exact ht h5.symm
theorem blk_grown {w w' : World} {ob : Option Nat} {g : Nat} {t : TypeId} {arr : Array Value} (hk : blk w g t arr) (hg : w.grownBy w' ob) (hne : ob ≠ some g) : blk w' g t arr := by
  have hl := blk_lt hk
  unfold blk at hk ⊢
  rw [hg.block g hl (Ne.symm hne)]; exact hk
set_option maxRecDepth 100000 in
set_option maxHeartbeats 8000000 in
theorem csimple_of (v : Value) (n m : Int) (l L : List Ar) (J : List Int) (w : World) (h : Hid (DgV w v n l)) (hr : Hid (simE n l = ((m, L), J))) :
    Calls Try.prog 22 #[v] w (SimOut m L J w) := by
  have hmx : Try.prog.follows .mixedOrders = true := by kernel_rfl
  obtain ⟨av, rfl, hl⟩ := id h.out
  obtain ⟨lo, lc, rfl, hq1, hq2, -⟩ := id hl
  unfold maxLen at hq2
  have hlm : l.length ≤ 9223372036854775807 := by omega
  have HL := Lib.hid hl
  have HV := Lib.hid h.out
  obtain ⟨b, hb⟩ : ∃ b, validD n l = b := ⟨_, rfl⟩
  have hfe := hr.out
  unfold simE at hfe
  rw [hb] at hfe
  have HVD := Lib.hid hb
  have HFE := Lib.hid hfe
  obtain ⟨W1, hW1⟩ : ∃ W1, w.alloc (.cells #[.int .i64 n, .slice lo l.length lc] 24) = W1 := ⟨_, rfl⟩
  obtain ⟨W2, hW2⟩ : ∃ W2, W1.alloc (.cells #[.int .i64 0, .slice none 0 0] 24) = W2 := ⟨_, rfl⟩
  have s1 : W1.heap.size = w.heap.size + 1 := by rw [← hW1]; simp
  have HD0 : Hid (dgb W2 w.heap.size n (.slice lo l.length lc)) := Lib.hid (by rw [← hW2, ← hW1]; exact dgb_alloc _ (dgb_new ..))
  have HD1 : Hid (dgb W2 (w.heap.size + 1) 0 (.slice none 0 0)) := Lib.hid (by rw [← hW2, ← s1]; exact dgb_new ..)
  have HB : Hid (Below w.heap.size w W2) := Lib.hid (by rw [← hW2, ← hW1]; exact al2 ..)
  have HW1 := Lib.hid hW1
  have HW2 := Lib.hid hW2
  clear h hl hb hfe hr hq1 hq2 s1 hW1 hW2
  go_enter Try.func22, Try.ntmps22
  go_wp2_with fail
  rw [HW1.out, HW2.out]
  obtain ⟨g0, hg0⟩ : ∃ g, w.heap.size = g := ⟨_, rfl⟩
  have HG0 := Lib.hid hg0
  rw [hg0] at HD0 HD1
  try simp only [hg0]
  clear hg0 HW1 HW2 W1
  refine (cvalid_of _ n l b W2 (Lib.hid (HV.out.keep HB.out)) HVD).mono ?_
  rintro e w2 ⟨rfl, hb2⟩
  have HB2 := Lib.hid (HB.out.trans (hb2.mono HB.out.size))
  have HD0' := Lib.hid (dgb_keep HD0.out hb2)
  have HD1' := Lib.hid (dgb_keep HD1.out hb2)
  clear hb2 HD0 HD1 HB
  obtain ⟨c0, c1, c2, c3⟩ := HD0'.out
  obtain ⟨d0, d1, d2, d3⟩ := HD1'.out
  cases b
  case false =>
    have hf := HFE.out
    rw [if_pos rfl] at hf
    obtain ⟨⟨rfl, rfl⟩, rfl⟩ : (m = 0 ∧ L = []) ∧ J = [] := by simp only [Prod.mk.injEq] at hf; exact ⟨⟨hf.1.1.symm, hf.1.2.symm⟩, hf.2.symm⟩
    clear hf
    go_wp2
    have r0 : ((w2.setCell ⟨g0 + 1, 0, none⟩ (.int .i64 0)).setCell ⟨g0 + 1, 1, none⟩ (.slice none 0 0)).cell? ⟨g0 + 1, 0, none⟩ = some (.int .i64 0) := by go_simp
    have r1 : ((w2.setCell ⟨g0 + 1, 0, none⟩ (.int .i64 0)).setCell ⟨g0 + 1, 1, none⟩ (.slice none 0 0)).cell? ⟨g0 + 1, 1, none⟩ = some (.slice none 0 0) := by go_simp
    refine bodyPost_ret (v := .tuple #[.agg #[.int .i64 0, .slice none 0 0], .slice none 0 0]) (by simp [results, Try.results22, go_sem, r0, r1]) rfl ?_
    exact ⟨_, _, rfl, ⟨_, rfl, Rw.nil ..⟩, Rw.nil .., (HB2.out.setCell (by have := HG0.out; simp only; omega) _).setCell (by have := HG0.out; simp only; omega) _⟩
  have hf := HFE.out
  rw [if_neg (by decide)] at hf
  obtain ⟨⟨rfl, rfl⟩, rfl⟩ : (m = n ∧ L = simA [] l) ∧ J = simI [] l 0 := by simp only [Prod.mk.injEq] at hf; exact ⟨⟨hf.1.1.symm, hf.1.2.symm⟩, hf.2.symm⟩
  obtain ⟨-, -, h256, -⟩ := validD_iff.1 HVD.out
  have hg1 : g0 + 1 < w2.heap.size := World.block_lt_of_cell? w2 _ HD1'.out.1
  have hgw : w.heap.size ≤ g0 := by rw [HG0.out]; exact Nat.le_refl _
  obtain ⟨B2, hB2⟩ : ∃ B2, w2.heap.size = B2 := ⟨_, rfl⟩
  have hsz0 : B2 ≤ w2.heap.size := by omega
  rw [hB2] at hg1
  clear hf HFE hB2
  go_wp2_with fail
  clear c0 c1 c2 c3 d0 d1 d2 d3
  go_loopw [4, 5, 15] (fun av jv iv wr => ∃ (k : Nat) (ao io : Option Addr) (cap ic : Nat) (C : List Ar) (D : List Int), iv = .int .i64 k ∧ av = .slice ao C.length cap ∧ jv = .slice io D.length ic ∧ k ≤ l.length ∧ simA [] (l.take k) = C ∧ simI [] (l.take k) 0 = D ∧ Arow wr B2 (.slice ao C.length cap) C ∧ Irow wr B2 (.slice io D.length ic) D ∧ dgb wr g0 m (.slice lo l.length lc) ∧ dgb wr (g0 + 1) 0 (.slice none 0 0) ∧ Below w.heap.size w wr ∧ B2 ≤ wr.heap.size) (fun _ _ iv _ => l.length - (intOf iv).toNat)
  case atStart => exact ⟨0, none, none, 0, 0, [], [], rfl, rfl, rfl, Nat.zero_le _, rfl, rfl, own_nil _ _ _ _, own_nil _ _ _ _, HD0'.out, HD1'.out, HB2.out, hsz0⟩
  case round =>
    obtain ⟨k, ao, io, cap, ic, C, D, rfl, rfl, rfl, hk, hC, hD, hrow, hirow, hd0, hd1, hB, hsz⟩ := hrel
    rename World => wr
    have hCl : C.length ≤ 256 := by rw [← hC]; exact Nat.le_trans (simA_len _ _) (by rw [List.length_take]; omega)
    have hDl : D.length ≤ 256 := by rw [← hD, simI_len, List.length_take]; omega
    have HROW := Lib.hid hrow
    have HIROW := Lib.hid hirow
    have HC := Lib.hid hC
    have HD := Lib.hid hD
    have HD0 := Lib.hid hd0
    have HD1 := Lib.hid hd1
    have HB := Lib.hid hB
    clear hrow hirow hC hD hB HD0' HD1' HB2
    by_cases hlt : k < l.length
    case neg =>
      obtain rfl : k = l.length := by omega
      have HC2 : Hid (C = simA [] l) := Lib.hid (by rw [← HC.out, List.take_length])
      have HD3 : Hid (D = simI [] l 0) := Lib.hid (by rw [← HD.out, List.take_length])
      obtain ⟨c0, c1, c2, c3⟩ := hd0
      obtain ⟨e0, e1, e2, e3⟩ := hd1
      go_wp2
      have r0 : ((wr.setCell ⟨g0 + 1, 0, none⟩ (.int .i64 m)).setCell ⟨g0 + 1, 1, none⟩ (.slice ao C.length cap)).cell? ⟨g0 + 1, 0, none⟩ = some (.int .i64 m) := by go_simp
      have r1 : ((wr.setCell ⟨g0 + 1, 0, none⟩ (.int .i64 m)).setCell ⟨g0 + 1, 1, none⟩ (.slice ao C.length cap)).cell? ⟨g0 + 1, 1, none⟩ = some (.slice ao C.length cap) := by go_simp
      refine bodyPost_ret (v := .tuple #[.agg #[.int .i64 m, .slice ao C.length cap], .slice io D.length ic]) (by simp [results, Try.results22, go_sem, r0, r1]) rfl ?_
      refine ⟨_, _, rfl, ⟨_, rfl, ?_⟩, ?_, (HB.out.setCell (by simp only; omega) _).setCell (by simp only; omega) _⟩
      · rw [← HC2.out]
        exact Arow.ars (ownsRow_setCell_below (ownsRow_setCell_below HROW.out (by simp; omega) _) (by simp; omega) _)
      · rw [← HD3.out]
        exact Irow.ins (ownsRow_setCell_below (ownsRow_setCell_below HIROW.out (by simp; omega) _) (by simp; omega) _)
    obtain ⟨A, rfl, p0, p1⟩ := (HL.out.keep HB.out).at hlt
    have hst := simA_take (done := []) hlt
    have hst2 := simI_take (done := []) (m := 0) hlt
    rw [List.nil_append] at hst hst2
    obtain ⟨x, hx⟩ : ∃ x, l[k] = x := ⟨_, rfl⟩
    rw [hx] at p0 p1 hst hst2
    obtain ⟨x, y⟩ := x
    simp only at p0 p1
    rw [HC.out, gone_kept HC.out] at hst
    rw [HC.out, HD.out, gone_kept HC.out, Nat.zero_add] at hst2
    obtain ⟨R0, h0⟩ : ∃ R, (x == y) = R := ⟨_, rfl⟩
    obtain ⟨R1, h1⟩ : ∃ R, C.any (fun b => decide ((x, y) = b)) = R := ⟨_, rfl⟩
    obtain ⟨R2, h2⟩ : ∃ R, C.any (fun b => decide ((y, x) = b)) = R := ⟨_, rfl⟩
    rw [h0, h1, h2] at hst hst2
    have HST := Lib.hid hst
    have HST2 := Lib.hid hst2
    have HR1 := Lib.hid h1
    have HR2 := Lib.hid h2
    have i0 : (0 : Int) ≤ (k : Int) := by omega
    have i1 : (k : Int) < (l.length : Int) := by omega
    obtain ⟨wb, hwb⟩ : ∃ wb, wr.alloc (.cells #[.int .i64 x, .int .i64 y] 43) = wb := ⟨_, rfl⟩
    obtain ⟨gx, hgx⟩ : ∃ gx, wr.heap.size = gx := ⟨_, rfl⟩
    have HBb : Hid (Below w.heap.size w wb) := Lib.hid (by rw [← hwb]; exact below_keep (al1 ..) HB.out)
    have HROWb : Hid (Arow wb B2 (.slice ao C.length cap) C) := Lib.hid (by rw [← hwb]; exact own_keep HROW.out (al1 ..))
    have HIROWb : Hid (Irow wb B2 (.slice io D.length ic) D) := Lib.hid (by rw [← hwb]; exact own_keep HIROW.out (al1 ..))
    have HD0b : Hid (dgb wb g0 m (.slice (some A) l.length lc)) := Lib.hid (by rw [← hwb]; exact dgb_keep HD0.out (al1 ..))
    have HD1b : Hid (dgb wb (g0 + 1) 0 (.slice none 0 0)) := Lib.hid (by rw [← hwb]; exact dgb_keep HD1.out (al1 ..))
    have HXb : Hid (blk wb gx 43 #[.int .i64 x, .int .i64 y]) := Lib.hid (by rw [← hwb, ← hgx]; exact blk_new ..)
    have hszb : B2 ≤ wb.heap.size := by rw [← hwb]; simp; omega
    have hgxb : wb.heap.size = gx + 1 := by rw [← hwb, ← hgx]; simp
    have HWB := Lib.hid hwb
    have HGX := Lib.hid hgx
    have HSB := Lib.hid hszb
    have HGB := Lib.hid hgxb
    clear hst hst2 hx hwb hgx hd0 hd1 hszb hgxb hsz h1 h2
    cases R0
    case true =>
      have hsx := HGX.out
      have e1 : x = y := by simpa using h0
      rw [← HWB.out] at HBb HROWb HIROWb HD0b HD1b HSB
      have HN1 : Hid (simA [] (l.take (k + 1)) = C) := Lib.hid (by rw [HST.out]; simp)
      have HN2 : Hid (simI [] (l.take (k + 1)) 0 = D ++ [-1]) := Lib.hid (by rw [HST2.out]; simp)
      clear e1 hsx
      go_wp2_with (at_builtin; refine app_in rfl (.tmp 35) (.tmp 36) rfl B2 _ D (-1) (wr.heap.size + 1) (by simp) rfl rfl HIROWb (by omega) HSB.out ?_; intro io6 ic6 w6 hrow6 hgrow6; have hb6 := (Below.refl B2 (wr.alloc (.cells #[.int .i64 x, .int .i64 y] 43))).grown hgrow6 HSB.out (fun q hq => (World.ownsRow.lt HIROWb.out q hq).1); have HIROW6 := Lib.hid hrow6; have HROW6 := Lib.hid (World.ownsRow.kept HROWb.out hgrow6 (own_far HROWb.out HIROWb.out (by decide))); have HD06 := Lib.hid (dgb_below hb6 (by omega) HD0b.out); have HD16 := Lib.hid (dgb_below hb6 (by omega) HD1b.out); have HB6 := Lib.hid (HBb.out.trans (hb6.mono (by omega))); have HS6 := Lib.hid (Nat.le_trans HSB.out hb6.size); clear hgrow6 hb6 hrow6)
      have hlD : (D ++ [(-1 : Int)]).length = D.length + 1 := by simp
      go_roundw
      case rel => exact ⟨k + 1, ao, io6, cap, ic6, C, D ++ [-1], by go_num, rfl, by rw [hlD], by omega, HN1.out, HN2.out, HROW6.out, by rw [hlD]; exact HIROW6.out, HD06.out, HD16.out, HB6.out, HS6.out⟩
      case measure => simp [intOf]; omega
    have b0 := h0
    have e1 : ¬ x = y := by simpa using h0
    clear h0 HROW HIROW HD0 HD1 HB
    go_wp2_with fail
    try simp only [HGX.out]
    rw [HWB.out]
    refine (contar_of _ C (x, y) R1 wb (Lib.hid (Arow.ars HROWb.out)) HR1).mono ?_
    rintro e w4 ⟨rfl, hb4⟩
    have HBd := Lib.hid (below_keep hb4 HBb.out)
    have HROWd := Lib.hid (own_keep HROWb.out hb4)
    have HIROWd := Lib.hid (own_keep HIROWb.out hb4)
    have HD0d := Lib.hid (dgb_keep HD0b.out hb4)
    have HD1d := Lib.hid (dgb_keep HD1b.out hb4)
    have HXd := Lib.hid (blk_keep hb4 HXb.out)
    have HSd := Lib.hid (Nat.le_trans HSB.out hb4.size)
    clear hb4 HBb HROWb HIROWb HD0b HD1b HXb
    clear p0 p1 e1 b0
    cases R1
    case true =>
      have HN1 : Hid (simA [] (l.take (k + 1)) = C) := Lib.hid (by rw [HST.out]; simp)
      have HN2 : Hid (simI [] (l.take (k + 1)) 0 = D ++ [-1]) := Lib.hid (by rw [HST2.out]; simp)
      have hszq := HSd.out
      go_wp2_with (at_builtin; refine app_in rfl (.tmp 35) (.tmp 36) rfl B2 _ D (-1) w4.heap.size rfl rfl rfl HIROWd (by omega) HSd.out ?_; intro io6 ic6 w6 hrow6 hgrow6; have hb6 := (Below.refl B2 w4).grown hgrow6 HSd.out (fun q hq => (World.ownsRow.lt HIROWd.out q hq).1); have HIROW6 := Lib.hid hrow6; have HROW6 := Lib.hid (World.ownsRow.kept HROWd.out hgrow6 (own_far HROWd.out HIROWd.out (by decide))); have HD06 := Lib.hid (dgb_below hb6 (by omega) HD0d.out); have HD16 := Lib.hid (dgb_below hb6 (by omega) HD1d.out); have HB6 := Lib.hid (HBd.out.trans (hb6.mono (by omega))); have HS6 := Lib.hid (Nat.le_trans HSd.out hb6.size); clear hgrow6 hb6 hrow6)
      have hlD : (D ++ [(-1 : Int)]).length = D.length + 1 := by simp
      go_roundw
      case rel => exact ⟨k + 1, ao, io6, cap, ic6, C, D ++ [-1], by go_num, rfl, by rw [hlD], by omega, HN1.out, HN2.out, HROW6.out, by rw [hlD]; exact HIROW6.out, HD06.out, HD16.out, HB6.out, HS6.out⟩
      case measure => simp [intOf]; omega
    have t0 : w4.cell? ⟨gx, 0, none⟩ = some (.int .i64 x) := by rw [blk_cell HXd.out]; rfl
    have t1 : w4.cell? ⟨gx, 1, none⟩ = some (.int .i64 y) := by rw [blk_cell HXd.out]; rfl
    go_wp2_with fail
    refine (crev_of x y w4).mono ?_
    rintro e w5 ⟨rfl, hb5⟩
    have HBe := Lib.hid (below_keep hb5 HBd.out)
    have HROWe := Lib.hid (own_keep HROWd.out hb5)
    have HIROWe := Lib.hid (own_keep HIROWd.out hb5)
    have HD0e := Lib.hid (dgb_keep HD0d.out hb5)
    have HD1e := Lib.hid (dgb_keep HD1d.out hb5)
    have HXe := Lib.hid (blk_keep hb5 HXd.out)
    have HSe := Lib.hid (Nat.le_trans HSd.out hb5.size)
    clear hb5 HBd HROWd HIROWd HD0d HD1d HXd
    clear t0 t1
    go_wp2_with fail
    refine (contar_of _ C (y, x) R2 w5 (Lib.hid (Arow.ars HROWe.out)) HR2).mono ?_
    rintro e w7 ⟨rfl, hb7⟩
    have HBf := Lib.hid (below_keep hb7 HBe.out)
    have HROWf := Lib.hid (own_keep HROWe.out hb7)
    have HIROWf := Lib.hid (own_keep HIROWe.out hb7)
    have HD0f := Lib.hid (dgb_keep HD0e.out hb7)
    have HD1f := Lib.hid (dgb_keep HD1e.out hb7)
    have HXf := Lib.hid (blk_keep hb7 HXe.out)
    have HSf := Lib.hid (Nat.le_trans HSe.out hb7.size)
    clear hb7 HBe HROWe HIROWe HD0e HD1e HXe
    cases R2
    case true =>
      have HN1 : Hid (simA [] (l.take (k + 1)) = C) := Lib.hid (by rw [HST.out]; simp)
      have HN2 : Hid (simI [] (l.take (k + 1)) 0 = D ++ [-1]) := Lib.hid (by rw [HST2.out]; simp)
      have hszq := HSf.out
      go_wp2_with (at_builtin; refine app_in rfl (.tmp 35) (.tmp 36) rfl B2 _ D (-1) w7.heap.size rfl rfl rfl HIROWf (by omega) HSf.out ?_; intro io6 ic6 w6 hrow6 hgrow6; have hb6 := (Below.refl B2 w7).grown hgrow6 HSf.out (fun q hq => (World.ownsRow.lt HIROWf.out q hq).1); have HIROW6 := Lib.hid hrow6; have HROW6 := Lib.hid (World.ownsRow.kept HROWf.out hgrow6 (own_far HROWf.out HIROWf.out (by decide))); have HD06 := Lib.hid (dgb_below hb6 (by omega) HD0f.out); have HD16 := Lib.hid (dgb_below hb6 (by omega) HD1f.out); have HB6 := Lib.hid (HBf.out.trans (hb6.mono (by omega))); have HS6 := Lib.hid (Nat.le_trans HSf.out hb6.size); clear hgrow6 hb6 hrow6)
      have hlD : (D ++ [(-1 : Int)]).length = D.length + 1 := by simp
      go_roundw
      case rel => exact ⟨k + 1, ao, io6, cap, ic6, C, D ++ [-1], by go_num, rfl, by rw [hlD], by omega, HN1.out, HN2.out, HROW6.out, by rw [hlD]; exact HIROW6.out, HD06.out, HD16.out, HB6.out, HS6.out⟩
      case measure => simp [intOf]; omega
    have HN1 : Hid (simA [] (l.take (k + 1)) = C ++ [(x, y)]) := Lib.hid (by rw [HST.out]; simp)
    have HN2 : Hid (simI [] (l.take (k + 1)) 0 = D ++ [(C.length : Int)]) := Lib.hid (by rw [HST2.out]; simp)
    have hszq := HSf.out
    go_wp2_with (first | (at_builtin; refine app_in rfl (.tmp 38) (.tmp 41) rfl B2 _ D (C.length : Int) w7.heap.size rfl rfl rfl HIROWf (by omega) HSf.out ?_; intro io6 ic6 w6 hrow6 hgrow6; have hb6 := (Below.refl B2 w7).grown hgrow6 HSf.out (fun q hq => (World.ownsRow.lt HIROWf.out q hq).1); have HIROW6 := Lib.hid hrow6; have HROW6 := Lib.hid (World.ownsRow.kept HROWf.out hgrow6 (own_far HROWf.out HIROWf.out (by decide))); have HX6 := blk_grown HXf.out hgrow6 (own_blk_far HIROWf.out HXf.out (by decide)); have HD06 := Lib.hid (dgb_below hb6 (by omega) HD0f.out); have HD16 := Lib.hid (dgb_below hb6 (by omega) HD1f.out); have HB6 := Lib.hid (HBf.out.trans (hb6.mono (by omega))); have HS6 := Lib.hid (Nat.le_trans HSf.out hb6.size); have t0 : w6.cell? ⟨gx, 0, none⟩ = some (.int .i64 x) := by { rw [blk_cell HX6]; rfl }; have t1 : w6.cell? ⟨gx, 1, none⟩ = some (.int .i64 y) := by { rw [blk_cell HX6]; rfl }; clear hgrow6 hb6 hrow6 HX6) | (at_builtin; refine app_ar rfl (.tmp 43) (.tmp 45) rfl B2 _ C x y w6.heap.size rfl rfl rfl HROW6 (by omega) HS6.out ?_; intro ao8 cap8 w8 hrow8 hgrow8; have hb8 := (Below.refl B2 w6).grown hgrow8 HS6.out (fun q hq => (World.ownsRow.lt HROW6.out q hq).1); have HROW8 := Lib.hid hrow8; have HIROW8 := Lib.hid (World.ownsRow.kept HIROW6.out hgrow8 (own_far HIROW6.out HROW6.out (by decide))); have HD08 := Lib.hid (dgb_below hb8 (by omega) HD06.out); have HD18 := Lib.hid (dgb_below hb8 (by omega) HD16.out); have HB8 := Lib.hid (HB6.out.trans (hb8.mono (by omega))); have HS8 := Lib.hid (Nat.le_trans HS6.out hb8.size); clear hgrow8 hb8 hrow8))
    have hlC : (C ++ [(x, y)]).length = C.length + 1 := by simp
    have hlD : (D ++ [(C.length : Int)]).length = D.length + 1 := by simp
    go_roundw
    case rel => exact ⟨k + 1, ao8, io6, cap8, ic6, C ++ [(x, y)], D ++ [(C.length : Int)], by go_num, by rw [hlC], by rw [hlD], by omega, HN1.out, HN2.out, by rw [hlC]; exact HROW8.out, by rw [hlD]; exact HIROW8.out, HD08.out, HD18.out, HB8.out, HS8.out⟩
    case measure => simp [intOf]; omega
end Go.Proofs.Ytkmamdlhpbobhaa.dig
