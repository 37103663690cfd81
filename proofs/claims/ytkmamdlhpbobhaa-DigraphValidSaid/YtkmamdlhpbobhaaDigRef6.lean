/-
  What Simple of the reference of layer 14 returns. Condition: a digraph of at most 1000000 arcs in memory.
-/
import Derived.Test.YtkmamdlhpbobhaaDigRef5
namespace Go.Proofs.Ytkmamdlhpbobhaa.dig
open Go.RowKit

/-- A digraph and numbers that a call leaves. -/
def SimOut (n : Int) (L : List Ar) (J : List Int) (w : World) (e : Ending) (w' : World) : Prop := ∃ v jv, e = .returned (.tuple #[v, jv]) ∧ DgV w' v n L ∧ Ins w' jv J ∧ Below w.heap.size w w'
def simE (n : Int) (l : List Ar) : (Int × List Ar) × List Int :=
  if validD n l = false then ((0, []), []) else ((n, simA [] l), simI [] l 0)
theorem simA_take {l : List Ar} : ∀ {k : Nat} {done : List Ar} (h : k < l.length), simA done (l.take (k + 1)) = simA done (l.take k) ++ (if gone (done ++ l.take k) l[k] = true then [] else [l[k]]) := by
  induction l with
  | nil => intro k done h; simp at h
  | cons a t ih =>
    intro k done h
    cases k with
    | zero => simp [simA]
    | succ k =>
      rw [List.take_succ_cons, List.take_succ_cons, simA, simA, ih (by simpa using h)]
      simp only [List.getElem_cons_succ, List.append_assoc, List.cons_append, List.nil_append]
      split <;> simp
theorem simI_take {l : List Ar} : ∀ {k m : Nat} {done : List Ar} (h : k < l.length), simI done (l.take (k + 1)) m = simI done (l.take k) m ++ [if gone (done ++ l.take k) l[k] = true then -1 else ((m + (simA done (l.take k)).length : Nat) : Int)] := by
  induction l with
  | nil => intro k m done h; simp at h
  | cons a t ih =>
    intro k m done h
    cases k with
    | zero => simp only [List.take_succ_cons, List.take_zero, simI, simA, List.append_nil, List.nil_append, List.length_nil, Nat.add_zero, List.getElem_cons_zero]; split <;> rfl
    | succ k =>
      rw [List.take_succ_cons, List.take_succ_cons, simI, simI, simA]
      have hk : k < t.length := by simpa using h
      simp only [List.getElem_cons_succ]
      by_cases hg : gone done a = true
      · rw [if_pos hg, if_pos hg, if_pos hg, ih hk]
        simp only [List.append_assoc, List.cons_append, List.nil_append]
      · rw [if_neg hg, if_neg hg, if_neg hg, ih hk]
        simp only [List.append_assoc, List.cons_append, List.nil_append, List.length_cons]
        rw [show m + 1 + (simA (done ++ [a]) (t.take k)).length = m + ((simA (done ++ [a]) (t.take k)).length + 1) by omega]
theorem simI_len : ∀ (l done : List Ar) (m : Nat), (simI done l m).length = l.length
  | [], _, _ => rfl
  | a :: t, done, m => by rw [simI]; split <;> rw [List.length_cons, List.length_cons, simI_len t]
set_option maxRecDepth 100000 in
set_option maxHeartbeats 8000000 in
theorem rsimple_of (v : Value) (n m : Int) (l L : List Ar) (J : List Int) (w : World) (h : Hid (DgV w v n l)) (hr : Hid (simE n l = ((m, L), J))) :
    Calls Try.prog 23 #[v] w (SimOut m L J w) := by
  have hmx : Try.prog.follows .mixedOrders = true := by kernel_rfl
  obtain ⟨av, rfl, hl⟩ := id h.out
  obtain ⟨lo, lc, rfl, hq1, hq2, -⟩ := id hl
  unfold maxLen at hq2
  have hlm : l.length ≤ 9223372036854775807 := by omega
  have HL := Lib.hid hl
  have HV := Lib.hid h.out
  obtain ⟨b, hb⟩ : ∃ b, validD n l = b := ⟨_, rfl⟩
  have hfe := hr.out
  unfold simE at hfe
  rw [hb] at hfe
  have HVD := Lib.hid hb
  have HFE := Lib.hid hfe
  obtain ⟨W1, hW1⟩ : ∃ W1, w.alloc (.cells #[.int .i64 n, .slice lo l.length lc] 24) = W1 := ⟨_, rfl⟩
  obtain ⟨W2, hW2⟩ : ∃ W2, W1.alloc (.cells #[.int .i64 0, .slice none 0 0] 24) = W2 := ⟨_, rfl⟩
  have s1 : W1.heap.size = w.heap.size + 1 := by rw [← hW1]; simp
  have HD0 : Hid (dgb W2 w.heap.size n (.slice lo l.length lc)) := Lib.hid (by rw [← hW2, ← hW1]; exact dgb_alloc _ (dgb_new ..))
  have HD1 : Hid (dgb W2 (w.heap.size + 1) 0 (.slice none 0 0)) := Lib.hid (by rw [← hW2, ← s1]; exact dgb_new ..)
  have HB : Hid (Below w.heap.size w W2) := Lib.hid (by rw [← hW2, ← hW1]; exact al2 ..)
  have HW1 := Lib.hid hW1
  have HW2 := Lib.hid hW2
  clear h hl hb hfe hr hq1 hq2 s1 hW1 hW2
  go_enter Try.func23, Try.ntmps23
  go_wp2_with fail
  rw [HW1.out, HW2.out]
  obtain ⟨g0, hg0⟩ : ∃ g, w.heap.size = g := ⟨_, rfl⟩
  have HG0 := Lib.hid hg0
  rw [hg0] at HD0 HD1
  try simp only [hg0]
  clear hg0 HW1 HW2 W1
  refine (rvalid_of _ n l b W2 (Lib.hid (HV.out.keep HB.out)) HVD).mono ?_
  rintro e w3 ⟨rfl, hb2⟩
  have HB3 := Lib.hid (HB.out.trans (hb2.mono HB.out.size))
  have HD0' := Lib.hid (dgb_keep HD0.out hb2)
  have HD1' := Lib.hid (dgb_keep HD1.out hb2)
  clear hb2 HD0 HD1 HB
  obtain ⟨c0, c1, c2, c3⟩ := HD0'.out
  obtain ⟨d0, d1, d2, d3⟩ := HD1'.out
  cases b
  case false =>
    have hf := HFE.out
    rw [if_pos rfl] at hf
    obtain ⟨⟨rfl, rfl⟩, rfl⟩ : (m = 0 ∧ L = []) ∧ J = [] := by simp only [Prod.mk.injEq] at hf; exact ⟨⟨hf.1.1.symm, hf.1.2.symm⟩, hf.2.symm⟩
    clear hf
    go_wp2
    have r0 : ((w3.setCell ⟨g0 + 1, 0, none⟩ (.int .i64 0)).setCell ⟨g0 + 1, 1, none⟩ (.slice none 0 0)).cell? ⟨g0 + 1, 0, none⟩ = some (.int .i64 0) := by go_simp
    have r1 : ((w3.setCell ⟨g0 + 1, 0, none⟩ (.int .i64 0)).setCell ⟨g0 + 1, 1, none⟩ (.slice none 0 0)).cell? ⟨g0 + 1, 1, none⟩ = some (.slice none 0 0) := by go_simp
    refine bodyPost_ret (v := .tuple #[.agg #[.int .i64 0, .slice none 0 0], .slice none 0 0]) (by simp [results, Try.results23, go_sem, r0, r1]) rfl ?_
    exact ⟨_, _, rfl, ⟨_, rfl, Rw.nil ..⟩, Rw.nil .., (HB3.out.setCell (by have := HG0.out; simp only; omega) _).setCell (by have := HG0.out; simp only; omega) _⟩
  have hf := HFE.out
  rw [if_neg (by decide)] at hf
  obtain ⟨⟨rfl, rfl⟩, rfl⟩ : (n = m ∧ L = simA [] l) ∧ J = simI [] l 0 := by simp only [Prod.mk.injEq] at hf; exact ⟨⟨hf.1.1, hf.1.2.symm⟩, hf.2.symm⟩
  obtain ⟨-, -, h256, -⟩ := validD_iff.1 HVD.out
  have hg1 : g0 + 1 < w3.heap.size := World.block_lt_of_cell? w3 _ HD1'.out.1
  have hgw : w.heap.size ≤ g0 := by rw [HG0.out]; exact Nat.le_refl _
  clear hf HFE
  go_wp2_with fail
  obtain ⟨g2, hg2⟩ : ∃ g, w3.heap.size = g := ⟨_, rfl⟩
  have HD2 : Hid (dgb (w3.alloc (.cells #[.int .i64 n, .slice none 0 0] 24)) w3.heap.size n (.slice none 0 0)) := Lib.hid (dgb_new ..)
  have HB4 := Lib.hid (below_keep (al1 w3 (.cells #[.int .i64 n, .slice none 0 0] 24)) HB3.out)
  have HD04 := Lib.hid (dgb_alloc (.cells #[.int .i64 n, .slice none 0 0] 24) HD0'.out)
  have HD14 := Lib.hid (dgb_alloc (.cells #[.int .i64 n, .slice none 0 0] 24) HD1'.out)
  have HSZ : Hid (w3.heap.size + 1 ≤ (w3.alloc (.cells #[.int .i64 n, .slice none 0 0] 24)).heap.size) := Lib.hid (by simp)
  rw [hg2] at HD2 HSZ hg1
  try simp only [hg2]
  clear c0 c1 c2 c3 d0 d1 d2 d3 HD0' HD1'
  generalize w3.alloc (.cells #[.int .i64 n, .slice none 0 0] 24) = w4 at HD2 HB4 HD04 HD14 HSZ ⊢
  go_loopw [5, 6] (fun tv iv wr => ∃ (k : Nat) (ao io : Option Addr) (cap ic : Nat) (C : List Ar) (D : List Int), iv = .int .i64 k ∧ tv = .slice io D.length ic ∧ k ≤ l.length ∧ simA [] (l.take k) = C ∧ simI [] (l.take k) 0 = D ∧ Arow wr (g2 + 1) (.slice ao C.length cap) C ∧ Irow wr (g2 + 1) (.slice io D.length ic) D ∧ dgb wr g0 n (.slice lo l.length lc) ∧ dgb wr (g0 + 1) 0 (.slice none 0 0) ∧ dgb wr g2 n (.slice ao C.length cap) ∧ Below w.heap.size w wr ∧ g2 + 1 ≤ wr.heap.size) (fun _ iv _ => l.length - (intOf iv).toNat)
  case atStart => exact ⟨0, none, none, 0, 0, [], [], rfl, rfl, Nat.zero_le _, rfl, rfl, own_nil _ _ _ _, own_nil _ _ _ _, HD04.out, HD14.out, HD2.out, HB4.out, HSZ.out⟩
  case round =>
    obtain ⟨k, ao, io, cap, ic, C, D, rfl, rfl, hk, hC, hD, hrow, hirow, hd0, hd1, hd2, hB, hsz⟩ := hrel
    rename World => wr
    have hCl : C.length ≤ 256 := by rw [← hC]; exact Nat.le_trans (simA_len _ _) (by rw [List.length_take]; omega)
    have hDl : D.length ≤ 256 := by rw [← hD, simI_len, List.length_take]; omega
    have HROW := Lib.hid hrow
    have HIROW := Lib.hid hirow
    have HC := Lib.hid hC
    have HD := Lib.hid hD
    have HD0 := Lib.hid hd0
    have HD1 := Lib.hid hd1
    have HD2 := Lib.hid hd2
    have HB := Lib.hid hB
    obtain ⟨c0, c1, -, -⟩ := hd0
    clear hrow hirow hC hD hB HD04 HD14 HB4
    by_cases hlt : k < l.length
    case neg =>
      obtain rfl : k = l.length := by omega
      have HC2 : Hid (C = simA [] l) := Lib.hid (by rw [← HC.out, List.take_length])
      have HD3 : Hid (D = simI [] l 0) := Lib.hid (by rw [← HD.out, List.take_length])
      obtain ⟨e0, e1, e2, e3⟩ := hd1
      obtain ⟨d0, d1, d2, d3⟩ := hd2
      go_wp2
      have r0 : (wr.setCell ⟨g0 + 1, 0, none⟩ (.int .i64 n)).cell? ⟨g0 + 1, 0, none⟩ = some (.int .i64 n) := by go_simp
      have r1 : ((wr.setCell ⟨g0 + 1, 0, none⟩ (.int .i64 n)).setCell ⟨g0 + 1, 1, none⟩ (.slice ao C.length cap)).cell? ⟨g0 + 1, 1, none⟩ = some (.slice ao C.length cap) := by go_simp
      refine bodyPost_ret (v := .tuple #[.agg #[.int .i64 n, .slice ao C.length cap], .slice io D.length ic]) (by simp [results, Try.results23, go_sem, r0, r1]) rfl ?_
      refine ⟨_, _, rfl, ⟨_, rfl, ?_⟩, ?_, (HB.out.setCell (by simp only; omega) _).setCell (by simp only; omega) _⟩
      · rw [← HC2.out]
        exact Arow.ars (ownsRow_setCell_below (ownsRow_setCell_below HROW.out (by simp; omega) _) (by simp; omega) _)
      · rw [← HD3.out]
        exact Irow.ins (ownsRow_setCell_below (ownsRow_setCell_below HIROW.out (by simp; omega) _) (by simp; omega) _)
    obtain ⟨A, rfl, p0, p1⟩ := (HL.out.keep HB.out).at hlt
    have hst := simA_take (done := []) hlt
    have hst2 := simI_take (m := 0) (done := []) hlt
    obtain ⟨x, hx⟩ : ∃ x, l[k] = x := ⟨_, rfl⟩
    rw [hx] at p0 p1 hst hst2
    rw [HC.out] at hst hst2
    rw [HD.out, Nat.zero_add] at hst2
    rw [List.nil_append] at hst hst2
    obtain ⟨x, y⟩ := x
    simp only at p0 p1
    have HST := Lib.hid hst
    have HST2 := Lib.hid hst2
    have i0 : (0 : Int) ≤ (k : Int) := by omega
    have i1 : (k : Int) < (l.length : Int) := by omega
    clear hst hst2 hx hd1 hd2
    obtain ⟨ga, hga⟩ : ∃ g, wr.heap.size = g := ⟨_, rfl⟩
    have HGA := Lib.hid hga
    have HNE : Hid (some ga ≠ (Value.slice io D.length ic).ownBlock) := Lib.hid (by intro e; have := (World.ownsRow.lt HIROW.out ga e.symm).2; omega)
    have y0 : (wr.alloc (.cells #[.int .i64 x, .int .i64 y] 43)).cell? ⟨ga, 0, none⟩ = some (.int .i64 x) := by rw [← hga]; go_simp
    have y1 : (wr.alloc (.cells #[.int .i64 x, .int .i64 y] 43)).cell? ⟨ga, 1, none⟩ = some (.int .i64 y) := by rw [← hga]; go_simp
    have HY0 := Lib.hid y0
    have HY1 := Lib.hid y1
    have HBA := Lib.hid (al1 wr (.cells #[.int .i64 x, .int .i64 y] 43))
    clear y0 y1 hga
    go_wp2_with fail
    try simp only [HGA.out]
    generalize wr.alloc (.cells #[.int .i64 x, .int .i64 y] 43) = Wa at HY0 HY1 HBA ⊢
    clear p0 p1 c0 c1
    go_loopw [8, 9] (fun gv jv wq => ∃ j : Nat, j ≤ k ∧ jv = .int .i64 j ∧ gv = .bool ((x == y) || (l.take j).any (fun b => joined b x y)) ∧ Below Wa.heap.size Wa wq) (fun _ jv _ => k - (intOf jv).toNat)
    case atStart => exact ⟨0, Nat.zero_le _, rfl, by simp, Below.refl _ _⟩
    case round =>
      obtain ⟨j, hjk, rfl, rfl, hBq⟩ := hrel
      rename World => wq
      have hBW : Below wr.heap.size wr wq := HBA.out.trans (hBq.mono HBA.out.size)
      have HROWQ := Lib.hid (own_keep HROW.out hBW)
      have HIROWQ := Lib.hid (own_keep HIROW.out hBW)
      have HD0Q := Lib.hid (dgb_keep HD0.out hBW)
      have HD1Q := Lib.hid (dgb_keep HD1.out hBW)
      have HD2Q := Lib.hid (dgb_keep HD2.out hBW)
      have HBQ := Lib.hid (below_keep hBW HB.out)
      have hszQ : g2 + 1 ≤ wq.heap.size := Nat.le_trans hsz hBW.size
      have z0 := cell_later' hBq HY0.out
      have z1 := cell_later' hBq HY1.out
      have hgaQ : ga < wq.heap.size := World.block_lt_of_cell? wq _ z0
      have HBQQ := Lib.hid hBq
      clear hBW hBq
      obtain ⟨G, hG⟩ : ∃ G, ((x == y) || (l.take j).any (fun b => joined b x y)) = G := ⟨_, rfl⟩
      rw [hG]
      have HG := Lib.hid hG
      clear hG
      by_cases hjl : j < k
      case neg =>
        obtain rfl : j = k := by omega
        have HGG : Hid (gone (l.take j) (x, y) = G) := Lib.hid HG.out
        obtain ⟨d0, d1, d2, d3⟩ := HD2Q.out
        cases G
        case true =>
          have HN1 : Hid (simA [] (l.take (j + 1)) = C) := Lib.hid (by rw [HST.out, HGG.out, if_pos rfl, List.append_nil])
          have HN2 : Hid (simI [] (l.take (j + 1)) 0 = D ++ [-1]) := Lib.hid (by rw [HST2.out, HGG.out, if_pos rfl])
          go_wp2_with (at_builtin; refine app_in rfl (.tmp 53) (.tmp 54) rfl (g2 + 1) _ D (-1) wq.heap.size rfl rfl rfl HIROWQ (by omega) hszQ ?_; intro io6 ic6 w6 hirow6 hgrow6; have hb6 := (Below.refl (g2 + 1) wq).grown hgrow6 hszQ (fun q hq => (World.ownsRow.lt HIROWQ.out q hq).1); have HIROW6 := Lib.hid hirow6; have HROW6 := Lib.hid (World.ownsRow.kept HROWQ.out hgrow6 (own_far HROWQ.out HIROWQ.out (by decide))); have HD26 := Lib.hid (dgb_below hb6 (by omega) HD2Q.out); have HD06 := Lib.hid (dgb_below hb6 (by omega) HD0Q.out); have HD16 := Lib.hid (dgb_below hb6 (by omega) HD1Q.out); have HB6 := Lib.hid (HBQ.out.trans (hb6.mono (by omega))); have HS6 := Lib.hid (Nat.le_trans hszQ hb6.size); clear hgrow6 hb6 hirow6)
          have hlD : (D ++ [(-1 : Int)]).length = D.length + 1 := by simp
          go_roundw
          case rel => exact ⟨j + 1, ao, io6, cap, ic6, C, D ++ [-1], by go_num, by rw [hlD], by omega, HN1.out, HN2.out, HROW6.out, by rw [hlD]; exact HIROW6.out, HD06.out, HD16.out, HD26.out, HB6.out, HS6.out⟩
          case measure => simp [intOf]; omega
        case false =>
          have HN1 : Hid (simA [] (l.take (j + 1)) = C ++ [(x, y)]) := Lib.hid (by rw [HST.out, HGG.out, if_neg (by decide)])
          have HN2 : Hid (simI [] (l.take (j + 1)) 0 = D ++ [(C.length : Int)]) := Lib.hid (by rw [HST2.out, HGG.out, if_neg (by decide)])
          go_wp2_with (first | (at_builtin; refine app_in rfl (.tmp 56) (.tmp 60) rfl (g2 + 1) _ D ((C.length : Int)) wq.heap.size rfl rfl rfl HIROWQ (by omega) hszQ ?_; intro io6 ic6 w6 hirow6 hgrow6; have hb6 := (Below.refl (g2 + 1) wq).grown hgrow6 hszQ (fun q hq => (World.ownsRow.lt HIROWQ.out q hq).1); have HIROW6 := Lib.hid hirow6; have HROW6 := Lib.hid (World.ownsRow.kept HROWQ.out hgrow6 (own_far HROWQ.out HIROWQ.out (by decide))); have HD26 := Lib.hid (dgb_below hb6 (by omega) HD2Q.out); have HD06 := Lib.hid (dgb_below hb6 (by omega) HD0Q.out); have HD16 := Lib.hid (dgb_below hb6 (by omega) HD1Q.out); have HB6 := Lib.hid (HBQ.out.trans (hb6.mono (by omega))); have HS6 := Lib.hid (Nat.le_trans hszQ hb6.size); have z6 := (World.cell?_of_block (hgrow6.block ga hgaQ HNE.out)).trans z0; have z7 := (World.cell?_of_block (hgrow6.block ga hgaQ HNE.out)).trans z1; obtain ⟨f0, f1, f2, f3⟩ := HD26.out; clear hgrow6 hb6 hirow6) | (at_builtin; refine app_ar rfl (.tmp 63) (.tmp 65) rfl (g2 + 1) _ C x y w6.heap.size rfl rfl rfl HROW6 (by omega) HS6.out ?_; intro ao8 cap8 w8 hrow8 hgrow8; have hb8 := (Below.refl (g2 + 1) w6).grown hgrow8 HS6.out (fun q hq => (World.ownsRow.lt HROW6.out q hq).1); have hir8 := World.ownsRow.kept HIROW6.out hgrow8 (own_far HIROW6.out HROW6.out (by decide)); have g8 := dgb_below hb8 (by omega) HD26.out; have HD09 := Lib.hid (dgb_far (d := g2) (o := 1) (u := .slice ao8 (C.length + 1) cap8) (by omega) (dgb_below hb8 (by omega) HD06.out)); have HD19 := Lib.hid (dgb_far (d := g2) (o := 1) (u := .slice ao8 (C.length + 1) cap8) (by omega) (dgb_below hb8 (by omega) HD16.out)); have HD29 := Lib.hid (dgb_set1 ao8 (C.length + 1) cap8 g8); have HB9 := Lib.hid ((HB6.out.trans (hb8.mono (by omega))).setCell (p := ⟨g2, 1, none⟩) (by simp only; omega) (.slice ao8 (C.length + 1) cap8)); have HS9 := Lib.hid (Nat.le_trans HS6.out hb8.size); have HROW9 := Lib.hid (ownsRow_setCell_below (a := ⟨g2, 1, none⟩) hrow8 (by simp) (.slice ao8 (C.length + 1) cap8)); have HIROW9 := Lib.hid (ownsRow_setCell_below (a := ⟨g2, 1, none⟩) hir8 (by simp) (.slice ao8 (C.length + 1) cap8)); clear f0 f1 f2 f3; obtain ⟨h0, h1, h2, h3⟩ := g8; clear hgrow8 hb8 hrow8 hir8))
          have hlC : (C ++ [(x, y)]).length = C.length + 1 := by simp
          have hlD : (D ++ [(C.length : Int)]).length = D.length + 1 := by simp
          go_roundw
          case rel => exact ⟨j + 1, ao8, io6, cap8, ic6, C ++ [(x, y)], D ++ [(C.length : Int)], by go_num, by rw [hlD], by omega, HN1.out, HN2.out, by rw [hlC]; exact HROW9.out, by rw [hlD]; exact HIROW9.out, HD09.out, HD19.out, by rw [hlC]; exact HD29.out, HB9.out, by simpa using HS9.out⟩
          case measure => simp [intOf]; omega
      have hjll : j < l.length := by omega
      obtain ⟨A', eA, p2, p3⟩ := (HL.out.keep HBQ.out).at hjll
      cases eA
      obtain ⟨xj, hxj⟩ : ∃ xj, l[j] = xj := ⟨_, rfl⟩
      have hat := any_take (p := fun b => joined b x y) hjll
      rw [hxj] at p2 p3 hat
      obtain ⟨u, v'⟩ := xj
      simp only at p2 p3 hat
      obtain ⟨R, hR⟩ : ∃ R, joined (u, v') x y = R := ⟨_, rfl⟩
      have HR := Lib.hid hR
      rw [hR] at hat
      have HAT := Lib.hid hat
      obtain ⟨c0, c1, -, -⟩ := HD0Q.out
      have t0 := fun d os => cell_regrown c0 d os
      have t1 := fun d os => cell_regrown c1 d os
      have t2 := fun d os => cell_regrown p2 d os
      have t3 := fun d os => cell_regrown p3 d os
      have t4 := fun d os => cell_regrown z0 d os
      have t5 := fun d os => cell_regrown z1 d os
      have j0 : (0 : Int) ≤ (j : Int) := by omega
      have j1 : (j : Int) < (l.length : Int) := by omega
      have jk : decide ((j : Int) < (k : Int)) = true := decide_eq_true (by omega)
      have cC := fun dd os => Calls.regrown_of (w := wq) (d := dd) (os := os) (rjoined_of (u, v') x y R _ HR)
      clear hat hR hxj c0 c1 p2 p3 z0 z1
      cases G
      case true =>
        have HN : Hid (((x == y) || (l.take (j + 1)).any (fun b => joined b x y)) = true) := Lib.hid (by rw [HAT.out, ← Bool.or_assoc, HG.out]; rfl)
        go_wp2_with fail
        refine wp_region_quiet_below hmx (by kernel_rfl) ?_
        repeat (go_big_quiet_step (with_reducible exact cC _ _))
        refine wpQuiet_nil ?_
        intro _ hw'
        obtain ⟨⟨dq, osq⟩, hw''⟩ := hw'
        subst hw''
        go_wp2
        go_roundw
        case rel => exact ⟨j + 1, by omega, by go_num, by rw [HN.out], below_keep (below_regrown wq dq osq) HBQQ.out⟩
        case measure => simp [intOf]; omega
      case false =>
        have HN : Hid (((x == y) || (l.take (j + 1)).any (fun b => joined b x y)) = R) := Lib.hid (by rw [HAT.out, ← Bool.or_assoc, HG.out]; rfl)
        go_wp2_with fail
        refine wp_region_quiet_below hmx (by kernel_rfl) ?_
        repeat (go_big_quiet_step (with_reducible exact cC _ _))
        refine wpQuiet_nil ?_
        intro _ hw'
        obtain ⟨⟨dq, osq⟩, hw''⟩ := hw'
        subst hw''
        go_wp2
        go_roundw
        case rel => exact ⟨j + 1, by omega, by go_num, by rw [HN.out], below_keep (below_regrown wq dq osq) HBQQ.out⟩
        case measure => simp [intOf]; omega
end Go.Proofs.Ytkmamdlhpbobhaa.dig
