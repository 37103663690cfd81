/-
  What Flip of the reference of layer 14 returns. Condition: a digraph of at most 1000000 arcs and a list in memory.
-/
import Derived.Test.YtkmamdlhpbobhaaDigRef3
namespace Go.Proofs.Ytkmamdlhpbobhaa.dig
open Go.RowKit

/-- A digraph and an error that a call leaves. -/
def DgEOut (n : Int) (L : List Ar) (E : Int) (w : World) (e : Ending) (w' : World) : Prop := ∃ v, e = .returned (.tuple #[v, .int .i64 E]) ∧ DgV w' v n L ∧ Below w.heap.size w w'
def flipE (n : Int) (l : List Ar) (set : List Int) : (Int × List Ar) × Int :=
  if validD n l = false then ((0, []), 1) else if chosen [] set l.length ≠ 0 then ((0, []), chosen [] set l.length) else ((n, flipF set 0 l), 0)
set_option maxRecDepth 100000 in
set_option maxHeartbeats 8000000 in
theorem rflip_of (v sv : Value) (n m : Int) (l L : List Ar) (set : List Int) (E : Int) (w : World) (h : Hid (DgV w v n l)) (hs : Hid (Ins w sv set)) (hr : Hid (flipE n l set = ((m, L), E))) :
    Calls Try.prog 21 #[v, sv] w (DgEOut m L E w) := by
  obtain ⟨av, rfl, hl⟩ := id h.out
  obtain ⟨lo, lc, rfl, hq1, hq2, -⟩ := id hl
  obtain ⟨so, sc, rfl, -, -, -⟩ := id hs.out
  unfold maxLen at hq2
  have hlm : l.length ≤ 9223372036854775807 := by omega
  have HL := Lib.hid hl
  have HV := Lib.hid h.out
  obtain ⟨b, hb⟩ : ∃ b, validD n l = b := ⟨_, rfl⟩
  obtain ⟨ce, hce⟩ : ∃ ce, chosen [] set l.length = ce := ⟨_, rfl⟩
  have hfe := hr.out
  unfold flipE at hfe
  rw [hb, hce] at hfe
  have HVD := Lib.hid hb
  have HCE := Lib.hid hce
  have HFE := Lib.hid hfe
  obtain ⟨W1, hW1⟩ : ∃ W1, w.alloc (.cells #[.int .i64 n, .slice lo l.length lc] 24) = W1 := ⟨_, rfl⟩
  obtain ⟨W2, hW2⟩ : ∃ W2, W1.alloc (.cells #[.int .i64 0, .slice none 0 0] 24) = W2 := ⟨_, rfl⟩
  have s1 : W1.heap.size = w.heap.size + 1 := by rw [← hW1]; simp
  have HD0 : Hid (dgb W2 w.heap.size n (.slice lo l.length lc)) := Lib.hid (by rw [← hW2, ← hW1]; exact dgb_alloc _ (dgb_new ..))
  have HD1 : Hid (dgb W2 (w.heap.size + 1) 0 (.slice none 0 0)) := Lib.hid (by rw [← hW2, ← s1]; exact dgb_new ..)
  have HB : Hid (Below w.heap.size w W2) := Lib.hid (by rw [← hW2, ← hW1]; exact al2 ..)
  have HW1 := Lib.hid hW1
  have HW2 := Lib.hid hW2
  clear h hl hb hce hfe hr hq1 hq2 s1 hW1 hW2
  go_enter Try.func21, Try.ntmps21
  go_wp2_with fail
  rw [HW1.out, HW2.out]
  obtain ⟨g0, hg0⟩ : ∃ g, w.heap.size = g := ⟨_, rfl⟩
  have HG0 := Lib.hid hg0
  rw [hg0] at HD0 HD1
  try simp only [hg0]
  clear hg0 HW1 HW2 W1
  refine (rvalid_of _ n l b W2 (Lib.hid (HV.out.keep HB.out)) HVD).mono ?_
  rintro e w2 ⟨rfl, hb2⟩
  have HB2 := Lib.hid (HB.out.trans (hb2.mono HB.out.size))
  have HD0' := Lib.hid (dgb_keep HD0.out hb2)
  have HD1' := Lib.hid (dgb_keep HD1.out hb2)
  clear hb2 HD0 HD1 HB
  obtain ⟨c0, c1, c2, c3⟩ := HD0'.out
  obtain ⟨d0, d1, d2, d3⟩ := HD1'.out
  cases b
  case false =>
    have hf := HFE.out
    rw [if_pos rfl] at hf
    obtain ⟨⟨rfl, rfl⟩, rfl⟩ : (m = 0 ∧ L = []) ∧ E = 1 := by simp only [Prod.mk.injEq] at hf; exact ⟨⟨hf.1.1.symm, hf.1.2.symm⟩, hf.2.symm⟩
    clear hf
    go_wp2
    have r0 : ((w2.setCell ⟨g0 + 1, 0, none⟩ (.int .i64 0)).setCell ⟨g0 + 1, 1, none⟩ (.slice none 0 0)).cell? ⟨g0 + 1, 0, none⟩ = some (.int .i64 0) := by go_simp
    have r1 : ((w2.setCell ⟨g0 + 1, 0, none⟩ (.int .i64 0)).setCell ⟨g0 + 1, 1, none⟩ (.slice none 0 0)).cell? ⟨g0 + 1, 1, none⟩ = some (.slice none 0 0) := by go_simp
    refine bodyPost_ret (v := .tuple #[.agg #[.int .i64 0, .slice none 0 0], .int .i64 1]) (by simp [results, Try.results21, go_sem, r0, r1]) rfl ?_
    exact ⟨_, rfl, ⟨_, rfl, Rw.nil ..⟩, (HB2.out.setCell (by have := HG0.out; simp only; omega) _).setCell (by have := HG0.out; simp only; omega) _⟩
  have hf := HFE.out
  rw [if_neg (by decide)] at hf
  have HFE2 := Lib.hid hf
  have HSI := Lib.hid (hs.out.keep HB2.out)
  clear hf HFE
  go_wp2_with fail
  clear c0 c1 c2 c3 d0 d1 d2 d3
  refine (rchosen_of _ set l.length ce w2 HSI HCE).mono ?_
  rintro e w3 ⟨rfl, hb3⟩
  have HB3 := Lib.hid (HB2.out.trans (hb3.mono HB2.out.size))
  have HD0 := Lib.hid (dgb_keep HD0'.out hb3)
  have HD1 := Lib.hid (dgb_keep HD1'.out hb3)
  have HSJ := Lib.hid (HSI.out.keep hb3)
  clear hb3 HD0' HD1' HB2 HSI
  obtain ⟨c0, c1, c2, c3⟩ := HD0.out
  obtain ⟨d0, d1, d2, d3⟩ := HD1.out
  by_cases hz : ce = 0
  case neg =>
    have hf := HFE2.out
    rw [if_pos hz] at hf
    obtain ⟨⟨rfl, rfl⟩, rfl⟩ : (m = 0 ∧ L = []) ∧ E = ce := by simp only [Prod.mk.injEq] at hf; exact ⟨⟨hf.1.1.symm, hf.1.2.symm⟩, hf.2.symm⟩
    have z0 : (E != 0) = true := by rw [bne_iff_ne]; exact hz
    clear hf hz
    go_wp2
    have r0 : ((w3.setCell ⟨g0 + 1, 0, none⟩ (.int .i64 0)).setCell ⟨g0 + 1, 1, none⟩ (.slice none 0 0)).cell? ⟨g0 + 1, 0, none⟩ = some (.int .i64 0) := by go_simp
    have r1 : ((w3.setCell ⟨g0 + 1, 0, none⟩ (.int .i64 0)).setCell ⟨g0 + 1, 1, none⟩ (.slice none 0 0)).cell? ⟨g0 + 1, 1, none⟩ = some (.slice none 0 0) := by go_simp
    refine bodyPost_ret (v := .tuple #[.agg #[.int .i64 0, .slice none 0 0], .int .i64 E]) (by simp [results, Try.results21, go_sem, r0, r1]) rfl ?_
    exact ⟨_, rfl, ⟨_, rfl, Rw.nil ..⟩, (HB3.out.setCell (by have := HG0.out; simp only; omega) _).setCell (by have := HG0.out; simp only; omega) _⟩
  subst hz
  have hf := HFE2.out
  rw [if_neg (by simp)] at hf
  obtain ⟨⟨rfl, rfl⟩, rfl⟩ : (m = n ∧ L = flipF set 0 l) ∧ E = 0 := by simp only [Prod.mk.injEq] at hf; exact ⟨⟨hf.1.1.symm, hf.1.2.symm⟩, hf.2.symm⟩
  obtain ⟨-, -, h256, -⟩ := validD_iff.1 HVD.out
  have hg1 : g0 + 1 < w3.heap.size := World.block_lt_of_cell? w3 _ HD1.out.1
  have hgw : w.heap.size ≤ g0 := by rw [HG0.out]; exact Nat.le_refl _
  clear hf HFE2
  go_wp2_with fail
  obtain ⟨g2, hg2⟩ : ∃ g, w3.heap.size = g := ⟨_, rfl⟩
  have HD2 : Hid (dgb (w3.alloc (.cells #[.int .i64 m, .slice none 0 0] 24)) w3.heap.size m (.slice none 0 0)) := Lib.hid (dgb_new ..)
  have HB4 := Lib.hid (below_keep (al1 w3 (.cells #[.int .i64 m, .slice none 0 0] 24)) HB3.out)
  have HD04 := Lib.hid (dgb_alloc (.cells #[.int .i64 m, .slice none 0 0] 24) HD0.out)
  have HD14 := Lib.hid (dgb_alloc (.cells #[.int .i64 m, .slice none 0 0] 24) HD1.out)
  have HSZ : Hid (w3.heap.size + 1 ≤ (w3.alloc (.cells #[.int .i64 m, .slice none 0 0] 24)).heap.size) := Lib.hid (by simp)
  rw [hg2] at HD2 HSZ hg1
  try simp only [hg2]
  clear c0 c1 c2 c3 d0 d1 d2 d3 HD0 HD1
  generalize w3.alloc (.cells #[.int .i64 m, .slice none 0 0] 24) = w4 at HD2 HB4 HD04 HD14 HSZ ⊢
  go_loopw [8] (fun iv wr => ∃ (k : Nat) (ao : Option Addr) (cap : Nat) (C : List Ar), iv = .int .i64 k ∧ k ≤ l.length ∧ flipF set 0 (l.take k) = C ∧ C.length = k ∧ Arow wr (g2 + 1) (.slice ao k cap) C ∧ dgb wr g0 m (.slice lo l.length lc) ∧ dgb wr (g0 + 1) 0 (.slice none 0 0) ∧ dgb wr g2 m (.slice ao k cap) ∧ Below w.heap.size w wr ∧ g2 + 1 ≤ wr.heap.size) (fun iv _ => l.length - (intOf iv).toNat)
  case atStart => exact ⟨0, none, 0, [], rfl, Nat.zero_le _, rfl, rfl, own_nil _ _ _ _, HD04.out, HD14.out, HD2.out, HB4.out, HSZ.out⟩
  case round =>
    obtain ⟨k, ao, cap, C, rfl, hk, hC, hCl, hrow, hd0, hd1, hd2, hB, hsz⟩ := hrel
    rename World => wr
    have HROW := Lib.hid hrow
    have HC := Lib.hid hC
    have HD0 := Lib.hid hd0
    have HD1 := Lib.hid hd1
    have HD2 := Lib.hid hd2
    have HB := Lib.hid hB
    obtain ⟨c0, c1, -, -⟩ := hd0
    obtain ⟨d0, d1, d2, d3⟩ := hd2
    clear hrow hC hB HD04 HD14 HB4
    by_cases hlt : k < l.length
    case neg =>
      obtain rfl : k = l.length := by omega
      have HC2 : Hid (C = flipF set 0 l) := Lib.hid (by rw [← HC.out, List.take_length])
      obtain ⟨e0, e1, e2, e3⟩ := hd1
      go_wp2
      have r0 : (wr.setCell ⟨g0 + 1, 0, none⟩ (.int .i64 m)).cell? ⟨g0 + 1, 0, none⟩ = some (.int .i64 m) := by go_simp
      have r1 : ((wr.setCell ⟨g0 + 1, 0, none⟩ (.int .i64 m)).setCell ⟨g0 + 1, 1, none⟩ (.slice ao l.length cap)).cell? ⟨g0 + 1, 1, none⟩ = some (.slice ao l.length cap) := by go_simp
      refine bodyPost_ret (v := .tuple #[.agg #[.int .i64 m, .slice ao l.length cap], .int .i64 0]) (by simp [results, Try.results21, go_sem, r0, r1]) rfl ?_
      refine ⟨_, rfl, ⟨_, rfl, ?_⟩, (HB.out.setCell (by simp only; omega) _).setCell (by simp only; omega) _⟩
      have HROW2 := HROW.out
      rw [← hCl] at HROW2
      rw [← HC2.out, ← hCl]
      exact Arow.ars (ownsRow_setCell_below (ownsRow_setCell_below HROW2 (by simp; omega) _) (by simp; omega) _)
    obtain ⟨A, rfl, p0, p1⟩ := (HL.out.keep HB.out).at hlt
    have hst := flip_take set (i := 0) hlt
    obtain ⟨x, hx⟩ : ∃ x, l[k] = x := ⟨_, rfl⟩
    rw [hx] at p0 p1 hst
    rw [HC.out] at hst
    obtain ⟨x, y⟩ := x
    simp only at p0 p1
    have HST := Lib.hid hst
    obtain ⟨b, hb⟩ : ∃ b, set.contains (k : Int) = b := ⟨_, rfl⟩
    have HBC := Lib.hid hb
    have i0 : (0 : Int) ≤ (k : Int) := by omega
    have i1 : (k : Int) < (l.length : Int) := by omega
    have hgl : g2 < wr.heap.size := by omega
    have hgl0 : g0 < wr.heap.size := by omega
    clear hst hx hb hd1
    go_wp2_with fail
    refine (rhas_of _ set (k : Int) b _ (Lib.hid ((hs.out.keep HB.out).keep (al1 wr _))) HBC).mono ?_
    rintro e w' ⟨rfl, rfl⟩
    cases b
    case false =>
      have hbW : Below wr.heap.size wr (wr.alloc (.cells #[.int .i64 x, .int .i64 y] 43)) := al1 wr _
      have HR2 : Hid (Arow (wr.alloc (.cells #[.int .i64 x, .int .i64 y] 43)) (g2 + 1) (.slice ao C.length cap) C) := Lib.hid (by have := own_keep HROW.out hbW; rwa [← hCl] at this)
      have hbG := hbW.mono hsz
      have HBG := Lib.hid hbG
      have HSTN : Hid (flipF set 0 (l.take (k + 1)) = C ++ [(x, y)]) := Lib.hid (by rw [HST.out]; have := HBC.out; simp only [Nat.zero_add]; rw [this]; rfl)
      have hszW : (wr.alloc (.cells #[.int .i64 x, .int .i64 y] 43)).heap.size = wr.heap.size + 1 := by simp
      clear hbW hbG
      go_wp2_with (at_builtin; refine app_ar rfl (.tmp 47) (.tmp 49) rfl (g2 + 1) _ C x y (wr.heap.size + 1) (by simp) (by rw [hCl]; rfl) rfl HR2 (by omega) (by simp; omega) ?_; intro ao4 cap4 w4 hrow4 hgrow4; have hb4 := HBG.out.grown hgrow4 (by simp; omega) (fun q hq => (World.ownsRow.lt HR2.out q hq).1); have HROW4 := Lib.hid hrow4; have g4 := dgb_below hb4 (by omega) HD2.out; have HD04 := Lib.hid (dgb_below hb4 (by omega) HD0.out); have HD14 := Lib.hid (dgb_below hb4 (by omega) HD1.out); have HD24 := Lib.hid g4; have HB4 := Lib.hid (HB.out.trans (hb4.mono (by omega))); have HS4 := Lib.hid (Nat.le_trans hsz hb4.size); obtain ⟨e0, e1, e2, e3⟩ := g4; clear hgrow4 hb4 hrow4)
      rw [hCl] at HROW4
      go_roundw
      case rel => exact ⟨k + 1, ao4, cap4, _, by go_num, by omega, HSTN.out, by simp [hCl], ownsRow_setCell_below HROW4.out (by simp) _, dgb_far (by omega) HD04.out, dgb_far (by omega) HD14.out, dgb_set1 _ _ _ HD24.out, HB4.out.setCell (by simp; omega) _, by simpa using HS4.out⟩
      case measure => simp [intOf]; omega
    case true =>
      have hbW : Below wr.heap.size wr (wr.alloc (.cells #[.int .i64 y, .int .i64 x] 43)) := al1 wr _
      have HR2 : Hid (Arow (wr.alloc (.cells #[.int .i64 y, .int .i64 x] 43)) (g2 + 1) (.slice ao C.length cap) C) := Lib.hid (by have := own_keep HROW.out hbW; rwa [← hCl] at this)
      have hbG := hbW.mono hsz
      have HBG := Lib.hid hbG
      have HSTN : Hid (flipF set 0 (l.take (k + 1)) = C ++ [(y, x)]) := Lib.hid (by rw [HST.out]; have := HBC.out; simp only [Nat.zero_add]; rw [this]; rfl)
      have hszW : (wr.alloc (.cells #[.int .i64 y, .int .i64 x] 43)).heap.size = wr.heap.size + 1 := by simp
      clear hbW hbG
      go_wp2_with (at_builtin; refine app_ar rfl (.tmp 47) (.tmp 49) rfl (g2 + 1) _ C y x (wr.heap.size + 1) (by simp) (by rw [hCl]; rfl) rfl HR2 (by omega) (by simp; omega) ?_; intro ao4 cap4 w4 hrow4 hgrow4; have hb4 := HBG.out.grown hgrow4 (by simp; omega) (fun q hq => (World.ownsRow.lt HR2.out q hq).1); have HROW4 := Lib.hid hrow4; have g4 := dgb_below hb4 (by omega) HD2.out; have HD04 := Lib.hid (dgb_below hb4 (by omega) HD0.out); have HD14 := Lib.hid (dgb_below hb4 (by omega) HD1.out); have HD24 := Lib.hid g4; have HB4 := Lib.hid (HB.out.trans (hb4.mono (by omega))); have HS4 := Lib.hid (Nat.le_trans hsz hb4.size); obtain ⟨e0, e1, e2, e3⟩ := g4; clear hgrow4 hb4 hrow4)
      rw [hCl] at HROW4
      go_roundw
      case rel => exact ⟨k + 1, ao4, cap4, _, by go_num, by omega, HSTN.out, by simp [hCl], ownsRow_setCell_below HROW4.out (by simp) _, dgb_far (by omega) HD04.out, dgb_far (by omega) HD14.out, dgb_set1 _ _ _ HD24.out, HB4.out.setCell (by simp; omega) _, by simpa using HS4.out⟩
      case measure => simp [intOf]; omega
end Go.Proofs.Ytkmamdlhpbobhaa.dig
