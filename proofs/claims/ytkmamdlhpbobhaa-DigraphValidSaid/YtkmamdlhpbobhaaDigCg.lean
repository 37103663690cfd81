/-
  What Flip of the landed layer 14 returns. Conditions: a digraph and a list in memory.
-/
import Derived.Test.YtkmamdlhpbobhaaDigCf
namespace Go.Proofs.Ytkmamdlhpbobhaa.dig
open Go.RowKit

theorem flip_get (S : List Int) : ∀ (l : List Ar) (i j : Nat), (flipF S i l)[j]? = (l[j]?).map fun a => if S.contains ((i + j : Nat) : Int) = true then turn a else a
  | [], i, j => by simp [flipF]
  | a :: t, i, 0 => by simp [flipF]
  | a :: t, i, j + 1 => by
    rw [flipF, List.getElem?_cons_succ, List.getElem?_cons_succ, flip_get S t (i + 1) j, show i + 1 + j = i + (j + 1) by omega]
/-- One arc more is reversed. -/
theorem flip_more (S : List Int) (l : List Ar) (e : Nat) (he : e < l.length) (hn : S.contains ((e : Nat) : Int) = false) :
    flipF (S ++ [((e : Nat) : Int)]) 0 l = (flipF S 0 l).set e (turn l[e]) ∧ (flipF S 0 l)[e]? = some l[e] := by
  have h0 : (flipF S 0 l)[e]? = some l[e] := by
    rw [flip_get, Nat.zero_add, hn, List.getElem?_eq_getElem he]; rfl
  refine ⟨?_, h0⟩
  apply List.ext_getElem?
  intro j
  rw [List.getElem?_set, flip_get, Nat.zero_add]
  by_cases hj : e = j
  · subst hj
    rw [if_pos rfl, if_pos (by rw [flip_len]; exact he), List.getElem?_eq_getElem he, Option.map_some, if_pos (by
      rw [List.contains_iff_mem]; simp)]
  · rw [if_neg hj, flip_get, Nat.zero_add]
    congr 1
    funext a
    have : (S ++ [((e : Nat) : Int)]).contains ((j : Nat) : Int) = S.contains ((j : Nat) : Int) := by
      rw [Bool.eq_iff_iff, List.contains_iff_mem, List.contains_iff_mem]
      simp; omega
    rw [this]
theorem chosen_at {set : List Int} {N : Int} (h : chosen [] set N = 0) {k : Nat} (hk : k < set.length) : 0 ≤ set[k] ∧ set[k] < N ∧ (set.take k).contains set[k] = false := by
  have e : set = set.take k ++ set[k] :: set.drop (k + 1) := by rw [← List.drop_eq_getElem_cons hk, List.take_append_drop]
  have h2 : chosen [] (set.take k ++ set[k] :: set.drop (k + 1)) N = 0 := by rw [← e]; exact h
  rw [chosen_app] at h2
  by_cases hz : chosen [] (set.take k) N = 0
  · rw [if_pos hz, List.nil_append, chosen] at h2
    by_cases q1 : set[k] < 0 ∨ N ≤ set[k]
    · rw [if_pos q1] at h2; exact absurd h2 (by decide)
    · rw [if_neg q1] at h2
      refine ⟨by omega, by omega, ?_⟩
      cases q2 : (set.take k).contains set[k] with
      | false => rfl
      | true => rw [q2, if_pos rfl] at h2; exact absurd h2 (by decide)
  · rw [if_neg hz] at h2; exact absurd h2 hz
theorem flat_set (y x : Int) : ∀ (l : List Ar) (e : Nat), ((l.flatMap arC).set (e * 2) (.int .i64 y)).set (e * 2 + 1) (.int .i64 x) = (l.set e (y, x)).flatMap arC
  | [], e => by simp
  | a :: t, 0 => by simp [arC]
  | a :: t, e + 1 => by
    have := flat_set y x t e
    rw [List.set_cons_succ, List.flatMap_cons, List.flatMap_cons, ← this, show (e + 1) * 2 = e * 2 + 2 by omega]
    simp [arC]
theorem Arow.put {w : World} {B g cap : Nat} {l : List Ar} (h : Arow w B (.slice (some ⟨g, 0, none⟩) l.length cap) l) (e : Nat) (x y : Int) :
    Arow ((w.setCell ⟨g, e * 2, none⟩ (.int .i64 x)).setCell ⟨g, e * 2 + 1, none⟩ (.int .i64 y)) B (.slice (some ⟨g, 0, none⟩) l.length cap) (l.set e (x, y)) := by
  have h1 := (World.ownsRow.stored h (e * 2) (.int .i64 x)).1
  have h2 := (World.ownsRow.stored h1 (e * 2 + 1) (.int .i64 y)).1
  unfold Arow
  rw [List.length_set, ← flat_set]
  exact h2
theorem Arow.spot {w : World} {B n : Nat} {v : Value} {l : List Ar} (h : Arow w B v l) (hn : n = l.length) (h0 : 0 < n) : ∃ g cap arr, v = .slice (some ⟨g, 0, none⟩) n cap ∧ B ≤ g ∧ blk w g 43 arr ∧ ∀ (e : Nat) (x : Ar), l[e]? = some x → arr[e * 2]? = some (.int .i64 x.1) ∧ arr[e * 2 + 1]? = some (.int .i64 x.2) := by
  subst hn
  obtain ⟨g, cap, arr, rfl, hB, hk, _, _, hx⟩ := own_blk h h0
  refine ⟨g, cap, arr, rfl, hB, hk, fun e x hex => ?_⟩
  obtain ⟨he, hxe⟩ := List.getElem?_eq_some_iff.1 hex
  have h1 := flat_get arC 2 (fun _ => rfl) l e 0 he (by decide)
  have h2 := flat_get arC 2 (fun _ => rfl) l e 1 he (by decide)
  rw [hxe] at h1 h2
  exact ⟨by rw [hx _ (by omega)]; exact h1, by rw [hx _ (by omega)]; exact h2⟩
set_option maxRecDepth 100000 in
set_option maxHeartbeats 8000000 in
theorem cflip_of (v sv : Value) (n m : Int) (l L : List Ar) (set : List Int) (E : Int) (w : World) (h : Hid (DgV w v n l)) (hs : Hid (Ins w sv set)) (hr : Hid (flipE n l set = ((m, L), E))) :
    Calls Try.prog 20 #[v, sv] w (DgEOut m L E w) := by
  have hmx : Try.prog.follows .mixedOrders = true := by kernel_rfl
  obtain ⟨av, rfl, hl⟩ := id h.out
  obtain ⟨lo, lc, rfl, hq1, hq2, -⟩ := id hl
  obtain ⟨so, sc, rfl, hq3, hq4, -⟩ := id hs.out
  unfold maxLen at hq2 hq4
  have hlm : l.length ≤ 9223372036854775807 := by omega
  have hsm : set.length ≤ 9223372036854775807 := by omega
  have HL := Lib.hid hl
  have HV := Lib.hid h.out
  obtain ⟨b, hb⟩ : ∃ b, validD n l = b := ⟨_, rfl⟩
  obtain ⟨ce, hce⟩ : ∃ ce, chosen [] set l.length = ce := ⟨_, rfl⟩
  have hfe := hr.out
  unfold flipE at hfe
  rw [hb, hce] at hfe
  have HVD := Lib.hid hb
  have HCE := Lib.hid hce
  have HFE := Lib.hid hfe
  obtain ⟨W1, hW1⟩ : ∃ W1, w.alloc (.cells #[.int .i64 n, .slice lo l.length lc] 24) = W1 := ⟨_, rfl⟩
  obtain ⟨W2, hW2⟩ : ∃ W2, W1.alloc (.cells #[.int .i64 0, .slice none 0 0] 24) = W2 := ⟨_, rfl⟩
  have s1 : W1.heap.size = w.heap.size + 1 := by rw [← hW1]; simp
  have HD0 : Hid (dgb W2 w.heap.size n (.slice lo l.length lc)) := Lib.hid (by rw [← hW2, ← hW1]; exact dgb_alloc _ (dgb_new ..))
  have HD1 : Hid (dgb W2 (w.heap.size + 1) 0 (.slice none 0 0)) := Lib.hid (by rw [← hW2, ← s1]; exact dgb_new ..)
  have HB : Hid (Below w.heap.size w W2) := Lib.hid (by rw [← hW2, ← hW1]; exact al2 ..)
  have HW1 := Lib.hid hW1
  have HW2 := Lib.hid hW2
  clear h hl hb hce hfe hr hq1 hq2 hq3 hq4 s1 hW1 hW2
  go_enter Try.func20, Try.ntmps20
  go_wp2_with fail
  rw [HW1.out, HW2.out]
  obtain ⟨g0, hg0⟩ : ∃ g, w.heap.size = g := ⟨_, rfl⟩
  have HG0 := Lib.hid hg0
  rw [hg0] at HD0 HD1
  try simp only [hg0]
  clear hg0 HW1 HW2 W1
  refine (cvalid_of _ n l b W2 (Lib.hid (HV.out.keep HB.out)) HVD).mono ?_
  rintro e w2 ⟨rfl, hb2⟩
  have HB2 := Lib.hid (HB.out.trans (hb2.mono HB.out.size))
  have HD0' := Lib.hid (dgb_keep HD0.out hb2)
  have HD1' := Lib.hid (dgb_keep HD1.out hb2)
  clear hb2 HD0 HD1 HB
  obtain ⟨c0, c1, c2, c3⟩ := HD0'.out
  obtain ⟨d0, d1, d2, d3⟩ := HD1'.out
  cases b
  case false =>
    have hf := HFE.out
    rw [if_pos rfl] at hf
    obtain ⟨⟨rfl, rfl⟩, rfl⟩ : (m = 0 ∧ L = []) ∧ E = 1 := by simp only [Prod.mk.injEq] at hf; exact ⟨⟨hf.1.1.symm, hf.1.2.symm⟩, hf.2.symm⟩
    clear hf
    go_wp2
    have r0 : ((w2.setCell ⟨g0 + 1, 0, none⟩ (.int .i64 0)).setCell ⟨g0 + 1, 1, none⟩ (.slice none 0 0)).cell? ⟨g0 + 1, 0, none⟩ = some (.int .i64 0) := by go_simp
    have r1 : ((w2.setCell ⟨g0 + 1, 0, none⟩ (.int .i64 0)).setCell ⟨g0 + 1, 1, none⟩ (.slice none 0 0)).cell? ⟨g0 + 1, 1, none⟩ = some (.slice none 0 0) := by go_simp
    refine bodyPost_ret (v := .tuple #[.agg #[.int .i64 0, .slice none 0 0], .int .i64 1]) (by simp [results, Try.results20, go_sem, r0, r1]) rfl ?_
    exact ⟨_, rfl, ⟨_, rfl, Rw.nil ..⟩, (HB2.out.setCell (by have := HG0.out; simp only; omega) _).setCell (by have := HG0.out; simp only; omega) _⟩
  have hf := HFE.out
  rw [if_neg (by decide)] at hf
  have HFE2 := Lib.hid hf
  have HSI := Lib.hid (hs.out.keep HB2.out)
  have HC1 := Lib.hid c1
  clear hf HFE
  go_wp2_with fail
  clear c0 c1 c2 c3 d0 d1 d2 d3
  refine (cflipsel_of g0 lo l.length lc _ set ce w2 HSI HC1 HCE).mono ?_
  rintro e w3 ⟨rfl, rfl⟩
  obtain ⟨c0, c1, c2, c3⟩ := HD0'.out
  obtain ⟨d0, d1, d2, d3⟩ := HD1'.out
  by_cases hz : ce = 0
  case neg =>
    have hf := HFE2.out
    rw [if_pos hz] at hf
    obtain ⟨⟨rfl, rfl⟩, rfl⟩ : (m = 0 ∧ L = []) ∧ E = ce := by simp only [Prod.mk.injEq] at hf; exact ⟨⟨hf.1.1.symm, hf.1.2.symm⟩, hf.2.symm⟩
    have z0 : (E != 0) = true := by rw [bne_iff_ne]; exact hz
    clear hf hz
    go_wp2
    have r0 : ((w2.setCell ⟨g0 + 1, 0, none⟩ (.int .i64 0)).setCell ⟨g0 + 1, 1, none⟩ (.slice none 0 0)).cell? ⟨g0 + 1, 0, none⟩ = some (.int .i64 0) := by go_simp
    have r1 : ((w2.setCell ⟨g0 + 1, 0, none⟩ (.int .i64 0)).setCell ⟨g0 + 1, 1, none⟩ (.slice none 0 0)).cell? ⟨g0 + 1, 1, none⟩ = some (.slice none 0 0) := by go_simp
    refine bodyPost_ret (v := .tuple #[.agg #[.int .i64 0, .slice none 0 0], .int .i64 E]) (by simp [results, Try.results20, go_sem, r0, r1]) rfl ?_
    exact ⟨_, rfl, ⟨_, rfl, Rw.nil ..⟩, (HB2.out.setCell (by have := HG0.out; simp only; omega) _).setCell (by have := HG0.out; simp only; omega) _⟩
  subst hz
  have hf := HFE2.out
  rw [if_neg (by simp)] at hf
  obtain ⟨⟨rfl, rfl⟩, rfl⟩ : (m = n ∧ L = flipF set 0 l) ∧ E = 0 := by simp only [Prod.mk.injEq] at hf; exact ⟨⟨hf.1.1.symm, hf.1.2.symm⟩, hf.2.symm⟩
  obtain ⟨-, -, h256, -⟩ := validD_iff.1 HVD.out
  have hg1 : g0 + 1 < w2.heap.size := World.block_lt_of_cell? w2 _ HD1'.out.1
  have hgw : w.heap.size ≤ g0 := by rw [HG0.out]; exact Nat.le_refl _
  clear hf HFE2
  go_wp2_with fail
  refine (clonear_of _ l w2 (Lib.hid (HL.out.keep HB2.out)) (by omega)).mono ?_
  rintro e w3 ⟨⟨u, rfl, hrow⟩, hb⟩
  obtain ⟨uo, uc, rfl, -, -⟩ := own_form hrow
  have HROW0 : Hid (Arow w3 w2.heap.size (.slice uo l.length uc) (flipF (set.take 0) 0 l)) := Lib.hid (by
    have : flipF (set.take 0) 0 l = l := by
      apply List.ext_getElem?
      intro j
      rw [flip_get, List.take_zero]
      cases l[j]? <;> rfl
    rw [this]; exact hrow)
  have HB3 := Lib.hid (below_keep hb HB2.out)
  have HE0 := Lib.hid (dgb_keep HD0'.out hb)
  have HE1 := Lib.hid (dgb_keep HD1'.out hb)
  have hsz3 : w2.heap.size ≤ w3.heap.size := hb.size
  obtain ⟨B2, hB2⟩ : ∃ B2, w2.heap.size = B2 := ⟨_, rfl⟩
  rw [hB2] at HROW0 hg1 hsz3
  clear c0 c1 c2 c3 d0 d1 d2 d3 hrow hb HC1 hB2
  go_wp2_with fail
  go_loopw [28] (fun iv wr => ∃ k : Nat, iv = .int .i64 k ∧ k ≤ set.length ∧ Arow wr B2 (.slice uo l.length uc) (flipF (set.take k) 0 l) ∧ dgb wr g0 m (.slice lo l.length lc) ∧ dgb wr (g0 + 1) 0 (.slice none 0 0) ∧ Below w.heap.size w wr ∧ B2 ≤ wr.heap.size) (fun iv _ => set.length - (intOf iv).toNat)
  case atStart => exact ⟨0, rfl, Nat.zero_le _, HROW0.out, HE0.out, HE1.out, HB3.out, hsz3⟩
  case round =>
    obtain ⟨k, rfl, hk, hrow, hd0, hd1, hB, hsz⟩ := hrel
    rename World => wr
    have HROW := Lib.hid hrow
    have HD0 := Lib.hid hd0
    have HD1 := Lib.hid hd1
    have HB := Lib.hid hB
    clear hrow hB HE0 HE1 HB3 HROW0
    by_cases hlt : k < set.length
    case neg =>
      obtain rfl : k = set.length := by omega
      have HR : Hid (flipF (set.take set.length) 0 l = flipF set 0 l) := Lib.hid (by rw [List.take_length])
      obtain ⟨c0, c1, c2, c3⟩ := hd0
      obtain ⟨d0, d1, d2, d3⟩ := hd1
      go_wp2
      have r0 : ((wr.setCell ⟨g0 + 1, 0, none⟩ (.int .i64 m)).setCell ⟨g0 + 1, 1, none⟩ (.slice uo l.length uc)).cell? ⟨g0 + 1, 0, none⟩ = some (.int .i64 m) := by go_simp
      have r1 : ((wr.setCell ⟨g0 + 1, 0, none⟩ (.int .i64 m)).setCell ⟨g0 + 1, 1, none⟩ (.slice uo l.length uc)).cell? ⟨g0 + 1, 1, none⟩ = some (.slice uo l.length uc) := by go_simp
      refine bodyPost_ret (v := .tuple #[.agg #[.int .i64 m, .slice uo l.length uc], .int .i64 0]) (by simp [results, Try.results20, go_sem, r0, r1]) rfl ?_
      refine ⟨_, rfl, ⟨_, rfl, ?_⟩, (HB.out.setCell (by simp only; omega) _).setCell (by simp only; omega) _⟩
      rw [← HR.out]
      exact Arow.ars (ownsRow_setCell_below (ownsRow_setCell_below HROW.out (by simp; omega) _) (by simp; omega) _)
    have hch := chosen_at HCE.out hlt
    obtain ⟨A, rfl, q0⟩ := (hs.out.keep HB.out).at hlt
    have hpt := List.take_succ_eq_append_getElem hlt
    obtain ⟨x, hx⟩ : ∃ x, set[k] = x := ⟨_, rfl⟩
    rw [hx] at hch q0 hpt
    obtain ⟨x0, x1, x2⟩ := hch
    obtain ⟨e, rfl⟩ := Int.eq_ofNat_of_zero_le x0
    have he : e < l.length := by omega
    obtain ⟨hm1, hm2⟩ := flip_more (set.take k) l e he x2
    rw [← hpt] at hm1
    have hlF : (flipF (set.take k) 0 l).length = l.length := flip_len ..
    obtain ⟨g, cap, arr, eu, hgB, hblk, harr⟩ := HROW.out.spot hlF.symm (by omega)
    cases eu
    obtain ⟨a0, a1⟩ := harr e _ hm2
    obtain ⟨z, hz⟩ : ∃ z, l[e] = z := ⟨_, rfl⟩
    rw [hz] at hm1 hm2 a0 a1
    obtain ⟨y0, y1⟩ := z
    simp only at a0 a1
    have HBLK := Lib.hid hblk
    have HM := Lib.hid hm1
    have HA0 := Lib.hid a0
    have HA1 := Lib.hid a1
    have p0 : wr.cell? ⟨g, e * 2, none⟩ = some (.int .i64 y0) := by rw [blk_cell hblk]; exact a0
    have p1 : wr.cell? ⟨g, e * 2 + 1, none⟩ = some (.int .i64 y1) := by rw [blk_cell hblk]; exact a1
    have i0 : (0 : Int) ≤ (k : Int) := by omega
    have i1 : (k : Int) < (set.length : Int) := by omega
    have i2 : (0 : Int) ≤ (e : Int) := by omega
    have i3 : (e : Int) < (l.length : Int) := by omega
    clear hm1 hm2 hx hz hpt x0 x1 x2 hblk harr a0 a1 hd0 hd1
    go_wp2_with fail
    refine (crev_of y0 y1 wr).mono ?_
    rintro e5 w5 ⟨rfl, hb5⟩
    have HB5 := Lib.hid (below_keep hb5 HB.out)
    have HROW5 := Lib.hid (own_keep HROW.out hb5)
    have HD05 := Lib.hid (dgb_keep HD0.out hb5)
    have HD15 := Lib.hid (dgb_keep HD1.out hb5)
    have hk5 := blk_keep hb5 HBLK.out
    have hsz5 : B2 ≤ w5.heap.size := Nat.le_trans hsz hb5.size
    have t0 : w5.cell? ⟨g, e * 2, none⟩ = some (.int .i64 y0) := by rw [blk_cell hk5]; exact HA0.out
    have t1 : w5.cell? ⟨g, e * 2 + 1, none⟩ = some (.int .i64 y1) := by rw [blk_cell hk5]; exact HA1.out
    have t2 : w5.frozen? ⟨g, e * 2, none⟩ = false := blk_free hk5
    have t3 : w5.frozen? ⟨g, e * 2 + 1, none⟩ = false := blk_free hk5
    clear hb5 hk5 p0 p1 HROW HD0 HD1 HB HBLK
    go_wp2
    have HROW6 : Hid (Arow ((w5.setCell ⟨g, e * 2, none⟩ (.int .i64 y1)).setCell ⟨g, e * 2 + 1, none⟩ (.int .i64 y0)) B2 (.slice (some ⟨g, 0, none⟩) l.length uc) (flipF (set.take (k + 1)) 0 l)) := Lib.hid (by
      have h1 := HROW5.out
      rw [← hlF] at h1
      have := Arow.put h1 e y1 y0
      rw [hlF] at this
      rw [HM.out]
      exact this)
    go_roundw
    case rel => exact ⟨k + 1, by go_num, by omega, HROW6.out, dgb_far (by omega) (dgb_far (by omega) HD05.out), dgb_far (by omega) (dgb_far (by omega) HD15.out), (HB5.out.setCell (by simp only; omega) _).setCell (by simp only; omega) _, by simpa using hsz5⟩
    case measure => simp [intOf]; omega
end Go.Proofs.Ytkmamdlhpbobhaa.dig
