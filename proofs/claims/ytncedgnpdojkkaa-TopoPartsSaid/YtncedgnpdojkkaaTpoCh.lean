/-
  What heads and tails of the landed code of layer 15 return. Condition: a valid digraph in memory.
-/
import Derived.Test.YtncedgnpdojkkaaTpoCm
import Derived.Test.YtncedgnpdojkkaaDrn
namespace Go.Proofs.Ytncedgnpdojkkaa.tpo
open Go.RowKit dig xpt


set_option maxRecDepth 100000 in
set_option maxHeartbeats 8000000 in
theorem cheads_of (v : Value) (m : Nat) (l : List Ar) (w : World) (h : Hid (DgV w v (m : Int) l)) (hvd : Hid (validD (m : Int) l = true)) :
    Calls Try.prog 23 #[v] w (MrfOut (outsL (l) m) w) := by
  have hmx : Try.prog.follows .mixedOrders = true := by kernel_rfl
  obtain ⟨av, rfl, hl⟩ := id h.out
  obtain ⟨lo, lc, rfl, -, -, -⟩ := id hl
  obtain ⟨h0, h64, h256, hok⟩ := validD_iff.1 hvd.out
  have HL := Lib.hid hl
  have HOK := Lib.hid hok
  have HB1 := Lib.hid (al1 w (.cells #[.int .i64 (m : Int), .slice lo l.length lc] 24))
  have HK1 := Lib.hid (dgb_new w (m : Int) lo l.length lc 24)
  obtain ⟨W1, hW1⟩ : ∃ W1, w.alloc (.cells #[.int .i64 (m : Int), .slice lo l.length lc] 24) = W1 := ⟨_, rfl⟩
  have HW1 := Lib.hid hW1
  rw [hW1] at HB1 HK1
  clear h hl hvd hok hW1
  go_enter Try.func23, Try.ntmps23
  obtain ⟨i0, hi, hz0, hz1, hz2⟩ := info_of_ci
  have hbm : i0.bytes * m ≤ 281474976710656 := by rw [hz2]; omega
  have hmm : m ≤ maxLen := by unfold maxLen; omega
  go_wp2_with (at_make; rw [HW1.out]; refine wpList_make_full _ rfl _ _ 34 rfl W1.heap.size 25 i0 (.slice none 0 0) 1 Try.underlying34 hi hz0 hz1 .i64 .i64 _ _ m rfl rfl rfl rfl hbm hmm (Nat.le_refl _) ?_; intro w3 hown hgrow; have hrow0 := Hrow.start hown; have hb3 := (Below.refl W1.heap.size W1).grown hgrow (Nat.le_refl _) (fun q hq => by cases hq); have HKX := dgb_keep HK1.out hb3; obtain ⟨c0, c1, -, -⟩ := id HKX)
  obtain ⟨g0, hg0⟩ : ∃ g, w.heap.size = g := ⟨_, rfl⟩
  have HG0 := Lib.hid hg0
  have hg1 : g0 < W1.heap.size := World.block_lt_of_cell? W1 ⟨g0, 0, none⟩ (by rw [← hg0]; exact HK1.out.1)
  have hgw : w.heap.size ≤ g0 := by rw [HG0.out]; exact Nat.le_refl _
  obtain ⟨B2, hB2⟩ : ∃ B2, W1.heap.size = B2 := ⟨_, rfl⟩
  have HSZ : Hid (W1.heap.size = B2) := Lib.hid hB2
  rw [hB2] at hg1
  rw [← outsL_zero] at hrow0
  have HROW0 := Lib.hid hrow0
  have HB3 := Lib.hid (below_keep hb3 HB1.out)
  clear hrow0 hb3 hown hgrow HK1 HKX hB2 hg0 HW1
  simp only [HSZ.out] at HROW0 ⊢
  clear c0 c1 HSZ
  go_loopw [12] (fun iv wr => ∃ (k : Nat) (vs : List Value), iv = .int .i64 k ∧ k ≤ l.length ∧ Hrow wr B2 B2 m (outsL (l.take k) m) vs ∧ Below w.heap.size w wr) (fun iv _ => l.length - (intOf iv).toNat)
  case atStart => exact ⟨0, _, rfl, Nat.zero_le _, HROW0.out, HB3.out⟩
  case round =>
    obtain ⟨k, vs, rfl, hk, hrow, hB⟩ := hrel
    rename World => wr
    have HROW := Lib.hid hrow
    have HB := Lib.hid hB
    clear hrow hB HROW0 HB3
    by_cases hlt : k < l.length
    case neg =>
      obtain rfl : k = l.length := by omega
      have e3 : ¬ (l.length : Int) < (l.length : Int) := by omega
      have HR := HROW.out
      rw [List.take_length] at HR
      go_wp2
      go_ret
      exact ⟨_, rfl, HR.mrow.lst, fun A n c e hn => by obtain ⟨f1, f2⟩ := HR.mrow.fresh A n c e hn; exact ⟨by omega, fun k hk A2 n2 c2 q hn2 => by have := f2 k hk A2 n2 c2 q hn2; omega⟩, HB.out⟩
    have hst : ∀ u : Nat, (l)[k]'(by exact hlt) = ((u : Int), l[k].2) → outsL (l.take (k + 1)) m = (outsL (l.take k) m).set u (outs (l.take k) u ++ [l[k].2]) := fun u hu => by
      have := outsL_step (l := l) (n := m) (k := k) (u := u) (by exact hlt) (by rw [hu])
      rw [hu] at this
      exact this
    obtain ⟨hy0, hy1, hy2, hy3⟩ := okA_iff.1 (HOK.out _ (List.getElem_mem hlt))
    obtain ⟨A, rfl, p0, p1⟩ := (HL.out.keep HB.out).at hlt
    obtain ⟨y, hy⟩ : ∃ y, l[k] = y := ⟨_, rfl⟩
    have hgt : (l)[k]'(by exact hlt) = (l[k].1, l[k].2) := by rfl
    rw [hgt] at hst
    rw [hy] at p0 p1 hst hy0 hy1 hy2 hy3
    obtain ⟨y0, y1⟩ := y
    simp only at p0 p1 hy0 hy1 hy2 hy3 hst
    clear hy hgt
    obtain ⟨yi, rfl⟩ := Int.eq_ofNat_of_zero_le (show 0 ≤ y0 by omega)
    have him : yi < m := by omega
    have hst2 := hst yi rfl
    obtain ⟨u, xs, hu, hx, r0, hir⟩ := HROW.out.at him
    have r1 := HROW.out.row.free yi
    have hxe := hx
    rw [outsL_at him] at hxe
    replace hxe := Option.some.inj hxe
    rw [hxe] at hst2
    have hxl : xs.length ≤ 256 := by rw [← hxe]; exact Nat.le_trans (outs_len _ _) (by rw [List.length_take]; omega)
    have HST := Lib.hid hst2
    have HU := Lib.hid hu
    have HX := Lib.hid hx
    have HIR := Lib.hid hir
    clear hst hst2 hu hx hxe hir
    have i0 : (0 : Int) ≤ (k : Int) := by omega
    have i1 : (k : Int) < (l.length : Int) := by omega
    have e3 : (k : Int) < (l.length : Int) := i1
    have z0 : (0 : Int) ≤ (yi : Int) := by omega
    have z1 : (yi : Int) < (m : Int) := by omega
    obtain ⟨yx, rfl⟩ : ∃ yx, yx = y1 := ⟨_, rfl⟩
    obtain ⟨wb, hwb⟩ : ∃ wb, wr.alloc (.cells #[.int .i64 (yi : Int), .int .i64 yx] 37) = wb := ⟨_, rfl⟩
    have HWB := Lib.hid hwb
    have hb := al1 wr (.cells #[.int .i64 (yi : Int), .int .i64 yx] 37)
    rw [hwb] at hb
    have t0 : wb.cell? ⟨wr.heap.size, 0, none⟩ = some (.int .i64 (yi : Int)) := by rw [← hwb, blk_cell (blk_new ..)]; rfl
    have t1 : wb.cell? ⟨wr.heap.size, 1, none⟩ = some (.int .i64 yx) := by rw [← hwb, blk_cell (blk_new ..)]; rfl
    have HBb := Lib.hid (below_keep hb HB.out)
    have HRb := Lib.hid (HROW.out.keep hb)
    have HIb := Lib.hid (own_keep HIR.out hb)
    have hua : ∀ q, u.ownBlock = some q → q < wr.heap.size := fun q hq => (World.ownsRow.lt HIR.out q hq).2
    have r0 := cell_later' hb r0
    have r1 := fr_keep hb (HROW.out.at him).choose_spec.choose_spec.2.2.1 r1
    have HSb : Hid (B2 ≤ wr.heap.size) := Lib.hid (by obtain ⟨arr, hh⟩ := HROW.out.blk; have := blk_lt hh; omega)
    have hsb := hb.size
    clear hb HB HROW HIR hwb
    go_wp2_with fail
    rw [HWB.out]
    obtain ⟨ga, hga⟩ : ∃ g, wr.heap.size = g := ⟨_, rfl⟩
    rw [hga] at t0 t1 hua HSb hsb
    try simp only [hga]
    clear HWB hga p0 p1
    refine tstart (fun W : World => W.cell? ⟨ga, 0, none⟩ = some (.int .i64 (yi : Int)) ∧ W.cell? ⟨ga, 1, none⟩ = some (.int .i64 yx) ∧ W.cell? ⟨B2, yi, none⟩ = some u ∧ W.frozen? ⟨B2, yi, none⟩ = false) 13 (by kernel_rfl) ⟨cell_later' (b_drew wb) t0, cell_later' (b_drew wb) t1, cell_later' (b_drew wb) r0, r1⟩ (fun hHeld => ?_)
    have hbd := b_drew wb
    have HBD := Lib.hid (below_keep hbd HBb.out)
    have HRD := Lib.hid (HRb.out.keep hbd)
    have hsd : ga ≤ wb.drew.heap.size := Nat.le_trans hsb hbd.size
    have HID : Hid (Irow wb.drew B2 u xs) := Lib.hid (own_keep HIb.out hbd)
    replace hHeld : (fun W : World => W.cell? ⟨ga, 0, none⟩ = some (.int .i64 (yi : Int)) ∧ W.cell? ⟨ga, 1, none⟩ = some (.int .i64 yx) ∧ W.cell? ⟨B2, yi, none⟩ = some u ∧ W.frozen? ⟨B2, yi, none⟩ = false) wb.drew := hHeld
    clear hbd HBb HRb HIb hsb t0 t1 r0 r1
    generalize wb.drew = wd at HBD HRD HID hsd hHeld ⊢
    have HSD := Lib.hid hHeld
    refine ton 0 16 (.slice (some ⟨B2, 0, none⟩) m m) ?_
    try simp only [List.setIfInBounds_toArray, List.set_cons_zero, List.set_cons_succ]
    refine ton 1 17 (.pointer (some ⟨ga, 0, none⟩)) ?_
    try simp only [List.setIfInBounds_toArray, List.set_cons_zero, List.set_cons_succ]
    refine ton 2 18 (.int .i64 (yi : Int)) ?_
    try simp only [List.setIfInBounds_toArray, List.set_cons_zero, List.set_cons_succ]
    refine ton 3 19 (.slice (some ⟨B2, 0, none⟩) m m) ?_
    try simp only [List.setIfInBounds_toArray, List.set_cons_zero, List.set_cons_succ]
    refine ton 4 20 (.pointer (some ⟨ga, 0, none⟩)) ?_
    try simp only [List.setIfInBounds_toArray, List.set_cons_zero, List.set_cons_succ]
    refine ton 5 21 (.int .i64 (yi : Int)) ?_
    try simp only [List.setIfInBounds_toArray, List.set_cons_zero, List.set_cons_succ]
    refine ton 6 22 (.pointer (some ⟨B2, yi, none⟩)) ?_
    try simp only [List.setIfInBounds_toArray, List.set_cons_zero, List.set_cons_succ]
    refine ton 7 23 u ?_
    try simp only [List.setIfInBounds_toArray, List.set_cons_zero, List.set_cons_succ]
    refine ton 8 24 (.pointer (some ⟨ga, 1, none⟩)) ?_
    try simp only [List.setIfInBounds_toArray, List.set_cons_zero, List.set_cons_succ]
    refine ton 9 25 (.int .i64 yx) ?_
    try simp only [List.setIfInBounds_toArray, List.set_cons_zero, List.set_cons_succ]
    refine tgo (i := 10) (by kernel_rfl) rfl (fun K hK => ?_)
    go_simp
    refine hK.out _ _ (fun _ => (by obtain ⟨k0, k1, k2, k3⟩ := hHeld; exact ⟨cell_later' (al1 ..) k0, cell_later' (al1 ..) k1, cell_later' (al1 ..) k2, fr_keep (al1 ..) k2 k3⟩)) (fun hHeld => ?_)
    replace hHeld := hHeld (by decide)
    clear hK K
    try simp only [List.setIfInBounds_toArray, List.set_cons_zero, List.set_cons_succ]
    refine tgo (i := 11) (by kernel_rfl) rfl (fun K hK => ?_)
    refine app_ilS rfl (.tmp 23) (.tmp 26) rfl B2 u xs yx wd.heap.size rfl rfl rfl HID (by omega) (by have := HSb.out; omega) ?_
    intro q cap w6 hrow6 hgrow6 hli6
    obtain ⟨k0, k1, k2, k3⟩ := id hHeld
    have hS6 : (fun W : World => W.cell? ⟨ga, 0, none⟩ = some (.int .i64 (yi : Int)) ∧ W.cell? ⟨ga, 1, none⟩ = some (.int .i64 yx) ∧ W.cell? ⟨B2, yi, none⟩ = some u ∧ W.frozen? ⟨B2, yi, none⟩ = false) w6 := by
      obtain ⟨arr, hbl⟩ := HRD.out.blk
      have hne : some B2 ≠ u.ownBlock := fun e => by
        rcases own_far HID.out HRD.out.row.2 (by decide) with q1 | q1
        · rw [q1] at e; cases e
        · exact q1 e.symm
      have hna : some ga ≠ u.ownBlock := fun e => by have := hua ga e.symm; omega
      obtain ⟨j0, j1, j2, j3⟩ := HSD.out
      refine ⟨hgrow6.cell j0 hna, hgrow6.cell j1 hna, hgrow6.cell j2 hne, ?_⟩
      rw [World.frozen?_of_block (hgrow6.block B2 (World.block_lt_of_cell? wd _ j2) hne)]; exact j3
    refine hK.out _ _ (fun _ => hS6) (fun hHeld => ?_)
    replace hHeld := hHeld (by decide)
    have HGR := Lib.hid hgrow6
    have HRW6 := Lib.hid hrow6
    have HLI6 := Lib.hid hli6
    obtain ⟨-, -, k2, k3⟩ := hS6
    clear hK K hgrow6 hrow6 hli6 k0 k1 HSD
    try simp only [List.setIfInBounds_toArray, List.set_cons_zero, List.set_cons_succ]
    refine ton 12 28 (.pointer (some ⟨B2, yi, none⟩)) ?_
    try simp only [List.setIfInBounds_toArray, List.set_cons_zero, List.set_cons_succ]
    refine tgo (i := 13) (by kernel_rfl) rfl (fun K hK => ?_)
    go_simp
    refine hK.out _ _ (fun h => absurd rfl h) (fun hHeld => ?_)
    clear hK K hHeld k2 k3
    try simp only [List.setIfInBounds_toArray, List.set_cons_zero, List.set_cons_succ]
    refine tdone (by kernel_rfl) ?_ _
    have hl6 : (xs ++ [yx]).length = xs.length + 1 := by simp
    have hrw := HRW6.out
    rw [← hl6] at hrw
    have HN := Lib.hid (Hrow.app HRD.out HU.out HX.out HGR.out hrw HLI6.out)
    have HB6 := Lib.hid (((HBD.out.trans ((Below.refl wd.heap.size wd).mono HBD.out.size)).grown HGR.out (Nat.le_trans HBD.out.size (Nat.le_refl _)) (fun q hq => by have := (World.ownsRow.lt HID.out q hq).1; omega)).setCell (p := ⟨B2, yi, none⟩) (by simp only; omega) (.slice (some ⟨q, 0, none⟩) (xs ++ [yx]).length cap))
    replace HN := Lib.hid HN.out
    rw [hl6] at HN HB6
    go_wp2
    go_roundw
    case rel => exact ⟨k + 1, _, by go_num, by omega, by rw [HST.out]; exact HN.out, HB6.out⟩
    case measure => simp [intOf]; omega

set_option maxRecDepth 100000 in
set_option maxHeartbeats 8000000 in
theorem ctails_of (v : Value) (m : Nat) (l : List Ar) (w : World) (h : Hid (DgV w v (m : Int) l)) (hvd : Hid (validD (m : Int) l = true)) :
    Calls Try.prog 27 #[v] w (MrfOut (outsL (flipL l) m) w) := by
  have hmx : Try.prog.follows .mixedOrders = true := by kernel_rfl
  obtain ⟨av, rfl, hl⟩ := id h.out
  obtain ⟨lo, lc, rfl, -, -, -⟩ := id hl
  obtain ⟨h0, h64, h256, hok⟩ := validD_iff.1 hvd.out
  have HL := Lib.hid hl
  have HOK := Lib.hid hok
  have HB1 := Lib.hid (al1 w (.cells #[.int .i64 (m : Int), .slice lo l.length lc] 24))
  have HK1 := Lib.hid (dgb_new w (m : Int) lo l.length lc 24)
  obtain ⟨W1, hW1⟩ : ∃ W1, w.alloc (.cells #[.int .i64 (m : Int), .slice lo l.length lc] 24) = W1 := ⟨_, rfl⟩
  have HW1 := Lib.hid hW1
  rw [hW1] at HB1 HK1
  clear h hl hvd hok hW1
  go_enter Try.func27, Try.ntmps27
  obtain ⟨i0, hi, hz0, hz1, hz2⟩ := info_of_ci
  have hbm : i0.bytes * m ≤ 281474976710656 := by rw [hz2]; omega
  have hmm : m ≤ maxLen := by unfold maxLen; omega
  go_wp2_with (at_make; rw [HW1.out]; refine wpList_make_full _ rfl _ _ 34 rfl W1.heap.size 25 i0 (.slice none 0 0) 1 Try.underlying34 hi hz0 hz1 .i64 .i64 _ _ m rfl rfl rfl rfl hbm hmm (Nat.le_refl _) ?_; intro w3 hown hgrow; have hrow0 := Hrow.start hown; have hb3 := (Below.refl W1.heap.size W1).grown hgrow (Nat.le_refl _) (fun q hq => by cases hq); have HKX := dgb_keep HK1.out hb3; obtain ⟨c0, c1, -, -⟩ := id HKX)
  obtain ⟨g0, hg0⟩ : ∃ g, w.heap.size = g := ⟨_, rfl⟩
  have HG0 := Lib.hid hg0
  have hg1 : g0 < W1.heap.size := World.block_lt_of_cell? W1 ⟨g0, 0, none⟩ (by rw [← hg0]; exact HK1.out.1)
  have hgw : w.heap.size ≤ g0 := by rw [HG0.out]; exact Nat.le_refl _
  obtain ⟨B2, hB2⟩ : ∃ B2, W1.heap.size = B2 := ⟨_, rfl⟩
  have HSZ : Hid (W1.heap.size = B2) := Lib.hid hB2
  rw [hB2] at hg1
  rw [← outsL_zero] at hrow0
  have HROW0 := Lib.hid hrow0
  have HB3 := Lib.hid (below_keep hb3 HB1.out)
  clear hrow0 hb3 hown hgrow HK1 HKX hB2 hg0 HW1
  simp only [HSZ.out] at HROW0 ⊢
  clear c0 c1 HSZ
  go_loopw [12] (fun iv wr => ∃ (k : Nat) (vs : List Value), iv = .int .i64 k ∧ k ≤ l.length ∧ Hrow wr B2 B2 m (outsL (flipL (l.take k)) m) vs ∧ Below w.heap.size w wr) (fun iv _ => l.length - (intOf iv).toNat)
  case atStart => exact ⟨0, _, rfl, Nat.zero_le _, HROW0.out, HB3.out⟩
  case round =>
    obtain ⟨k, vs, rfl, hk, hrow, hB⟩ := hrel
    rename World => wr
    have HROW := Lib.hid hrow
    have HB := Lib.hid hB
    clear hrow hB HROW0 HB3
    by_cases hlt : k < l.length
    case neg =>
      obtain rfl : k = l.length := by omega
      have e3 : ¬ (l.length : Int) < (l.length : Int) := by omega
      have HR := HROW.out
      rw [List.take_length] at HR
      go_wp2
      go_ret
      exact ⟨_, rfl, HR.mrow.lst, fun A n c e hn => by obtain ⟨f1, f2⟩ := HR.mrow.fresh A n c e hn; exact ⟨by omega, fun k hk A2 n2 c2 q hn2 => by have := f2 k hk A2 n2 c2 q hn2; omega⟩, HB.out⟩
    have hst : ∀ u : Nat, (flipL l)[k]'(by rw [flipL_len]; exact hlt) = ((u : Int), l[k].1) → outsL (flipL (l.take (k + 1))) m = (outsL (flipL (l.take k)) m).set u (outs (flipL (l.take k)) u ++ [l[k].1]) := fun u hu => by
      rw [flipL_take, flipL_take]
      have := outsL_step (l := flipL l) (n := m) (k := k) (u := u) (by rw [flipL_len]; exact hlt) (by rw [hu])
      rw [hu] at this
      exact this
    obtain ⟨hy0, hy1, hy2, hy3⟩ := okA_iff.1 (HOK.out _ (List.getElem_mem hlt))
    obtain ⟨A, rfl, p0, p1⟩ := (HL.out.keep HB.out).at hlt
    obtain ⟨y, hy⟩ : ∃ y, l[k] = y := ⟨_, rfl⟩
    have hgt : (flipL l)[k]'(by rw [flipL_len]; exact hlt) = (l[k].2, l[k].1) := by exact flipL_get hlt
    rw [hgt] at hst
    rw [hy] at p0 p1 hst hy0 hy1 hy2 hy3
    obtain ⟨y0, y1⟩ := y
    simp only at p0 p1 hy0 hy1 hy2 hy3 hst
    clear hy hgt
    obtain ⟨yi, rfl⟩ := Int.eq_ofNat_of_zero_le (show 0 ≤ y1 by omega)
    have him : yi < m := by omega
    have hst2 := hst yi rfl
    obtain ⟨u, xs, hu, hx, r0, hir⟩ := HROW.out.at him
    have r1 := HROW.out.row.free yi
    have hxe := hx
    rw [outsL_at him] at hxe
    replace hxe := Option.some.inj hxe
    rw [hxe] at hst2
    have hxl : xs.length ≤ 256 := by rw [← hxe]; exact Nat.le_trans (outs_len _ _) (by rw [flipL_len, List.length_take]; omega)
    have HST := Lib.hid hst2
    have HU := Lib.hid hu
    have HX := Lib.hid hx
    have HIR := Lib.hid hir
    clear hst hst2 hu hx hxe hir
    have i0 : (0 : Int) ≤ (k : Int) := by omega
    have i1 : (k : Int) < (l.length : Int) := by omega
    have e3 : (k : Int) < (l.length : Int) := i1
    have z0 : (0 : Int) ≤ (yi : Int) := by omega
    have z1 : (yi : Int) < (m : Int) := by omega
    obtain ⟨yx, rfl⟩ : ∃ yx, yx = y0 := ⟨_, rfl⟩
    obtain ⟨wb, hwb⟩ : ∃ wb, wr.alloc (.cells #[.int .i64 yx, .int .i64 (yi : Int)] 37) = wb := ⟨_, rfl⟩
    have HWB := Lib.hid hwb
    have hb := al1 wr (.cells #[.int .i64 yx, .int .i64 (yi : Int)] 37)
    rw [hwb] at hb
    have t0 : wb.cell? ⟨wr.heap.size, 0, none⟩ = some (.int .i64 yx) := by rw [← hwb, blk_cell (blk_new ..)]; rfl
    have t1 : wb.cell? ⟨wr.heap.size, 1, none⟩ = some (.int .i64 (yi : Int)) := by rw [← hwb, blk_cell (blk_new ..)]; rfl
    have HBb := Lib.hid (below_keep hb HB.out)
    have HRb := Lib.hid (HROW.out.keep hb)
    have HIb := Lib.hid (own_keep HIR.out hb)
    have hua : ∀ q, u.ownBlock = some q → q < wr.heap.size := fun q hq => (World.ownsRow.lt HIR.out q hq).2
    have r0 := cell_later' hb r0
    have r1 := fr_keep hb (HROW.out.at him).choose_spec.choose_spec.2.2.1 r1
    have HSb : Hid (B2 ≤ wr.heap.size) := Lib.hid (by obtain ⟨arr, hh⟩ := HROW.out.blk; have := blk_lt hh; omega)
    have hsb := hb.size
    clear hb HB HROW HIR hwb
    go_wp2_with fail
    rw [HWB.out]
    obtain ⟨ga, hga⟩ : ∃ g, wr.heap.size = g := ⟨_, rfl⟩
    rw [hga] at t0 t1 hua HSb hsb
    try simp only [hga]
    clear HWB hga p0 p1
    refine tstart (fun W : World => W.cell? ⟨ga, 1, none⟩ = some (.int .i64 (yi : Int)) ∧ W.cell? ⟨ga, 0, none⟩ = some (.int .i64 yx) ∧ W.cell? ⟨B2, yi, none⟩ = some u ∧ W.frozen? ⟨B2, yi, none⟩ = false) 13 (by kernel_rfl) ⟨cell_later' (b_drew wb) t1, cell_later' (b_drew wb) t0, cell_later' (b_drew wb) r0, r1⟩ (fun hHeld => ?_)
    have hbd := b_drew wb
    have HBD := Lib.hid (below_keep hbd HBb.out)
    have HRD := Lib.hid (HRb.out.keep hbd)
    have hsd : ga ≤ wb.drew.heap.size := Nat.le_trans hsb hbd.size
    have HID : Hid (Irow wb.drew B2 u xs) := Lib.hid (own_keep HIb.out hbd)
    replace hHeld : (fun W : World => W.cell? ⟨ga, 1, none⟩ = some (.int .i64 (yi : Int)) ∧ W.cell? ⟨ga, 0, none⟩ = some (.int .i64 yx) ∧ W.cell? ⟨B2, yi, none⟩ = some u ∧ W.frozen? ⟨B2, yi, none⟩ = false) wb.drew := hHeld
    clear hbd HBb HRb HIb hsb t0 t1 r0 r1
    generalize wb.drew = wd at HBD HRD HID hsd hHeld ⊢
    have HSD := Lib.hid hHeld
    refine ton 0 16 (.slice (some ⟨B2, 0, none⟩) m m) ?_
    try simp only [List.setIfInBounds_toArray, List.set_cons_zero, List.set_cons_succ]
    refine ton 1 17 (.pointer (some ⟨ga, 1, none⟩)) ?_
    try simp only [List.setIfInBounds_toArray, List.set_cons_zero, List.set_cons_succ]
    refine ton 2 18 (.int .i64 (yi : Int)) ?_
    try simp only [List.setIfInBounds_toArray, List.set_cons_zero, List.set_cons_succ]
    refine ton 3 19 (.slice (some ⟨B2, 0, none⟩) m m) ?_
    try simp only [List.setIfInBounds_toArray, List.set_cons_zero, List.set_cons_succ]
    refine ton 4 20 (.pointer (some ⟨ga, 1, none⟩)) ?_
    try simp only [List.setIfInBounds_toArray, List.set_cons_zero, List.set_cons_succ]
    refine ton 5 21 (.int .i64 (yi : Int)) ?_
    try simp only [List.setIfInBounds_toArray, List.set_cons_zero, List.set_cons_succ]
    refine ton 6 22 (.pointer (some ⟨B2, yi, none⟩)) ?_
    try simp only [List.setIfInBounds_toArray, List.set_cons_zero, List.set_cons_succ]
    refine ton 7 23 u ?_
    try simp only [List.setIfInBounds_toArray, List.set_cons_zero, List.set_cons_succ]
    refine ton 8 24 (.pointer (some ⟨ga, 0, none⟩)) ?_
    try simp only [List.setIfInBounds_toArray, List.set_cons_zero, List.set_cons_succ]
    refine ton 9 25 (.int .i64 yx) ?_
    try simp only [List.setIfInBounds_toArray, List.set_cons_zero, List.set_cons_succ]
    refine tgo (i := 10) (by kernel_rfl) rfl (fun K hK => ?_)
    go_simp
    refine hK.out _ _ (fun _ => (by obtain ⟨k0, k1, k2, k3⟩ := hHeld; exact ⟨cell_later' (al1 ..) k0, cell_later' (al1 ..) k1, cell_later' (al1 ..) k2, fr_keep (al1 ..) k2 k3⟩)) (fun hHeld => ?_)
    replace hHeld := hHeld (by decide)
    clear hK K
    try simp only [List.setIfInBounds_toArray, List.set_cons_zero, List.set_cons_succ]
    refine tgo (i := 11) (by kernel_rfl) rfl (fun K hK => ?_)
    refine app_ilS rfl (.tmp 23) (.tmp 26) rfl B2 u xs yx wd.heap.size rfl rfl rfl HID (by omega) (by have := HSb.out; omega) ?_
    intro q cap w6 hrow6 hgrow6 hli6
    obtain ⟨k0, k1, k2, k3⟩ := id hHeld
    have hS6 : (fun W : World => W.cell? ⟨ga, 1, none⟩ = some (.int .i64 (yi : Int)) ∧ W.cell? ⟨ga, 0, none⟩ = some (.int .i64 yx) ∧ W.cell? ⟨B2, yi, none⟩ = some u ∧ W.frozen? ⟨B2, yi, none⟩ = false) w6 := by
      obtain ⟨arr, hbl⟩ := HRD.out.blk
      have hne : some B2 ≠ u.ownBlock := fun e => by
        rcases own_far HID.out HRD.out.row.2 (by decide) with q1 | q1
        · rw [q1] at e; cases e
        · exact q1 e.symm
      have hna : some ga ≠ u.ownBlock := fun e => by have := hua ga e.symm; omega
      obtain ⟨j0, j1, j2, j3⟩ := HSD.out
      refine ⟨hgrow6.cell j0 hna, hgrow6.cell j1 hna, hgrow6.cell j2 hne, ?_⟩
      rw [World.frozen?_of_block (hgrow6.block B2 (World.block_lt_of_cell? wd _ j2) hne)]; exact j3
    refine hK.out _ _ (fun _ => hS6) (fun hHeld => ?_)
    replace hHeld := hHeld (by decide)
    have HGR := Lib.hid hgrow6
    have HRW6 := Lib.hid hrow6
    have HLI6 := Lib.hid hli6
    obtain ⟨-, -, k2, k3⟩ := hS6
    clear hK K hgrow6 hrow6 hli6 k0 k1 HSD
    try simp only [List.setIfInBounds_toArray, List.set_cons_zero, List.set_cons_succ]
    refine ton 12 28 (.pointer (some ⟨B2, yi, none⟩)) ?_
    try simp only [List.setIfInBounds_toArray, List.set_cons_zero, List.set_cons_succ]
    refine tgo (i := 13) (by kernel_rfl) rfl (fun K hK => ?_)
    go_simp
    refine hK.out _ _ (fun h => absurd rfl h) (fun hHeld => ?_)
    clear hK K hHeld k2 k3
    try simp only [List.setIfInBounds_toArray, List.set_cons_zero, List.set_cons_succ]
    refine tdone (by kernel_rfl) ?_ _
    have hl6 : (xs ++ [yx]).length = xs.length + 1 := by simp
    have hrw := HRW6.out
    rw [← hl6] at hrw
    have HN := Lib.hid (Hrow.app HRD.out HU.out HX.out HGR.out hrw HLI6.out)
    have HB6 := Lib.hid (((HBD.out.trans ((Below.refl wd.heap.size wd).mono HBD.out.size)).grown HGR.out (Nat.le_trans HBD.out.size (Nat.le_refl _)) (fun q hq => by have := (World.ownsRow.lt HID.out q hq).1; omega)).setCell (p := ⟨B2, yi, none⟩) (by simp only; omega) (.slice (some ⟨q, 0, none⟩) (xs ++ [yx]).length cap))
    replace HN := Lib.hid HN.out
    rw [hl6] at HN HB6
    go_wp2
    go_roundw
    case rel => exact ⟨k + 1, _, by go_num, by omega, by rw [HST.out]; exact HN.out, HB6.out⟩
    case measure => simp [intOf]; omega
end Go.Proofs.Ytncedgnpdojkkaa.tpo
