/-
  What readCluster of the landed builder does (layer 12), over what readBlock does with its body. Conditions: a builder in memory that knows at most 100000 names; the library's variable MaxLen holds a number.
-/
import Derived.Test.YtcdoicgbjoikkaaGreatDoorMpf
import Derived.Test.YtcdoicgbjoikkaaGreatDoorMpc
namespace Go.Proofs.YtcdoicgbjoikkaaGreatDoor.nor
open Go.RowKit lex tre att

theorem info_cl : (Tryz.prog.info? 47).map (fun i => (i.zero, i.size, i.bytes)) = some (some (.agg #[.string ⟨#[]⟩, .int .i64 0]), 2, 24) := by kernel_rfl
/-- What readBlock has to do with the statements l. -/
def BlkOk (l : List St) : Prop := ∀ (w0 : World) (b : Nat) (nm : Nm) (d : Bool) (s : Bs) (x : BdV) (bv : Value) (p : Pl) (dv ev : Value) (w : World), Mx w0 → BdG w0 w b nm d s.g x → PrsT w dv p.dn → PrsT w ev p.de → Sts w0 bv l → okB l → sz s + 42 * cnt l ≤ 100000 → s.ns.length = s.ats.length → GaS s → GaP p →
  Calls Tryz.prog 24 #[.pointer (some ⟨b, 0, none⟩), bv, .int .i64 p.cl, .agg #[dv, ev]] w (MenOut w0 b nm d (blkC l p s).1 (blkC l p s).2 w)
theorem BlkOk.use {l : List St} (h : Hid (BlkOk l)) (w0 : World) (b : Nat) (nm : Nm) (d : Bool) (s : Bs) (x : BdV) (bv : Value) (p : Pl) (dv ev : Value) (S' : Bs) (E : Int) (w : World) (hM : Hid (Mx w0)) (hS : Hid (BdG w0 w b nm d s.g x)) (hp : Hid (PrsT w dv p.dn)) (hq : Hid (PrsT w ev p.de)) (hs : Hid (Sts w0 bv l)) (ho : Hid (okB l)) (hz : Hid (sz s + 42 * cnt l ≤ 100000)) (hl : Hid (s.ns.length = s.ats.length)) (hg : Hid (GaS s)) (hgp : Hid (GaP p)) (hR : Hid (blkC l p s = (S', E))) :
    Calls Tryz.prog 24 #[.pointer (some ⟨b, 0, none⟩), bv, .int .i64 p.cl, .agg #[dv, ev]] w (MenOut w0 b nm d S' E w) := by
  have := h.out w0 b nm d s x bv p dv ev w hM.out hS.out hp.out hq.out hs.out ho.out hz.out hl.out hg.out hgp.out
  rw [hR.out] at this; exact this
set_option maxRecDepth 100000 in
set_option maxHeartbeats 2000000 in
theorem readcluster_of (w0 : World) (b : Nat) (nm : Nm) (d : Bool) (s : Bs) (x : BdV) (n : Nm) (r a : List Pr) (bd : List St) (rv av bv : Value) (p : Pl) (dv ev : Value) (S' : Bs) (E : Int) (w : World) (hM : Hid (Mx w0)) (hIH : Hid (BlkOk bd)) (hS : Hid (BdG w0 w b nm d s.g x)) (hp : Hid (PrsT w dv p.dn)) (hq : Hid (PrsT w ev p.de)) (hR : Hid (Prs w0 rv r)) (hA : Hid (Prs w0 av a)) (hB : Hid (Sts w0 bv bd)) (ho : Hid (okB bd)) (hz : sz s + 42 * (1 + cnt bd) ≤ 100000) (hal : Hid (s.ns.length = s.ats.length)) (hn : n.length ≤ maxLen) (hga : Hid (GaS s)) (hgp : Hid (GaP p)) (hE : Hid (stmC (.mk 5 n r a bd) p s = (S', E))) :
    Calls Tryz.prog 100 #[.pointer (some ⟨b, 0, none⟩), .agg #[.int .i64 5, .string (bb n), rv, av, bv], .int .i64 p.cl, .agg #[dv, ev]] w (MenOut w0 b nm d S' E w) := by
  obtain ⟨po, pc, rfl, _, _, _⟩ := id hp.out.prs
  obtain ⟨eo, ec, rfl, _, _, _⟩ := id hq.out.prs
  obtain ⟨ro, rc, rfl, _, _, _⟩ := id hR.out
  obtain ⟨ao, ac, rfl, _, _, _⟩ := id hA.out
  obtain ⟨bo, bc, rfl, _, _, _⟩ := id hB.out
  have hb1 := al2 w (.cells #[.int .i64 5, .string (bb n), .slice ro r.length rc, .slice ao a.length ac, .slice bo bd.length bc] 56) (.cells #[.slice po p.dn.length pc, .slice eo p.de.length ec] 70)
  have hs1 := hS.out.below hb1
  have hsb : blk ((w.alloc (.cells #[.int .i64 5, .string (bb n), .slice ro r.length rc, .slice ao a.length ac, .slice bo bd.length bc] 56)).alloc (.cells #[.slice po p.dn.length pc, .slice eo p.de.length ec] 70)) w.heap.size 56 #[.int .i64 5, .string (bb n), .slice ro r.length rc, .slice ao a.length ac, .slice bo bd.length bc] := by
    have h := al1 (w.alloc (.cells #[.int .i64 5, .string (bb n), .slice ro r.length rc, .slice ao a.length ac, .slice bo bd.length bc] 56)) (.cells #[.slice po p.dn.length pc, .slice eo p.de.length ec] 70)
    unfold att.blk
    rw [h.block _ (by simp)]
    exact blk_new w #[.int .i64 5, .string (bb n), .slice ro r.length rc, .slice ao a.length ac, .slice bo bd.length bc] 56
  have hbp : blk ((w.alloc (.cells #[.int .i64 5, .string (bb n), .slice ro r.length rc, .slice ao a.length ac, .slice bo bd.length bc] 56)).alloc (.cells #[.slice po p.dn.length pc, .slice eo p.de.length ec] 70)) (w.heap.size + 1) 70 #[.slice po p.dn.length pc, .slice eo p.de.length ec] := by
    have h := blk_new (w.alloc (.cells #[.int .i64 5, .string (bb n), .slice ro r.length rc, .slice ao a.length ac, .slice bo bd.length bc] 56)) #[.slice po p.dn.length pc, .slice eo p.de.length ec] 70
    rwa [World.size_alloc] at h
  have HPP := Lib.hid (hp.out.keep hb1)
  have HQP := Lib.hid (hq.out.keep hb1)
  have HST1 : Hid (Stp w0 w ((w.alloc (.cells #[.int .i64 5, .string (bb n), .slice ro r.length rc, .slice ao a.length ac, .slice bo bd.length bc] 56)).alloc (.cells #[.slice po p.dn.length pc, .slice eo p.de.length ec] 70))) := Lib.hid (Stp.below hb1 hS.out.base)
  have HS1 := Lib.hid hs1
  have HSB := Lib.hid hsb
  have HBP := Lib.hid hbp
  have hPb : w.heap.size ≠ b := Nat.ne_of_gt hS.out.lt
  have hlt0 : b < w.heap.size := hS.out.lt
  have hE1 := hE.out
  rw [stmC_5] at hE1
  obtain ⟨R, hR1⟩ : ∃ R, clusd s.cs n = R := ⟨_, rfl⟩
  obtain ⟨Q, hQ1⟩ : ∃ Q, decide (0 ≤ nodeI s.ns n 0) = Q := ⟨_, rfl⟩
  obtain ⟨ii, hii⟩ : ∃ i, (if 0 ≤ nodeI s.ns n 0 then nodeI s.ns n 0 else 0) = i := ⟨_, rfl⟩
  have HRQ : Hid ((S', E) = if (R || Q) = true then (s, 6) else blkC bd ⟨s.cs.length, p.dn, p.de⟩ ⟨s.ns, s.ats, s.cs ++ [(n, p.cl)], s.ch⟩) := Lib.hid (by
    rw [← hE1, hR1]
    subst hQ1
    by_cases h0 : 0 ≤ nodeI s.ns n 0
    · rw [if_pos (Or.inr h0), decide_eq_true h0, Bool.or_true, if_pos rfl]
    · rw [decide_eq_false h0, Bool.or_false]
      cases R
      · rw [if_neg (by simp [h0]), if_neg (by decide)]
      · rw [if_pos (Or.inl rfl), if_pos rfl])
  have HR1 := Lib.hid hR1
  have HQ1 := Lib.hid hQ1
  have HII := Lib.hid hii
  obtain ⟨nv, cv, cav, hv, mb, kb, avs, hvs⟩ := x
  obtain ⟨co, cc, hcv, -, -⟩ := own_form HS1.out.cr
  simp only [Bs.g] at hcv
  subst hcv
  have a1 : ((w.alloc (.cells #[.int .i64 5, .string (bb n), .slice ro r.length rc, .slice ao a.length ac, .slice bo bd.length bc] 56)).alloc (.cells #[.slice po p.dn.length pc, .slice eo p.de.length ec] 70)).cell? ⟨w.heap.size, 1, none⟩ = some (.string (bb n)) := by rw [blk_cell HSB.out]; rfl
  have b6 : ((w.alloc (.cells #[.int .i64 5, .string (bb n), .slice ro r.length rc, .slice ao a.length ac, .slice bo bd.length bc] 56)).alloc (.cells #[.slice po p.dn.length pc, .slice eo p.de.length ec] 70)).cell? ⟨b, 6, none⟩ = some (.map (some mb)) := HS1.out.box.read.2.2.2.1
  have b7 : ((w.alloc (.cells #[.int .i64 5, .string (bb n), .slice ro r.length rc, .slice ao a.length ac, .slice bo bd.length bc] 56)).alloc (.cells #[.slice po p.dn.length pc, .slice eo p.de.length ec] 70)).cell? ⟨b, 7, none⟩ = some (.map (some kb)) := HS1.out.box.read.2.2.2.2.1
  obtain ⟨W1, hW1⟩ : ∃ W1, (w.alloc (.cells #[.int .i64 5, .string (bb n), .slice ro r.length rc, .slice ao a.length ac, .slice bo bd.length bc] 56)).alloc (.cells #[.slice po p.dn.length pc, .slice eo p.de.length ec] 70) = W1 := ⟨_, rfl⟩
  have HW1 := Lib.hid hW1
  rw [hW1] at HPP HQP HST1 HS1 HSB HBP a1 b6 b7
  clear hs1 hb1 hsb hbp hE hS hp hq hE1 hR1 hQ1 hii hW1
  have hN : ∀ k, Below W1.heap.size W1 (W1.drewN k) := drew_n W1
  have hm1 : ∀ k, (Instr.lookup 62 (.map (some mb)) (.string (bb n)) true).run Tryz.prog (W1.drewN k) = .ok (.tuple #[.int .i64 ii, .bool Q]) (W1.drewN k) := fun k => (HS1.out.below (hN k)).mm.lookOk n hn HII.out HQ1.out
  have hm2 : ∀ k, (Instr.lookup 63 (.map (some kb)) (.string (bb n)) false).run Tryz.prog (W1.drewN k) = .ok (.bool R) (W1.drewN k) := fun k => (HS1.out.below (hN k)).km.look n hn HR1.out
  go_enter Tryz.func100, Tryz.ntmps100
  go_wp2_with fail
  rw [HW1.out]
  clear HW1
  go_quiet (fail)
  go_wp2_with fail
  obtain ⟨q0, hq0⟩ : ∃ q0, q0 = nq := ⟨_, rfl⟩
  subst hq0
  cases Q
  case true =>
    go_quiet (fail)
    go_wp2_with fail
    have HE6 : Hid (S' = s ∧ E = 6) := Lib.hid (by have h := HRQ.out; rw [Bool.or_true, if_pos rfl] at h; exact Prod.mk.inj h)
    obtain rfl : 6 = E := HE6.out.2.symm
    have hBq := (drew_n W1 q0).trans (show Below W1.heap.size (W1.drewN q0) ((W1.drewN q0).drewN nq) from drew_n (W1.drewN q0) nq)
    go_ret
    exact ⟨rfl, HST1.out.trans (Stp.below hBq HS1.out.base), (HS1.out.below hBq).old, fun q => absurd q (by decide)⟩
  cases R
  case true =>
    go_quiet (fail)
    go_wp2_with fail
    have HE6 : Hid (S' = s ∧ E = 6) := Lib.hid (by have h := HRQ.out; rw [Bool.true_or, if_pos rfl] at h; exact Prod.mk.inj h)
    obtain rfl : 6 = E := HE6.out.2.symm
    have hBq := (drew_n W1 q0).trans (show Below W1.heap.size (W1.drewN q0) ((W1.drewN q0).drewN nq) from drew_n (W1.drewN q0) nq)
    go_ret
    exact ⟨rfl, HST1.out.trans (Stp.below hBq HS1.out.base), (HS1.out.below hBq).old, fun q => absurd q (by decide)⟩
  have HRB : Hid (blkC bd ⟨s.cs.length, p.dn, p.de⟩ ⟨s.ns, s.ats, s.cs ++ [(n, p.cl)], s.ch⟩ = (S', E)) := Lib.hid (by have h := HRQ.out; rw [if_neg (by decide)] at h; exact h.symm)
  go_quiet (fail)
  go_wp2_with fail
  clear HRQ hm1 hm2 hN a1 b6 b7
  have hBd : Below W1.heap.size W1 (((W1.drewN q0).drewN nq).drew) := ((drew_n W1 q0).trans (show Below W1.heap.size (W1.drewN q0) ((W1.drewN q0).drewN nq) from drew_n (W1.drewN q0) nq)).drew
  have hcl : s.cs.length ≤ 100000 := by unfold sz at hz; omega
  have hsd := HS1.out.below hBd
  have HSTd := Lib.hid (HST1.out.trans (Stp.below hBd HS1.out.base))
  have HPd := Lib.hid (HPP.out.keep hBd)
  have HQd := Lib.hid (HQP.out.keep hBd)
  have HSBd := Lib.hid (blk_below HSB.out hBd)
  have HBPd := Lib.hid (blk_below HBP.out hBd)
  refine wp_region_still_tail 6 (by kernel_rfl) (by kernel_rfl) ?_
  change wpStill _ _ (((W1.drewN q0).drewN nq).drew) (fun a' => wpList _ _ _ _ a' (((W1.drewN q0).drewN nq).drew)) _ _
  clear hBd HS1 HST1 HPP HQP HSB HBP
  generalize ((W1.drewN q0).drewN nq).drew = wd at *
  obtain ⟨w2, hput, hm2, hg2⟩ := hsd.km.put n p.cl hn hcl
  obtain ⟨hs2, hst2⟩ := hsd.putK hg2 hm2
  have HS2 := Lib.hid hs2
  have HST2 := Lib.hid (HSTd.out.trans hst2)
  have HP2 := Lib.hid (hst2.frm.prs HPd.out)
  have HQ2 := Lib.hid (hst2.frm.prs HQd.out)
  have HSB2 := Lib.hid (hst2.frm.blk HSBd.out rfl)
  have HBP2 := Lib.hid (hst2.frm.blk HBPd.out rfl)
  have b7 := hsd.box.read.2.2.2.2.1
  have a1 : wd.cell? ⟨w.heap.size, 1, none⟩ = some (.string (bb n)) := by rw [blk_cell HSBd.out]; rfl
  clear hsd hs2 hst2 hm2 hg2 HPd HQd HSBd HBPd HSTd
  simp only [List.take_succ_cons, List.take_zero, List.drop_succ_cons, List.drop_zero]
  repeat still_step
  refine wpStill_nil ?_
  go_wp2_with fail
  clear a1 b7 hput
  have hBe : Below w2.heap.size w2 w2.drew := (Below.refl w2.heap.size w2).drew
  have hs1 : w2.cell? ⟨w.heap.size, 1, none⟩ = some (.string (bb n)) := by rw [blk_cell HSB2.out]; rfl
  have hc4 : w2.drew.cell? ⟨b, 4, none⟩ = some (.slice co s.cs.length cc) := HS2.out.box.read.2.1
  obtain ⟨i9, hi0, hz0, hz1, hz2⟩ := info_of info_cl
  have hbase := HS2.out.base
  have hblt := HS2.out.lt
  refine wp_region_held_drew (S := (fun W : World => W.cell? ⟨w.heap.size, 1, none⟩ = some (.string (bb n)))) (by kernel_rfl) (s_drew hs1) (fun hHeld => ?_)
  refine take_on 0 37 (.pointer (some ⟨b, 0, none⟩)) rfl (by kernel_rfl) (by kernel_rfl) (by kernel_rfl) (fun _ _ _ _ _ h => h) ?_ (by assumption) ?_
  · (rintro oi h; cases h; refine ⟨by rfl, ?_⟩; intro W hSw; (try dsimp only at hSw); try dsimp only at hSw
     go_simp)
  try simp only [List.setIfInBounds_toArray, List.set_cons_zero, List.set_cons_succ]
  refine take_on 1 38 (.pointer (some ⟨b, 0, none⟩)) rfl (by kernel_rfl) (by kernel_rfl) (by kernel_rfl) (fun _ _ _ _ _ h => h) ?_ (by assumption) ?_
  · (rintro oi h; cases h; refine ⟨by rfl, ?_⟩; intro W hSw; (try dsimp only at hSw); try dsimp only at hSw
     go_simp)
  try simp only [List.setIfInBounds_toArray, List.set_cons_zero, List.set_cons_succ]
  refine take_on 2 39 (.pointer (some ⟨b, 0, none⟩)) rfl (by kernel_rfl) (by kernel_rfl) (by kernel_rfl) (fun _ _ _ _ _ h => h) ?_ (by assumption) ?_
  · (rintro oi h; cases h; refine ⟨by rfl, ?_⟩; intro W hSw; (try dsimp only at hSw); try dsimp only at hSw
     go_simp)
  try simp only [List.setIfInBounds_toArray, List.set_cons_zero, List.set_cons_succ]
  refine take_on 3 40 (.pointer (some ⟨b, 0, none⟩)) rfl (by kernel_rfl) (by kernel_rfl) (by kernel_rfl) (fun _ _ _ _ _ h => h) ?_ (by assumption) ?_
  · (rintro oi h; cases h; refine ⟨by rfl, ?_⟩; intro W hSw; (try dsimp only at hSw); try dsimp only at hSw
     go_simp)
  try simp only [List.setIfInBounds_toArray, List.set_cons_zero, List.set_cons_succ]
  refine take_on 4 41 (.pointer (some ⟨b, 4, none⟩)) rfl (by kernel_rfl) (by kernel_rfl) (by kernel_rfl) (fun _ _ _ _ _ h => h) ?_ (by assumption) ?_
  · (rintro oi h; cases h; refine ⟨by rfl, ?_⟩; intro W hSw; (try dsimp only at hSw); try dsimp only at hSw
     go_simp)
  try simp only [List.setIfInBounds_toArray, List.set_cons_zero, List.set_cons_succ]
  refine take_on 6 43 (.pointer (some ⟨w.heap.size, 1, none⟩)) rfl (by kernel_rfl) (by kernel_rfl) (by kernel_rfl) (fun _ _ _ _ _ h => h) ?_ (by assumption) ?_
  · (rintro oi h; cases h; refine ⟨by rfl, ?_⟩; intro W hSw; (try dsimp only at hSw); try dsimp only at hSw
     go_simp)
  try simp only [List.setIfInBounds_toArray, List.set_cons_zero, List.set_cons_succ]
  refine take_on 7 44 (.string (bb n)) rfl (by kernel_rfl) (by kernel_rfl) (by kernel_rfl) (fun _ _ _ _ _ h => h) ?_ (by assumption) ?_
  · (rintro oi h; cases h; refine ⟨by rfl, ?_⟩; intro W hSw; (try dsimp only at hSw); try dsimp only at hSw
     go_simp)
  try simp only [List.setIfInBounds_toArray, List.set_cons_zero, List.set_cons_succ]
  refine take_on 8 45 (.int .i64 p.cl) rfl (by kernel_rfl) (by kernel_rfl) (by kernel_rfl) (fun _ _ _ _ _ h => h) ?_ (by assumption) ?_
  · (rintro oi h; cases h; refine ⟨by rfl, ?_⟩; intro W hSw; (try dsimp only at hSw); try dsimp only at hSw
     go_simp)
  try simp only [List.setIfInBounds_toArray, List.set_cons_zero, List.set_cons_succ]
  refine take_on 9 46 (.agg #[.string (bb n), .int .i64 p.cl]) rfl (by kernel_rfl) (by kernel_rfl) (by kernel_rfl) (fun _ _ _ _ _ h => h) ?_ (by assumption) ?_
  · (rintro oi h; cases h; refine ⟨by rfl, ?_⟩; intro W hSw; (try dsimp only at hSw); try dsimp only at hSw
     go_simp)
  try simp only [List.setIfInBounds_toArray, List.set_cons_zero, List.set_cons_succ]
  refine wpAnyH_ready (rs := [5, 10]) (by kernel_rfl) (by simp) ?_
  refine AllReadyH.cons rfl (fun K hK => ?_) (AllReadyH.cons rfl (fun K hK => ?_) AllReadyH.nil)
  ·
    go_simp
    refine hK.out _ _ (s_drew hs1) (fun hHeld => ?_)
    clear hK K
    try simp only [List.setIfInBounds_toArray, List.set_cons_zero, List.set_cons_succ]
    refine wpAnyH_ready (rs := [10]) (by kernel_rfl) (by simp) ?_
    refine AllReadyH.cons rfl (fun K hK => ?_) AllReadyH.nil
    go_simp
    refine hK.out _ _ (s_alloc (s_drew hs1)) (fun hHeld => ?_)
    clear hK K
    try simp only [List.setIfInBounds_toArray, List.set_cons_zero, List.set_cons_succ]
    refine wpAnyH_ready (rs := [11]) (by kernel_rfl) (by simp) ?_
    refine AllReadyH.cons rfl (fun K hK => ?_) AllReadyH.nil
    refine step_append_lies _ (by rfl) _ _ _ (by rfl) w0.heap.size 47 i9 _ 2 24 Tryz.underlying29 hi0 hz0 hz1 hz2 rfl (by omega) (.slice co s.cs.length cc) s.cs.length (s.cs.flatMap clC) (by rfl) (by exact row_below HS2.out.cr (by repeat (first | (with_reducible exact Below.refl _ _) | (with_reducible refine Below.drew ?_) | (with_reducible refine b_allocN ?_ ?_) | (simp; done) | omega))) ⟨w2.heap.size, 0, none⟩ 1 1 [.string (bb n), .int .i64 p.cl] (by rfl) (by rfl) (by exact World.news_of_block (cs := #[.string (bb n), .int .i64 p.cl]) (t := 47) (fr := (0, 0)) (heap_alloc_new _ _)) (by simp [Value.oneCell']) (by omega) (by unfold maxLen; omega) (by omega) (by simp; omega) (w2.heap.size + 1) (by simp) ?_
    intro gg cap1 w5 hown1 hgrow hat1 hlt5
    obtain ⟨⟨hx1, hst5⟩, hs5, hst6⟩ := HS2.out.growC (c := (n, p.cl)) (by exact (by repeat (first | (with_reducible exact Below.refl _ _) | (with_reducible refine Below.drew ?_) | (with_reducible refine b_allocN ?_ ?_) | (simp; done) | omega))) hgrow (by show World.ownsRow _ _ _ _ _ (s.cs ++ [(n, p.cl)]).length _; rw [List.length_append, List.flatMap_append]; exact hown1)
    have hfz := hx1.open 4
    have hc9 := hx1.read.2.1
    have HS5 := Lib.hid hs5
    have HST5 := Lib.hid (HST2.out.trans hst6)
    have HP5 := Lib.hid (hst6.frm.prs HP2.out)
    have HQ5 := Lib.hid (hst6.frm.prs HQ2.out)
    have HSB5 := Lib.hid (hst6.frm.blk HSB2.out rfl)
    have HBP5 := Lib.hid (hst6.frm.blk HBP2.out rfl)
    have m0 : w5.cell? ⟨w.heap.size, 1, none⟩ = some (.string (bb n)) := by rw [blk_cell (hst5.frm.blk HSB2.out rfl)]; rfl
    clear hs5 hst5 hst6 hx1
    refine hK.out _ _ m0 (fun hHeld => ?_)
    clear hK K
    try simp only [List.setIfInBounds_toArray, List.set_cons_zero, List.set_cons_succ]
    refine take_on 12 49 (.pointer (some ⟨b, 0, none⟩)) rfl (by kernel_rfl) (by kernel_rfl) (by kernel_rfl) (fun _ _ _ _ _ h => h) ?_ (by assumption) ?_
    · (rintro oi h; cases h; refine ⟨by rfl, ?_⟩; intro W hSw; (try dsimp only at hSw); try dsimp only at hSw
       go_simp)
    try simp only [List.setIfInBounds_toArray, List.set_cons_zero, List.set_cons_succ]
    refine take_on 13 50 (.pointer (some ⟨b, 0, none⟩)) rfl (by kernel_rfl) (by kernel_rfl) (by kernel_rfl) (fun _ _ _ _ _ h => h) ?_ (by assumption) ?_
    · (rintro oi h; cases h; refine ⟨by rfl, ?_⟩; intro W hSw; (try dsimp only at hSw); try dsimp only at hSw
       go_simp)
    refine take_on 14 51 (.pointer (some ⟨b, 4, none⟩)) rfl (by kernel_rfl) (by kernel_rfl) (by kernel_rfl) (fun _ _ _ _ _ h => h) ?_ (by assumption) ?_
    · (rintro oi h; cases h; refine ⟨by rfl, ?_⟩; intro W hSw; (try dsimp only at hSw); try dsimp only at hSw
       go_simp)
    refine wpAnyH_ready (rs := [15]) (by kernel_rfl) (by simp) ?_
    refine AllReadyH.cons rfl (fun K hK => ?_) AllReadyH.nil
    go_simp
    refine hK.out _ _ (s_set (by simp only; omega) m0) (fun hHeld => ?_)
    clear hK K
    try simp only [List.setIfInBounds_toArray, List.set_cons_zero, List.set_cons_succ]
    refine wpAnyH_done (by kernel_rfl) ?_ _
    clear hc9 hfz hc4 hs1 m0 hHeld
    have HCL : Hid ((s.cs ++ [(n, p.cl)]).length = s.cs.length + 1) := Lib.hid (by simp)
    generalize w5.setCell ⟨b, 4, none⟩ (.slice (some ⟨gg, 0, none⟩) (s.cs.length + 1) cap1) = w6 at HS5 HST5 HP5 HQ5 HSB5 HBP5 ⊢
    have hBf : Below w6.heap.size w6 w6.drew := (Below.refl w6.heap.size w6).drew
    have HS6 := Lib.hid (HS5.out.below hBf)
    have HST6 := Lib.hid (HST5.out.trans (Stp.below hBf HS5.out.base))
    have HP6 := Lib.hid (HP5.out.keep hBf)
    have HQ6 := Lib.hid (HQ5.out.keep hBf)
    have a4 : w6.drew.cell? ⟨w.heap.size, 4, none⟩ = some (.slice bo bd.length bc) := by rw [blk_cell (blk_below HSB5.out hBf)]; rfl
    have e0 : w6.drew.cell? ⟨w.heap.size + 1, 0, none⟩ = some (.slice po p.dn.length pc) := by rw [blk_cell (blk_below HBP5.out hBf)]; rfl
    have e1 : w6.drew.cell? ⟨w.heap.size + 1, 1, none⟩ = some (.slice eo p.de.length ec) := by rw [blk_cell (blk_below HBP5.out hBf)]; rfl
    have b4 : w6.drew.cell? ⟨b, 4, none⟩ = some (.slice (some ⟨gg, 0, none⟩) (s.cs.length + 1) cap1) := HS6.out.box.read.2.1
    clear HS5 HST5 HP5 HQ5 HSB5 HBP5 hBf
    go_wp2_with fail
    refine wp_region_still_tail 11 (by kernel_rfl) (by kernel_rfl) ?_
    change wpStill _ _ w6.drew (fun a' => wpList _ _ _ _ a' w6.drew) _ _
    generalize w6.drew = w7 at *
    simp only [List.take_succ_cons, List.take_zero, List.drop_succ_cons, List.drop_zero]
    repeat still_step
    refine wpStill_nil ?_
    clear a4 e0 e1 b4
    go_wp2_with fail
    have hz2 : sz (⟨s.ns, s.ats, s.cs ++ [(n, p.cl)], s.ch⟩ : Bs) + 42 * cnt bd ≤ 100000 := by unfold sz at hz ⊢; simp only [List.length_append, List.length_singleton]; omega
    refine (BlkOk.use hIH w0 b nm d ⟨s.ns, s.ats, s.cs ++ [(n, p.cl)], s.ch⟩ _ _ ⟨s.cs.length, p.dn, p.de⟩ _ _ S' E w7 hM (Lib.hid HS6.out) HP6 HQ6 hB ho (Lib.hid hz2) (Lib.hid hal.out) (Lib.hid ⟨hga.out.1, hga.out.2⟩) (Lib.hid ⟨hgp.out.1, hgp.out.2⟩) HRB).mono ?_
    rintro e w8 ⟨rfl, hst8, hold8, hx8⟩
    have HST8 := Lib.hid (HST6.out.trans hst8)
    have HX8 := Lib.hid hx8
    have HO8 := Lib.hid hold8
    clear hst8 hx8 hold8
    go_wp2
    go_ret
    exact ⟨rfl, HST8.out, HO8.out, HX8.out⟩
  ·
    have hc4a : ((w2.alloc (.cells #[.string (bb n), .int .i64 p.cl] 47)).drew).cell? ⟨b, 4, none⟩ = some (.slice co s.cs.length cc) := s_alloc (o := .cells #[.string (bb n), .int .i64 p.cl] 47) (show w2.cell? _ = _ from hc4)
    go_simp
    refine hK.out _ _ (s_alloc (s_drew hs1)) (fun hHeld => ?_)
    clear hK K
    try simp only [List.setIfInBounds_toArray, List.set_cons_zero, List.set_cons_succ]
    refine wpAnyH_ready (rs := [5]) (by kernel_rfl) (by simp) ?_
    refine AllReadyH.cons rfl (fun K hK => ?_) AllReadyH.nil
    go_simp
    refine hK.out _ _ (s_alloc (s_drew hs1)) (fun hHeld => ?_)
    clear hK K
    try simp only [List.setIfInBounds_toArray, List.set_cons_zero, List.set_cons_succ]
    refine wpAnyH_ready (rs := [11]) (by kernel_rfl) (by simp) ?_
    refine AllReadyH.cons rfl (fun K hK => ?_) AllReadyH.nil
    refine step_append_lies _ (by rfl) _ _ _ (by rfl) w0.heap.size 47 i9 _ 2 24 Tryz.underlying29 hi0 hz0 hz1 hz2 rfl (by omega) (.slice co s.cs.length cc) s.cs.length (s.cs.flatMap clC) (by rfl) (by exact row_below HS2.out.cr (by repeat (first | (with_reducible exact Below.refl _ _) | (with_reducible refine Below.drew ?_) | (with_reducible refine b_allocN ?_ ?_) | (simp; done) | omega))) ⟨w2.heap.size, 0, none⟩ 1 1 [.string (bb n), .int .i64 p.cl] (by rfl) (by rfl) (by exact World.news_of_block (cs := #[.string (bb n), .int .i64 p.cl]) (t := 47) (fr := (0, 0)) (heap_alloc_new _ _)) (by simp [Value.oneCell']) (by omega) (by unfold maxLen; omega) (by omega) (by simp; omega) (w2.heap.size + 1) (by simp) ?_
    intro gg cap1 w5 hown1 hgrow hat1 hlt5
    obtain ⟨⟨hx1, hst5⟩, hs5, hst6⟩ := HS2.out.growC (c := (n, p.cl)) (by exact (by repeat (first | (with_reducible exact Below.refl _ _) | (with_reducible refine Below.drew ?_) | (with_reducible refine b_allocN ?_ ?_) | (simp; done) | omega))) hgrow (by show World.ownsRow _ _ _ _ _ (s.cs ++ [(n, p.cl)]).length _; rw [List.length_append, List.flatMap_append]; exact hown1)
    have hfz := hx1.open 4
    have hc9 := hx1.read.2.1
    have HS5 := Lib.hid hs5
    have HST5 := Lib.hid (HST2.out.trans hst6)
    have HP5 := Lib.hid (hst6.frm.prs HP2.out)
    have HQ5 := Lib.hid (hst6.frm.prs HQ2.out)
    have HSB5 := Lib.hid (hst6.frm.blk HSB2.out rfl)
    have HBP5 := Lib.hid (hst6.frm.blk HBP2.out rfl)
    have m0 : w5.cell? ⟨w.heap.size, 1, none⟩ = some (.string (bb n)) := by rw [blk_cell (hst5.frm.blk HSB2.out rfl)]; rfl
    clear hs5 hst5 hst6 hx1
    refine hK.out _ _ m0 (fun hHeld => ?_)
    clear hK K
    try simp only [List.setIfInBounds_toArray, List.set_cons_zero, List.set_cons_succ]
    refine take_on 12 49 (.pointer (some ⟨b, 0, none⟩)) rfl (by kernel_rfl) (by kernel_rfl) (by kernel_rfl) (fun _ _ _ _ _ h => h) ?_ (by assumption) ?_
    · (rintro oi h; cases h; refine ⟨by rfl, ?_⟩; intro W hSw; (try dsimp only at hSw); try dsimp only at hSw
       go_simp)
    try simp only [List.setIfInBounds_toArray, List.set_cons_zero, List.set_cons_succ]
    refine take_on 13 50 (.pointer (some ⟨b, 0, none⟩)) rfl (by kernel_rfl) (by kernel_rfl) (by kernel_rfl) (fun _ _ _ _ _ h => h) ?_ (by assumption) ?_
    · (rintro oi h; cases h; refine ⟨by rfl, ?_⟩; intro W hSw; (try dsimp only at hSw); try dsimp only at hSw
       go_simp)
    refine take_on 14 51 (.pointer (some ⟨b, 4, none⟩)) rfl (by kernel_rfl) (by kernel_rfl) (by kernel_rfl) (fun _ _ _ _ _ h => h) ?_ (by assumption) ?_
    · (rintro oi h; cases h; refine ⟨by rfl, ?_⟩; intro W hSw; (try dsimp only at hSw); try dsimp only at hSw
       go_simp)
    refine wpAnyH_ready (rs := [15]) (by kernel_rfl) (by simp) ?_
    refine AllReadyH.cons rfl (fun K hK => ?_) AllReadyH.nil
    go_simp
    refine hK.out _ _ (s_set (by simp only; omega) m0) (fun hHeld => ?_)
    clear hK K
    try simp only [List.setIfInBounds_toArray, List.set_cons_zero, List.set_cons_succ]
    refine wpAnyH_done (by kernel_rfl) ?_ _
    clear hc9 hfz hc4 hs1 m0 hHeld
    have HCL : Hid ((s.cs ++ [(n, p.cl)]).length = s.cs.length + 1) := Lib.hid (by simp)
    generalize w5.setCell ⟨b, 4, none⟩ (.slice (some ⟨gg, 0, none⟩) (s.cs.length + 1) cap1) = w6 at HS5 HST5 HP5 HQ5 HSB5 HBP5 ⊢
    have hBf : Below w6.heap.size w6 w6.drew := (Below.refl w6.heap.size w6).drew
    have HS6 := Lib.hid (HS5.out.below hBf)
    have HST6 := Lib.hid (HST5.out.trans (Stp.below hBf HS5.out.base))
    have HP6 := Lib.hid (HP5.out.keep hBf)
    have HQ6 := Lib.hid (HQ5.out.keep hBf)
    have a4 : w6.drew.cell? ⟨w.heap.size, 4, none⟩ = some (.slice bo bd.length bc) := by rw [blk_cell (blk_below HSB5.out hBf)]; rfl
    have e0 : w6.drew.cell? ⟨w.heap.size + 1, 0, none⟩ = some (.slice po p.dn.length pc) := by rw [blk_cell (blk_below HBP5.out hBf)]; rfl
    have e1 : w6.drew.cell? ⟨w.heap.size + 1, 1, none⟩ = some (.slice eo p.de.length ec) := by rw [blk_cell (blk_below HBP5.out hBf)]; rfl
    have b4 : w6.drew.cell? ⟨b, 4, none⟩ = some (.slice (some ⟨gg, 0, none⟩) (s.cs.length + 1) cap1) := HS6.out.box.read.2.1
    clear HS5 HST5 HP5 HQ5 HSB5 HBP5 hBf
    go_wp2_with fail
    refine wp_region_still_tail 11 (by kernel_rfl) (by kernel_rfl) ?_
    change wpStill _ _ w6.drew (fun a' => wpList _ _ _ _ a' w6.drew) _ _
    generalize w6.drew = w7 at *
    simp only [List.take_succ_cons, List.take_zero, List.drop_succ_cons, List.drop_zero]
    repeat still_step
    refine wpStill_nil ?_
    clear a4 e0 e1 b4
    go_wp2_with fail
    have hz2 : sz (⟨s.ns, s.ats, s.cs ++ [(n, p.cl)], s.ch⟩ : Bs) + 42 * cnt bd ≤ 100000 := by unfold sz at hz ⊢; simp only [List.length_append, List.length_singleton]; omega
    refine (BlkOk.use hIH w0 b nm d ⟨s.ns, s.ats, s.cs ++ [(n, p.cl)], s.ch⟩ _ _ ⟨s.cs.length, p.dn, p.de⟩ _ _ S' E w7 hM (Lib.hid HS6.out) HP6 HQ6 hB ho (Lib.hid hz2) (Lib.hid hal.out) (Lib.hid ⟨hga.out.1, hga.out.2⟩) (Lib.hid ⟨hgp.out.1, hgp.out.2⟩) HRB).mono ?_
    rintro e w8 ⟨rfl, hst8, hold8, hx8⟩
    have HST8 := Lib.hid (HST6.out.trans hst8)
    have HX8 := Lib.hid hx8
    have HO8 := Lib.hid hold8
    clear hst8 hx8 hold8
    go_wp2
    go_ret
    exact ⟨rfl, HST8.out, HO8.out, HX8.out⟩
end Go.Proofs.YtcdoicgbjoikkaaGreatDoor.nor
