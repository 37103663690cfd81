/-
  What readCluster of the landed builder does (layer 12), over what readBlock does with its body. Conditions: a builder in memory that knows at most 100000 names; the library's variable MaxLen holds a number.
  What read and readBlock of the landed builder do (layer 12): they read a block of statements. Conditions: valid statements of few refs in memory, a builder in memory that knows at most 100000 names; the library's variable MaxLen holds a number.
  What readBlock of the landed builder does (layer 12): it reads a block of statements, and the blocks in it. Conditions: valid statements of few refs in memory, a builder in memory that knows at most 100000 names; the library's variable MaxLen holds a number.
-/
import Derived.Test.YtcdoicgbjoikkaaGreatDoorMnf
namespace Go.Proofs.YtcdoicgbjoikkaaGreatDoor.nor
open Go.RowKit lex tre att
theorem info_cl:(Tryz.prog.info? 47).map (fun i=>(i.zero,i.size,i.bytes))=some (some (.agg #[.string ⟨#[]⟩,.int .i64 0]),2,24):=by kernel_rfl
def BlkOk (l:List St):Prop:=∀ (w0:World) (b:Nat) (nm:Nm) (d:Bool) (s:Bs) (x:BdV) (bv:Value) (p:Pl) (dv ev:Value) (w:World),Mx w0→BdG w0 w b nm d s.g x→PrsT w dv p.dn→PrsT w ev p.de→Sts w0 bv l→okB l→sz s+42*cnt l≤100000→s.ns.length=s.ats.length→GaS s→GaP p →
 Calls Tryz.prog 24 #[.pointer (some ⟨b,0,none⟩),bv,.int .i64 p.cl,.agg #[dv,ev]] w (MenOut w0 b nm d (blkC l p s).1 (blkC l p s).2 w)
theorem BlkOk.use {l:List St}(h:Hid (BlkOk l))(w0:World)(b:Nat)(nm:Nm)(d:Bool)(s:Bs)(x:BdV)(bv:Value)(p:Pl)(dv ev:Value)(S':Bs)(E:Int)(w:World)(hM:Hid (Mx w0))(hS:Hid (BdG w0 w b nm d s.g x))(hp:Hid (PrsT w dv p.dn))(hq:Hid (PrsT w ev p.de))(hs:Hid (Sts w0 bv l))(ho:Hid (okB l))(hz:Hid (sz s+42*cnt l≤100000))(hl:Hid (s.ns.length=s.ats.length))(hg:Hid (GaS s))(hgp:Hid (GaP p))(hR:Hid (blkC l p s=(S',E))) :
    Calls Tryz.prog 24 #[.pointer (some ⟨b,0,none⟩),bv,.int .i64 p.cl,.agg #[dv,ev]] w (MenOut w0 b nm d S' E w):=by
 have:=h.out w0 b nm d s x bv p dv ev w hM.out hS.out hp.out hq.out hs.out ho.out hz.out hl.out hg.out hgp.out
 rw [hR.out] at this;exact this
set_option maxRecDepth 100000 in
set_option maxHeartbeats 2000000 in
theorem readcluster_of (w0:World)(b:Nat)(nm:Nm)(d:Bool)(s:Bs)(x:BdV)(n:Nm)(r a:List Pr)(bd:List St)(rv av bv:Value)(p:Pl)(dv ev:Value)(S':Bs)(E:Int)(w:World)(hM:Hid (Mx w0))(hIH:Hid (BlkOk bd))(hS:Hid (BdG w0 w b nm d s.g x))(hp:Hid (PrsT w dv p.dn))(hq:Hid (PrsT w ev p.de))(hR:Hid (Prs w0 rv r))(hA:Hid (Prs w0 av a))(hB:Hid (Sts w0 bv bd))(ho:Hid (okB bd))(hz:sz s+42*(1+cnt bd)≤100000)(hal:Hid (s.ns.length=s.ats.length))(hn:n.length≤maxLen)(hga:Hid (GaS s))(hgp:Hid (GaP p))(hE:Hid (stmC (.mk 5 n r a bd) p s=(S',E))) :
    Calls Tryz.prog 100 #[.pointer (some ⟨b,0,none⟩),.agg #[.int .i64 5,.string (bb n),rv,av,bv],.int .i64 p.cl,.agg #[dv,ev]] w (MenOut w0 b nm d S' E w):=by
 obtain ⟨po,pc,rfl,_,_,_⟩:=id hp.out.prs
 obtain ⟨eo,ec,rfl,_,_,_⟩:=id hq.out.prs
 obtain ⟨ro,rc,rfl,_,_,_⟩:=id hR.out
 obtain ⟨ao,ac,rfl,_,_,_⟩:=id hA.out
 obtain ⟨bo,bc,rfl,_,_,_⟩:=id hB.out
 have hb1:=al2 w (.cells #[.int .i64 5,.string (bb n),.slice ro r.length rc,.slice ao a.length ac,.slice bo bd.length bc] 56) (.cells #[.slice po p.dn.length pc,.slice eo p.de.length ec] 70)
 have hs1:=hS.out.below hb1
 have hsb:blk ((w.alloc (.cells #[.int .i64 5,.string (bb n),.slice ro r.length rc,.slice ao a.length ac,.slice bo bd.length bc] 56)).alloc (.cells #[.slice po p.dn.length pc,.slice eo p.de.length ec] 70)) w.heap.size 56 #[.int .i64 5,.string (bb n),.slice ro r.length rc,.slice ao a.length ac,.slice bo bd.length bc]:=by
  have h:=al1 (w.alloc (.cells #[.int .i64 5,.string (bb n),.slice ro r.length rc,.slice ao a.length ac,.slice bo bd.length bc] 56)) (.cells #[.slice po p.dn.length pc,.slice eo p.de.length ec] 70)
  unfold att.blk
  rw [h.block _ (by simp)]
  exact blk_new w #[.int .i64 5,.string (bb n),.slice ro r.length rc,.slice ao a.length ac,.slice bo bd.length bc] 56
 have hbp:blk ((w.alloc (.cells #[.int .i64 5,.string (bb n),.slice ro r.length rc,.slice ao a.length ac,.slice bo bd.length bc] 56)).alloc (.cells #[.slice po p.dn.length pc,.slice eo p.de.length ec] 70)) (w.heap.size+1) 70 #[.slice po p.dn.length pc,.slice eo p.de.length ec]:=by
  have h:=blk_new (w.alloc (.cells #[.int .i64 5,.string (bb n),.slice ro r.length rc,.slice ao a.length ac,.slice bo bd.length bc] 56)) #[.slice po p.dn.length pc,.slice eo p.de.length ec] 70
  rwa [World.size_alloc] at h
 have HPP:=Lh (hp.out.keep hb1)
 have HQP:=Lh (hq.out.keep hb1)
 have HST1:Hid (Stp w0 w ((w.alloc (.cells #[.int .i64 5,.string (bb n),.slice ro r.length rc,.slice ao a.length ac,.slice bo bd.length bc] 56)).alloc (.cells #[.slice po p.dn.length pc,.slice eo p.de.length ec] 70))):=Lh (Stp.below hb1 hS.out.base)
 have HS1:=Lh hs1
 have HSB:=Lh hsb
 have HBP:=Lh hbp
 have hPb:w.heap.size≠b:=Nat.ne_of_gt hS.out.lt
 have hlt0:b < w.heap.size:=hS.out.lt
 have hE1:=hE.out
 rw [stmC_5] at hE1
 obtain ⟨R,hR1⟩:∃ R,clusd s.cs n=R:=⟨_,rfl⟩
 obtain ⟨Q,hQ1⟩:∃ Q,decide (0≤nodeI s.ns n 0)=Q:=⟨_,rfl⟩
 obtain ⟨ii,hii⟩:∃ i,(if 0≤nodeI s.ns n 0 then nodeI s.ns n 0 else 0)=i:=⟨_,rfl⟩
 have HRQ:Hid ((S',E)=if (R || Q)=true then (s,6) else blkC bd ⟨s.cs.length,p.dn,p.de⟩ ⟨s.ns,s.ats,s.cs ++ [(n,p.cl)],s.ch⟩):=Lh (by
  rw [← hE1,hR1]
  subst hQ1
  by_cases h0:0≤nodeI s.ns n 0
  ·rw [if_pos (Or.inr h0),decide_eq_true h0,Bool.or_true,if_pos rfl]
  ·rw [decide_eq_false h0,Bool.or_false]
   cases R
   ·rw [if_neg (by simp [h0]),if_neg (by decide)]
   ·rw [if_pos (Or.inl rfl),if_pos rfl])
 have HR1:=Lh hR1
 have HQ1:=Lh hQ1
 have HII:=Lh hii
 obtain ⟨nv,cv,cav,hv,mb,kb,avs,hvs⟩:=x
 obtain ⟨co,cc,hcv,-,-⟩:=own_form HS1.out.cr
 simp only [Bs.g] at hcv
 subst hcv
 have a1:((w.alloc (.cells #[.int .i64 5,.string (bb n),.slice ro r.length rc,.slice ao a.length ac,.slice bo bd.length bc] 56)).alloc (.cells #[.slice po p.dn.length pc,.slice eo p.de.length ec] 70)).cell? ⟨w.heap.size,1,none⟩=some (.string (bb n)):=by rw [blk_cell HSB.out];rfl
 have b6:((w.alloc (.cells #[.int .i64 5,.string (bb n),.slice ro r.length rc,.slice ao a.length ac,.slice bo bd.length bc] 56)).alloc (.cells #[.slice po p.dn.length pc,.slice eo p.de.length ec] 70)).cell? ⟨b,6,none⟩=some (.map (some mb)):=HS1.out.box.read.2.2.2.1
 have b7:((w.alloc (.cells #[.int .i64 5,.string (bb n),.slice ro r.length rc,.slice ao a.length ac,.slice bo bd.length bc] 56)).alloc (.cells #[.slice po p.dn.length pc,.slice eo p.de.length ec] 70)).cell? ⟨b,7,none⟩=some (.map (some kb)):=HS1.out.box.read.2.2.2.2.1
 obtain ⟨W1,hW1⟩:∃ W1,(w.alloc (.cells #[.int .i64 5,.string (bb n),.slice ro r.length rc,.slice ao a.length ac,.slice bo bd.length bc] 56)).alloc (.cells #[.slice po p.dn.length pc,.slice eo p.de.length ec] 70)=W1:=⟨_,rfl⟩
 have HW1:=Lh hW1
 rw [hW1] at HPP HQP HST1 HS1 HSB HBP a1 b6 b7
 clear hs1 hb1 hsb hbp hE hS hp hq hE1 hR1 hQ1 hii hW1
 have hN:∀ k,Below W1.heap.size W1 (W1.drewN k):=drew_n W1
 have hm1:∀ k,(Instr.lookup 62 (.map (some mb)) (.string (bb n)) true).run Tryz.prog (W1.drewN k)=.ok (.tuple #[.int .i64 ii,.bool Q]) (W1.drewN k):=fun k=>(HS1.out.below (hN k)).mm.lookOk n hn HII.out HQ1.out
 have hm2:∀ k,(Instr.lookup 63 (.map (some kb)) (.string (bb n)) false).run Tryz.prog (W1.drewN k)=.ok (.bool R) (W1.drewN k):=fun k=>(HS1.out.below (hN k)).km.look n hn HR1.out
 go_enter Tryz.func100,Tryz.ntmps100
 go_wp2_with fail
 rw [HW1.out]
 clear HW1
 go_quiet (fail)
 go_wp2_with fail
 obtain ⟨q0,hq0⟩:∃ q0,q0=nq:=⟨_,rfl⟩
 subst hq0
 cases Q
 case true =>
  go_quiet (fail)
  go_wp2_with fail
  have HE6:Hid (S'=s∧E=6):=Lh (by have h:=HRQ.out;rw [Bool.or_true,if_pos rfl] at h;exact Prod.mk.inj h)
  obtain rfl:6=E:=HE6.out.2.symm
  have hBq:=(drew_n W1 q0).trans (show Below W1.heap.size (W1.drewN q0) ((W1.drewN q0).drewN nq) from drew_n (W1.drewN q0) nq)
  go_ret
  exact ⟨rfl,HST1.out.trans (Stp.below hBq HS1.out.base),(HS1.out.below hBq).old,fun q=>absurd q (by decide)⟩
 cases R
 case true =>
  go_quiet (fail)
  go_wp2_with fail
  have HE6:Hid (S'=s∧E=6):=Lh (by have h:=HRQ.out;rw [Bool.true_or,if_pos rfl] at h;exact Prod.mk.inj h)
  obtain rfl:6=E:=HE6.out.2.symm
  have hBq:=(drew_n W1 q0).trans (show Below W1.heap.size (W1.drewN q0) ((W1.drewN q0).drewN nq) from drew_n (W1.drewN q0) nq)
  go_ret
  exact ⟨rfl,HST1.out.trans (Stp.below hBq HS1.out.base),(HS1.out.below hBq).old,fun q=>absurd q (by decide)⟩
 have HRB:Hid (blkC bd ⟨s.cs.length,p.dn,p.de⟩ ⟨s.ns,s.ats,s.cs ++ [(n,p.cl)],s.ch⟩=(S',E)):=Lh (by have h:=HRQ.out;rw [if_neg (by decide)] at h;exact h.symm)
 go_quiet (fail)
 go_wp2_with fail
 clear HRQ hm1 hm2 hN a1 b6 b7
 have hBd:Below W1.heap.size W1 (((W1.drewN q0).drewN nq).drew):=((drew_n W1 q0).trans (show Below W1.heap.size (W1.drewN q0) ((W1.drewN q0).drewN nq) from drew_n (W1.drewN q0) nq)).drew
 have hcl:s.cs.length≤100000:=by unfold sz at hz;omega
 have hsd:=HS1.out.below hBd
 have HSTd:=Lh (HST1.out.trans (Stp.below hBd HS1.out.base))
 have HPd:=Lh (HPP.out.keep hBd)
 have HQd:=Lh (HQP.out.keep hBd)
 have HSBd:=Lh (blk_below HSB.out hBd)
 have HBPd:=Lh (blk_below HBP.out hBd)
 refine wp_region_still_tail 6 (by kernel_rfl) (by kernel_rfl) ?_
 change wpStill _ _ (((W1.drewN q0).drewN nq).drew) (fun a'=>wpList _ _ _ _ a' (((W1.drewN q0).drewN nq).drew)) _ _
 clear hBd HS1 HST1 HPP HQP HSB HBP
 generalize ((W1.drewN q0).drewN nq).drew=wd at *
 obtain ⟨w2,hput,hm2,hg2⟩:=hsd.km.put n p.cl hn hcl
 obtain ⟨hs2,hst2⟩:=hsd.putK hg2 hm2
 have HS2:=Lh hs2
 have HST2:=Lh (HSTd.out.trans hst2)
 have HP2:=Lh (hst2.frm.prs HPd.out)
 have HQ2:=Lh (hst2.frm.prs HQd.out)
 have HSB2:=Lh (hst2.frm.blk HSBd.out rfl)
 have HBP2:=Lh (hst2.frm.blk HBPd.out rfl)
 have b7:=hsd.box.read.2.2.2.2.1
 have a1:wd.cell? ⟨w.heap.size,1,none⟩=some (.string (bb n)):=by rw [blk_cell HSBd.out];rfl
 clear hsd hs2 hst2 hm2 hg2 HPd HQd HSBd HBPd HSTd
 simp only [List.take_succ_cons,List.take_zero,List.drop_succ_cons,List.drop_zero]
 repeat still_step
 refine wpStill_nil ?_
 go_wp2_with fail
 clear a1 b7 hput
 have hBe:Below w2.heap.size w2 w2.drew:=(Below.refl w2.heap.size w2).drew
 have hs1:w2.cell? ⟨w.heap.size,1,none⟩=some (.string (bb n)):=by rw [blk_cell HSB2.out];rfl
 have hc4:w2.drew.cell? ⟨b,4,none⟩=some (.slice co s.cs.length cc):=HS2.out.box.read.2.1
 obtain ⟨i9,hi0,hz0,hz1,hz2⟩:=info_of info_cl
 have hbase:=HS2.out.base
 have hblt:=HS2.out.lt
 refine wp_region_held_drew (S:=(fun W:World=>W.cell? ⟨w.heap.size,1,none⟩=some (.string (bb n)))) (by kernel_rfl) (s_drew hs1) (fun hHeld=>?_)
 refine tk 0 37 (.pointer (some ⟨b,0,none⟩)) ?_ ?_
 ·(intro W hSw;(try dsimp only at hSw);try dsimp only at hSw
   go_simp)
 try simp only [sA,sB,sC]
 refine tk 1 38 (.pointer (some ⟨b,0,none⟩)) ?_ ?_
 ·(intro W hSw;(try dsimp only at hSw);try dsimp only at hSw
   go_simp)
 try simp only [sA,sB,sC]
 refine tk 2 39 (.pointer (some ⟨b,0,none⟩)) ?_ ?_
 ·(intro W hSw;(try dsimp only at hSw);try dsimp only at hSw
   go_simp)
 try simp only [sA,sB,sC]
 refine tk 3 40 (.pointer (some ⟨b,0,none⟩)) ?_ ?_
 ·(intro W hSw;(try dsimp only at hSw);try dsimp only at hSw
   go_simp)
 try simp only [sA,sB,sC]
 refine tk 4 41 (.pointer (some ⟨b,4,none⟩)) ?_ ?_
 ·(intro W hSw;(try dsimp only at hSw);try dsimp only at hSw
   go_simp)
 try simp only [sA,sB,sC]
 refine tk 6 43 (.pointer (some ⟨w.heap.size,1,none⟩)) ?_ ?_
 ·(intro W hSw;(try dsimp only at hSw);try dsimp only at hSw
   go_simp)
 try simp only [sA,sB,sC]
 refine tk 7 44 (.string (bb n)) ?_ ?_
 ·(intro W hSw;(try dsimp only at hSw);try dsimp only at hSw
   go_simp)
 try simp only [sA,sB,sC]
 refine tk 8 45 (.int .i64 p.cl) ?_ ?_
 ·(intro W hSw;(try dsimp only at hSw);try dsimp only at hSw
   go_simp)
 try simp only [sA,sB,sC]
 refine tk 9 46 (.agg #[.string (bb n),.int .i64 p.cl]) ?_ ?_
 ·(intro W hSw;(try dsimp only at hSw);try dsimp only at hSw
   go_simp)
 try simp only [sA,sB,sC]
 refine wpAnyH_ready (rs:=[5,10]) (by kernel_rfl) (by simp) ?_
 refine AllReadyH.cons rfl (fun K hK=>?_) (AllReadyH.cons rfl (fun K hK=>?_) AllReadyH.nil)
 ·
  go_simp
  refine hK.out _ _ (s_drew hs1) (fun hHeld=>?_)
  clear hK K
  try simp only [sA,sB,sC]
  refine wpAnyH_ready (rs:=[10]) (by kernel_rfl) (by simp) ?_
  refine AllReadyH.cons rfl (fun K hK=>?_) AllReadyH.nil
  go_simp
  refine hK.out _ _ (s_alloc (s_drew hs1)) (fun hHeld=>?_)
  clear hK K
  try simp only [sA,sB,sC]
  refine wpAnyH_ready (rs:=[11]) (by kernel_rfl) (by simp) ?_
  refine AllReadyH.cons rfl (fun K hK=>?_) AllReadyH.nil
  refine step_append_lies _ (by rfl) _ _ _ (by rfl) w0.heap.size 47 i9 _ 2 24 Tryz.underlying29 hi0 hz0 hz1 hz2 rfl (by omega) (.slice co s.cs.length cc) s.cs.length (s.cs.flatMap clC) (by rfl) (by exact row_below HS2.out.cr (by repeat (first | (with_reducible exact Below.refl _ _) | (with_reducible refine Below.drew ?_) | (with_reducible refine b_allocN ?_ ?_) | (simp;done) | omega))) ⟨w2.heap.size,0,none⟩ 1 1 [.string (bb n),.int .i64 p.cl] (by rfl) (by rfl) (by exact World.news_of_block (cs:=#[.string (bb n),.int .i64 p.cl]) (t:=47) (fr:=(0,0)) (heap_alloc_new _ _)) (by simp [Value.oneCell']) (by omega) (by unfold maxLen;omega) (by omega) (by simp;omega) (w2.heap.size+1) (by simp) ?_
  intro gg cap1 w5 hown1 hgrow hat1 hlt5
  obtain ⟨⟨hx1,hst5⟩,hs5,hst6⟩:=HS2.out.growC (c:=(n,p.cl)) (by exact (by repeat (first | (with_reducible exact Below.refl _ _) | (with_reducible refine Below.drew ?_) | (with_reducible refine b_allocN ?_ ?_) | (simp;done) | omega))) hgrow (by show World.ownsRow _ _ _ _ _ (s.cs ++ [(n,p.cl)]).length _;rw [List.length_append,List.flatMap_append];exact hown1)
  have hfz:=hx1.open 4
  have hc9:=hx1.read.2.1
  have HS5:=Lh hs5
  have HST5:=Lh (HST2.out.trans hst6)
  have HP5:=Lh (hst6.frm.prs HP2.out)
  have HQ5:=Lh (hst6.frm.prs HQ2.out)
  have HSB5:=Lh (hst6.frm.blk HSB2.out rfl)
  have HBP5:=Lh (hst6.frm.blk HBP2.out rfl)
  have m0:w5.cell? ⟨w.heap.size,1,none⟩=some (.string (bb n)):=by rw [blk_cell (hst5.frm.blk HSB2.out rfl)];rfl
  clear hs5 hst5 hst6 hx1
  refine hK.out _ _ m0 (fun hHeld=>?_)
  clear hK K
  try simp only [sA,sB,sC]
  refine tk 12 49 (.pointer (some ⟨b,0,none⟩)) ?_ ?_
  ·(intro W hSw;(try dsimp only at hSw);try dsimp only at hSw
    go_simp)
  try simp only [sA,sB,sC]
  refine tk 13 50 (.pointer (some ⟨b,0,none⟩)) ?_ ?_
  ·(intro W hSw;(try dsimp only at hSw);try dsimp only at hSw
    go_simp)
  refine tk 14 51 (.pointer (some ⟨b,4,none⟩)) ?_ ?_
  ·(intro W hSw;(try dsimp only at hSw);try dsimp only at hSw
    go_simp)
  refine wpAnyH_ready (rs:=[15]) (by kernel_rfl) (by simp) ?_
  refine AllReadyH.cons rfl (fun K hK=>?_) AllReadyH.nil
  go_simp
  refine hK.out _ _ (s_set (by simp only;omega) m0) (fun hHeld=>?_)
  clear hK K
  try simp only [sA,sB,sC]
  refine wpAnyH_done (by kernel_rfl) ?_ _
  clear hc9 hfz hc4 hs1 m0 hHeld
  have HCL:Hid ((s.cs ++ [(n,p.cl)]).length=s.cs.length+1):=Lh (by simp)
  generalize w5.setCell ⟨b,4,none⟩ (.slice (some ⟨gg,0,none⟩) (s.cs.length+1) cap1)=w6 at HS5 HST5 HP5 HQ5 HSB5 HBP5 ⊢
  have hBf:Below w6.heap.size w6 w6.drew:=(Below.refl w6.heap.size w6).drew
  have HS6:=Lh (HS5.out.below hBf)
  have HST6:=Lh (HST5.out.trans (Stp.below hBf HS5.out.base))
  have HP6:=Lh (HP5.out.keep hBf)
  have HQ6:=Lh (HQ5.out.keep hBf)
  have a4:w6.drew.cell? ⟨w.heap.size,4,none⟩=some (.slice bo bd.length bc):=by rw [blk_cell (blk_below HSB5.out hBf)];rfl
  have e0:w6.drew.cell? ⟨w.heap.size+1,0,none⟩=some (.slice po p.dn.length pc):=by rw [blk_cell (blk_below HBP5.out hBf)];rfl
  have e1:w6.drew.cell? ⟨w.heap.size+1,1,none⟩=some (.slice eo p.de.length ec):=by rw [blk_cell (blk_below HBP5.out hBf)];rfl
  have b4:w6.drew.cell? ⟨b,4,none⟩=some (.slice (some ⟨gg,0,none⟩) (s.cs.length+1) cap1):=HS6.out.box.read.2.1
  clear HS5 HST5 HP5 HQ5 HSB5 HBP5 hBf
  go_wp2_with fail
  refine wp_region_still_tail 11 (by kernel_rfl) (by kernel_rfl) ?_
  change wpStill _ _ w6.drew (fun a'=>wpList _ _ _ _ a' w6.drew) _ _
  generalize w6.drew=w7 at *
  simp only [List.take_succ_cons,List.take_zero,List.drop_succ_cons,List.drop_zero]
  repeat still_step
  refine wpStill_nil ?_
  clear a4 e0 e1 b4
  go_wp2_with fail
  have hz2:sz (⟨s.ns,s.ats,s.cs ++ [(n,p.cl)],s.ch⟩:Bs)+42*cnt bd≤100000:=by unfold sz at hz ⊢;simp only [List.length_append,List.length_singleton];omega
  refine (BlkOk.use hIH w0 b nm d ⟨s.ns,s.ats,s.cs ++ [(n,p.cl)],s.ch⟩ _ _ ⟨s.cs.length,p.dn,p.de⟩ _ _ S' E w7 hM (Lh HS6.out) HP6 HQ6 hB ho (Lh hz2) (Lh hal.out) (Lh ⟨hga.out.1,hga.out.2⟩) (Lh ⟨hgp.out.1,hgp.out.2⟩) HRB).mono ?_
  rintro e w8 ⟨rfl,hst8,hold8,hx8⟩
  have HST8:=Lh (HST6.out.trans hst8)
  have HX8:=Lh hx8
  have HO8:=Lh hold8
  clear hst8 hx8 hold8
  go_wp2
  go_ret
  exact ⟨rfl,HST8.out,HO8.out,HX8.out⟩
 ·
  have hc4a:((w2.alloc (.cells #[.string (bb n),.int .i64 p.cl] 47)).drew).cell? ⟨b,4,none⟩=some (.slice co s.cs.length cc):=s_alloc (o:=.cells #[.string (bb n),.int .i64 p.cl] 47) (show w2.cell? _=_ from hc4)
  go_simp
  refine hK.out _ _ (s_alloc (s_drew hs1)) (fun hHeld=>?_)
  clear hK K
  try simp only [sA,sB,sC]
  refine wpAnyH_ready (rs:=[5]) (by kernel_rfl) (by simp) ?_
  refine AllReadyH.cons rfl (fun K hK=>?_) AllReadyH.nil
  go_simp
  refine hK.out _ _ (s_alloc (s_drew hs1)) (fun hHeld=>?_)
  clear hK K
  try simp only [sA,sB,sC]
  refine wpAnyH_ready (rs:=[11]) (by kernel_rfl) (by simp) ?_
  refine AllReadyH.cons rfl (fun K hK=>?_) AllReadyH.nil
  refine step_append_lies _ (by rfl) _ _ _ (by rfl) w0.heap.size 47 i9 _ 2 24 Tryz.underlying29 hi0 hz0 hz1 hz2 rfl (by omega) (.slice co s.cs.length cc) s.cs.length (s.cs.flatMap clC) (by rfl) (by exact row_below HS2.out.cr (by repeat (first | (with_reducible exact Below.refl _ _) | (with_reducible refine Below.drew ?_) | (with_reducible refine b_allocN ?_ ?_) | (simp;done) | omega))) ⟨w2.heap.size,0,none⟩ 1 1 [.string (bb n),.int .i64 p.cl] (by rfl) (by rfl) (by exact World.news_of_block (cs:=#[.string (bb n),.int .i64 p.cl]) (t:=47) (fr:=(0,0)) (heap_alloc_new _ _)) (by simp [Value.oneCell']) (by omega) (by unfold maxLen;omega) (by omega) (by simp;omega) (w2.heap.size+1) (by simp) ?_
  intro gg cap1 w5 hown1 hgrow hat1 hlt5
  obtain ⟨⟨hx1,hst5⟩,hs5,hst6⟩:=HS2.out.growC (c:=(n,p.cl)) (by exact (by repeat (first | (with_reducible exact Below.refl _ _) | (with_reducible refine Below.drew ?_) | (with_reducible refine b_allocN ?_ ?_) | (simp;done) | omega))) hgrow (by show World.ownsRow _ _ _ _ _ (s.cs ++ [(n,p.cl)]).length _;rw [List.length_append,List.flatMap_append];exact hown1)
  have hfz:=hx1.open 4
  have hc9:=hx1.read.2.1
  have HS5:=Lh hs5
  have HST5:=Lh (HST2.out.trans hst6)
  have HP5:=Lh (hst6.frm.prs HP2.out)
  have HQ5:=Lh (hst6.frm.prs HQ2.out)
  have HSB5:=Lh (hst6.frm.blk HSB2.out rfl)
  have HBP5:=Lh (hst6.frm.blk HBP2.out rfl)
  have m0:w5.cell? ⟨w.heap.size,1,none⟩=some (.string (bb n)):=by rw [blk_cell (hst5.frm.blk HSB2.out rfl)];rfl
  clear hs5 hst5 hst6 hx1
  refine hK.out _ _ m0 (fun hHeld=>?_)
  clear hK K
  try simp only [sA,sB,sC]
  refine tk 12 49 (.pointer (some ⟨b,0,none⟩)) ?_ ?_
  ·(intro W hSw;(try dsimp only at hSw);try dsimp only at hSw
    go_simp)
  try simp only [sA,sB,sC]
  refine tk 13 50 (.pointer (some ⟨b,0,none⟩)) ?_ ?_
  ·(intro W hSw;(try dsimp only at hSw);try dsimp only at hSw
    go_simp)
  refine tk 14 51 (.pointer (some ⟨b,4,none⟩)) ?_ ?_
  ·(intro W hSw;(try dsimp only at hSw);try dsimp only at hSw
    go_simp)
  refine wpAnyH_ready (rs:=[15]) (by kernel_rfl) (by simp) ?_
  refine AllReadyH.cons rfl (fun K hK=>?_) AllReadyH.nil
  go_simp
  refine hK.out _ _ (s_set (by simp only;omega) m0) (fun hHeld=>?_)
  clear hK K
  try simp only [sA,sB,sC]
  refine wpAnyH_done (by kernel_rfl) ?_ _
  clear hc9 hfz hc4 hs1 m0 hHeld
  have HCL:Hid ((s.cs ++ [(n,p.cl)]).length=s.cs.length+1):=Lh (by simp)
  generalize w5.setCell ⟨b,4,none⟩ (.slice (some ⟨gg,0,none⟩) (s.cs.length+1) cap1)=w6 at HS5 HST5 HP5 HQ5 HSB5 HBP5 ⊢
  have hBf:Below w6.heap.size w6 w6.drew:=(Below.refl w6.heap.size w6).drew
  have HS6:=Lh (HS5.out.below hBf)
  have HST6:=Lh (HST5.out.trans (Stp.below hBf HS5.out.base))
  have HP6:=Lh (HP5.out.keep hBf)
  have HQ6:=Lh (HQ5.out.keep hBf)
  have a4:w6.drew.cell? ⟨w.heap.size,4,none⟩=some (.slice bo bd.length bc):=by rw [blk_cell (blk_below HSB5.out hBf)];rfl
  have e0:w6.drew.cell? ⟨w.heap.size+1,0,none⟩=some (.slice po p.dn.length pc):=by rw [blk_cell (blk_below HBP5.out hBf)];rfl
  have e1:w6.drew.cell? ⟨w.heap.size+1,1,none⟩=some (.slice eo p.de.length ec):=by rw [blk_cell (blk_below HBP5.out hBf)];rfl
  have b4:w6.drew.cell? ⟨b,4,none⟩=some (.slice (some ⟨gg,0,none⟩) (s.cs.length+1) cap1):=HS6.out.box.read.2.1
  clear HS5 HST5 HP5 HQ5 HSB5 HBP5 hBf
  go_wp2_with fail
  refine wp_region_still_tail 11 (by kernel_rfl) (by kernel_rfl) ?_
  change wpStill _ _ w6.drew (fun a'=>wpList _ _ _ _ a' w6.drew) _ _
  generalize w6.drew=w7 at *
  simp only [List.take_succ_cons,List.take_zero,List.drop_succ_cons,List.drop_zero]
  repeat still_step
  refine wpStill_nil ?_
  clear a4 e0 e1 b4
  go_wp2_with fail
  have hz2:sz (⟨s.ns,s.ats,s.cs ++ [(n,p.cl)],s.ch⟩:Bs)+42*cnt bd≤100000:=by unfold sz at hz ⊢;simp only [List.length_append,List.length_singleton];omega
  refine (BlkOk.use hIH w0 b nm d ⟨s.ns,s.ats,s.cs ++ [(n,p.cl)],s.ch⟩ _ _ ⟨s.cs.length,p.dn,p.de⟩ _ _ S' E w7 hM (Lh HS6.out) HP6 HQ6 hB ho (Lh hz2) (Lh hal.out) (Lh ⟨hga.out.1,hga.out.2⟩) (Lh ⟨hgp.out.1,hgp.out.2⟩) HRB).mono ?_
  rintro e w8 ⟨rfl,hst8,hold8,hx8⟩
  have HST8:=Lh (HST6.out.trans hst8)
  have HX8:=Lh hx8
  have HO8:=Lh hold8
  clear hst8 hx8 hold8
  go_wp2
  go_ret
  exact ⟨rfl,HST8.out,HO8.out,HX8.out⟩
theorem beq_yes {x y:Int}(h:x=y):(x == y)=true:=by rw [beq_iff_eq];exact h
theorem beq_no {x y:Int}(h:x≠y):(x == y)=false:=by rw [beq_eq_false_iff_ne];exact h
set_option maxRecDepth 100000 in
set_option maxHeartbeats 2000000 in
theorem read_of (w0:World)(b:Nat)(nm:Nm)(d:Bool)(s:Bs)(x:BdV)(k:Int)(n:Nm)(r a:List Pr)(bd:List St)(rv av bv:Value)(p:Pl)(dv ev:Value)(S':Bs)(E:Int)(w:World)(hM:Hid (Mx w0))(hIH:Hid (BlkOk bd))(hS:Hid (BdG w0 w b nm d s.g x))(hp:Hid (PrsT w dv p.dn))(hq:Hid (PrsT w ev p.de))(hR:Hid (Prs w0 rv r))(hA:Hid (Prs w0 av a))(hB:Hid (Sts w0 bv bd))(ho:Hid (okB bd))(hz:sz s+42*(1+cnt bd)≤100000)(hr40:r.length≤40)(hal:Hid (s.ns.length=s.ats.length))(hn:n.length≤maxLen)(ha60:a.length≤60)(hga:Hid (GaS s))(hgp:Hid (GaP p))(hE:Hid (stmC (.mk k n r a bd) p s=(S',E))) :
    Calls Tryz.prog 56 #[.pointer (some ⟨b,0,none⟩),.agg #[.int .i64 k,.string (bb n),rv,av,bv],.int .i64 p.cl,.agg #[dv,ev]] w (MenOut w0 b nm d S' E w):=by
 obtain ⟨po,pc,rfl,_,_,_⟩:=id hp.out.prs
 obtain ⟨eo,ec,rfl,_,_,_⟩:=id hq.out.prs
 obtain ⟨ro,rc,rfl,_,_,_⟩:=id hR.out
 obtain ⟨ao,ac,rfl,_,_,_⟩:=id hA.out
 obtain ⟨bo,bc,rfl,_,_,_⟩:=id hB.out
 have hb1:=al2 w (.cells #[.int .i64 k,.string (bb n),.slice ro r.length rc,.slice ao a.length ac,.slice bo bd.length bc] 56) (.cells #[.slice po p.dn.length pc,.slice eo p.de.length ec] 70)
 have HS1:=Lh (hS.out.below hb1)
 have HPP:=Lh (hp.out.keep hb1)
 have HQP:=Lh (hq.out.keep hb1)
 have HST1:Hid (Stp w0 w ((w.alloc (.cells #[.int .i64 k,.string (bb n),.slice ro r.length rc,.slice ao a.length ac,.slice bo bd.length bc] 56)).alloc (.cells #[.slice po p.dn.length pc,.slice eo p.de.length ec] 70))):=Lh (Stp.below hb1 hS.out.base)
 have hzl:sz s≤100000:=by omega
 have hzr:sz s+r.length≤100000:=by omega
 have hde:p.de.length≤60:=Nat.le_trans hgp.out.2.len (by decide)
 clear hb1 hS hp hq
 by_cases h1:k=1
 ·subst h1
  have e1:=hE.out
  have HE1:Hid ((stmC (.mk 1 n r a bd) p s).2=E):=Lh (by rw [e1])
  have HG1:Hid ((stmC (.mk 1 n r a bd) p s).1=S'):=Lh (by rw [e1])
  rw [← HG1.out]
  clear e1 hE HG1
  go_enter Tryz.func56,Tryz.ntmps56
  go_wp2_with fail
  generalize (w.alloc (.cells #[.int .i64 1,.string (bb n),.slice ro r.length rc,.slice ao a.length ac,.slice bo bd.length bc] 56)).alloc (.cells #[.slice po p.dn.length pc,.slice eo p.de.length ec] 70)=w1 at *
  refine (readnode_of w0 b nm d s x n r a bd _ _ _ p _ _ E w1 HS1 HPP HQP hR hA hB hzl hal hn ha60 hga hgp HE1).mono ?_
  rintro e w2 ⟨rfl,hst2,hold2,hx2⟩
  have HST2:=Lh (HST1.out.trans hst2)
  have HO2:=Lh hold2
  have HX2:=Lh hx2
  clear hst2 hold2 hx2
  go_wp2
  go_ret
  exact ⟨rfl,HST2.out,HO2.out,HX2.out⟩
 have b1:=beq_no h1
 by_cases h2:k=2
 ·subst h2
  have e1:=hE.out
  have HE1:Hid ((stmC (.mk 2 n r a bd) p s).2=E):=Lh (by rw [e1])
  have HG1:Hid ((stmC (.mk 2 n r a bd) p s).1=S'):=Lh (by rw [e1])
  rw [← HG1.out]
  clear e1 hE HG1 h1
  go_enter Tryz.func56,Tryz.ntmps56
  go_wp2_with fail
  generalize (w.alloc (.cells #[.int .i64 2,.string (bb n),.slice ro r.length rc,.slice ao a.length ac,.slice bo bd.length bc] 56)).alloc (.cells #[.slice po p.dn.length pc,.slice eo p.de.length ec] 70)=w1 at *
  refine (readedge_of w0 b nm d s x n r a bd _ _ _ p _ _ E w1 HS1 HPP HQP hR hA hB hzr hal ha60 hde HE1).mono ?_
  rintro e w2 ⟨rfl,hst2,hold2,hx2⟩
  have HST2:=Lh (HST1.out.trans hst2)
  have HO2:=Lh hold2
  have HX2:=Lh hx2
  clear hst2 hold2 hx2
  go_wp2
  go_ret
  exact ⟨rfl,HST2.out,HO2.out,HX2.out⟩
 have b2:=beq_no h2
 by_cases h5:k=5
 ·subst h5
  clear h1 h2
  go_enter Tryz.func56,Tryz.ntmps56
  go_wp2_with fail
  generalize (w.alloc (.cells #[.int .i64 5,.string (bb n),.slice ro r.length rc,.slice ao a.length ac,.slice bo bd.length bc] 56)).alloc (.cells #[.slice po p.dn.length pc,.slice eo p.de.length ec] 70)=w1 at *
  refine (readcluster_of w0 b nm d s x n r a bd _ _ _ p _ _ S' E w1 hM hIH HS1 HPP HQP hR hA hB ho hz hal hn hga hgp hE).mono ?_
  rintro e w2 ⟨rfl,hst2,hold2,hx2⟩
  have HST2:=Lh (HST1.out.trans hst2)
  have HO2:=Lh hold2
  have HX2:=Lh hx2
  clear hst2 hold2 hx2
  go_wp2
  go_ret
  exact ⟨rfl,HST2.out,HO2.out,HX2.out⟩
 have b5:=beq_no h5
 have e1:=hE.out
 rw [stmC_n h1 h2 h5] at e1
 obtain ⟨rfl,rfl⟩:=Prod.mk.inj e1
 clear e1 h1 h2 h5
 go_enter Tryz.func56,Tryz.ntmps56
 go_wp2
 go_ret
 exact ⟨rfl,HST1.out,HS1.out.old,fun _=>⟨x,HS1.out⟩⟩
theorem st_eta (y:St):St.mk y.kind y.name y.refs y.attrs y.body=y:=by cases y;rfl
theorem TFc.setNew {w w1:World}{b o:Nat}(h:TFc w w1)(hb:w.heap.size≤b)(u:Value):TFc w (w1.setCell ⟨b,o,none⟩ u) :=
 ⟨h.os,h.tape,h.output,by simp [World.setCell];exact h.size,fun k x hk hc=>by
  rw [Below.heap_setCell _ _ _ _ (fun e=>by have:=heap_lt hk;simp only at e;omega)];exact h.block k x hk hc⟩
theorem BdG.far {w0 W:World}{b:Nat}{nm:Nm}{d:Bool}{s:Bg}{x:BdV}{g o:Nat}{t:TypeId}{arr:Array Value}(h:BdG w0 W b nm d s x)(hg:blk W g t arr)(hl:w0.heap.size≤g)(h1:t≠45)(h2:t≠47)(h3:t≠54)(h4:t≠115)(h5:t≠67)(h6:t≠82)(u:Value):BdG w0 (W.setCell ⟨g,o,none⟩ u) b nm d s x :=
 ⟨h.low,h.old.setCell hl _,by
  have hne:b≠g:=fun e=>by
   have q:=h.box
   unfold bdb att.blk at q
   unfold att.blk at hg
   rw [e,hg] at q
   cases q
   exact h5 rfl
  unfold bdb att.blk
  rw [Below.heap_setCell _ _ _ _ hne];exact h.box,row_set h.nr hg (Ne.symm h1) _,row_set h.cr hg (Ne.symm h2) _,row_set h.ar hg (Ne.symm h3) _,row_set h.hr hg (Ne.symm h4) _,h.al,fun i q1 q2=>prsT_set (h.ap i q1 q2) hg h6 _,h.hl,fun i q1 q2=>⟨(h.hp i q1 q2).1,prsT_set (h.hp i q1 q2).2 hg h6 _⟩,h.mm.set hg _,h.km.set hg _,h.ml,h.kl,h.ne⟩
set_option maxRecDepth 100000 in
set_option maxHeartbeats 2000000 in
theorem blk_step (l:List St)(ih:∀ y∈l,BlkOk y.body):BlkOk l:=by
 intro w0 b nm d s x bv p dv ev w hM hS hp hq hs ho hz hal hga hgp
 obtain ⟨RS,hRS⟩:∃ RS,blkC l p s=RS:=⟨_,rfl⟩
 rw [hRS]
 obtain ⟨po,pc,rfl,_,_,_⟩:=id hp.prs
 obtain ⟨eo,ec,rfl,_,_,_⟩:=id hq.prs
 obtain ⟨vo,vc,rfl,hc1,hm1,-⟩:=id hs
 unfold maxLen at hm1
 have hlm:l.length≤9223372036854775807:=by omega
 have hb1:=al1 w (.cells #[.slice po p.dn.length pc,.slice eo p.de.length ec] 70)
 have HM:=Lh hM
 have IH:=Lh ih
 have HS:=Lh hs
 have HS1:=Lh (hS.below hb1)
 have HST1:Hid (Stp w0 w (w.alloc (.cells #[.slice po p.dn.length pc,.slice eo p.de.length ec] 70))):=Lh (Stp.below hb1 hS.base)
 have HP1:=Lh (hp.keep hb1)
 have HQ1:=Lh (hq.keep hb1)
 have HB1:=Lh (blk_new w #[.slice po p.dn.length pc,.slice eo p.de.length ec] 70)
 have HRS:Hid (blkC (l.drop 0) p s=RS):=Lh hRS
 have HZ:Hid (sz s+42*cnt (l.drop 0)≤100000):=Lh hz
 have HO:Hid (okB (l.drop 0)):=Lh ho
 have HAL:=Lh hal
 have HGA:=Lh hga
 have HGP:=Lh hgp
 have hlow:w0.heap.size≤w.heap.size:=hS.base
 clear hc1 hm1 ih hs hS hp hq hb1 hRS hz ho hal hga hgp hM
 go_enter Tryz.func24,Tryz.ntmps24
 go_wp2_with fail
 generalize w.alloc (.cells #[.slice po p.dn.length pc,.slice eo p.de.length ec] 70)=w1 at *
 go_loopw [15] (fun iv wr=>∃ (i:Nat) (si:Bs) (xi:BdV) (pi:Pl) (di ei:Value),iv=.int .i64 i∧i≤l.length∧BdG w0 wr b nm d si.g xi∧Stp w0 w wr∧PrsT wr di pi.dn∧PrsT wr ei pi.de∧blk wr w.heap.size 70 #[di,ei]∧blkC (l.drop i) pi si=RS∧sz si+42*cnt (l.drop i)≤100000∧okB (l.drop i)∧si.ns.length=si.ats.length∧GaS si∧GaP pi∧pi.cl=p.cl) (fun iv _=>l.length - (intOf iv).toNat)
 case atStart=>exact ⟨0,s,x,p,_,_,rfl,Nat.zero_le _,HS1.out,HST1.out,HP1.out,HQ1.out,HB1.out,HRS.out,HZ.out,HO.out,HAL.out,HGA.out,HGP.out,rfl⟩
 case round =>
  obtain ⟨i,si,xi,pi,di,ei,rfl,hi,hsi,hsti,hpi,hqi,hbi,hrs,hzi,hoi,hali,hgai,hgpi,hcli⟩:=hrel
  rename World=>wr
  obtain ⟨do',dc,rfl,_,_,_⟩:=id hpi.prs
  obtain ⟨fo,fc,rfl,_,_,_⟩:=id hqi.prs
  have HSI:=Lh hsi
  have HSTI:=Lh hsti
  have HPI:=Lh hpi
  have HQI:=Lh hqi
  have HBI:=Lh hbi
  have HRSI:=Lh hrs
  have HALI:=Lh hali
  have HGAI:=Lh hgai
  have HGPI:=Lh hgpi
  have HCLI:=Lh hcli
  clear hsi hsti hpi hqi hbi hrs hali hgai hgpi hcli HS1 HST1 HP1 HQ1 HB1 HRS HZ HO HAL HGA HGP
  by_cases hlt:i < l.length
  case neg =>
   obtain rfl:i=l.length:=by omega
   have HRE:Hid (RS=(si,0)):=Lh (by have h:=HRSI.out;rw [List.drop_length,blkC_nil] at h;exact h.symm)
   clear hoi hzi
   go_wp2
   go_ret
   exact ⟨by rw [HRE.out];rfl,HSTI.out,HSI.out.old,fun _=>⟨xi,by rw [HRE.out];exact HSI.out⟩⟩
  obtain ⟨A,rfl,hstA⟩:=(HS.out.keep HSI.out.old).get hlt
  obtain ⟨A',eA,hst0⟩:=HS.out.get hlt
  cases eA
  have hdr:=blkC_drop hlt pi si
  rw [HRSI.out] at hdr
  obtain ⟨ho1,ho2,ho3⟩:=okB_at hoi hlt
  have hct:=cnt_at hlt
  have hih:=IH.out l[i] (List.getElem_mem hlt)
  obtain ⟨y,hy⟩:∃ y,l[i]=y:=⟨_,rfl⟩
  rw [hy] at hstA hst0 hdr ho1 ho2 hct hih
  rw [stAt_eq] at hstA hst0
  obtain ⟨c0,c1,hnm,⟨rv,c2,hrv⟩,⟨av,c3,hav⟩,⟨bv,c4,hbv⟩⟩:=hstA
  obtain ⟨-,-,-,⟨rv0,p2,hrv0⟩,⟨av0,p3,hav0⟩,⟨bv0,p4,hbv0⟩⟩:=hst0
  have e2:rv0=rv:=by have:=cell_later' HSI.out.old p2;rw [c2] at this;exact (Option.some.inj this).symm
  have e3:av0=av:=by have:=cell_later' HSI.out.old p3;rw [c3] at this;exact (Option.some.inj this).symm
  have e4:bv0=bv:=by have:=cell_later' HSI.out.old p4;rw [c4] at this;exact (Option.some.inj this).symm
  subst e2 e3 e4
  obtain ⟨ro,rc,rfl,-,-,-⟩:=id hrv
  obtain ⟨aa,ac,rfl,-,-,-⟩:=id hav
  obtain ⟨bo,bc,rfl,-,-,-⟩:=id hbv
  obtain ⟨E1,hE1⟩:∃ E1,stE y.kind y.name y.attrs=E1:=⟨_,rfl⟩
  rw [hE1] at hdr
  have HDR:=Lh hdr
  have HE1:=Lh hE1
  have HO1:=Lh ho1
  have HO2:=Lh ho2
  have HO3:=Lh ho3
  have HIH:=Lh hih
  have HR0:=Lh hrv0
  have HA0:=Lh hav0
  have HB0:=Lh hbv0
  have hal2:=al1 wr (.cells #[.int .i64 y.kind,.string (bb y.name),.slice ro y.refs.length rc,.slice aa y.attrs.length ac,.slice bo y.body.length bc] 56)
  have HS2:=Lh (HSI.out.below hal2)
  have HST2:Hid (Stp w0 w (wr.alloc (.cells #[.int .i64 y.kind,.string (bb y.name),.slice ro y.refs.length rc,.slice aa y.attrs.length ac,.slice bo y.body.length bc] 56))):=Lh (HSTI.out.trans (Stp.below hal2 HSI.out.base))
  have HP2:=Lh (HPI.out.keep hal2)
  have HQ2:=Lh (HQI.out.keep hal2)
  have HB2:=Lh (blk_below HBI.out hal2)
  have HT2:=Lh (blk_new wr #[.int .i64 y.kind,.string (bb y.name),.slice ro y.refs.length rc,.slice aa y.attrs.length ac,.slice bo y.body.length bc] 56)
  have HA2:=Lh (hav.keep hal2)
  have hM2:Hid (Mx (wr.alloc (.cells #[.int .i64 y.kind,.string (bb y.name),.slice ro y.refs.length rc,.slice aa y.attrs.length ac,.slice bo y.body.length bc] 56))):=mxh HM (HS2.out.old)
  have i0:(0:Int)≤(i:Int):=by omega
  have i1:(i:Int) < (l.length:Int):=by omega
  obtain ⟨lv,hsta⟩:=ho1.1
  obtain ⟨-,h16,-,-⟩:=sta_attrs hsta
  have ha60:y.attrs.length≤60:=by omega
  have hr40:y.refs.length≤40:=ho1.2
  have hk3:=sta_kind3 ho1
  have HK3:=Lh hk3
  have hz2:sz si+42*(1+cnt y.body)≤100000:=by omega
  have hz3:sz si+42*(1+cnt y.body)+42*cnt (l.drop (i+1))≤100000:=by omega
  have HSZ:Hid (sz (stmC y (dflt y.kind y.name y.attrs pi) si).1+42*cnt (l.drop (i+1))≤100000):=Lh (by have:=blk_sz.1 y (dflt y.kind y.name y.attrs pi) si ho1 ho2;omega)
  clear hoi hzi hct hih hdr hE1 ho1 ho2 ho3 hrv hav hbv hrv0 hav0 hbv0 p2 p3 p4 hal2 hsta h16 HSI HSTI HPI HQI HBI HRSI hk3 hz3 hy
  go_wp2_with fail
  obtain ⟨G,hG⟩:∃ G,wr.heap.size=G:=⟨_,rfl⟩
  rw [hG] at HT2
  simp only [hG]
  generalize wr.alloc (.cells #[.int .i64 y.kind,.string (bb y.name),.slice ro y.refs.length rc,.slice aa y.attrs.length ac,.slice bo y.body.length bc] 56)=w2 at *
  clear c0 c1 c2 c3 c4 hG
  refine (atterr_of y _ _ _ E1 w2 hM2 (Lh ⟨_,HR0.out.keep HS2.out.old⟩) HA2 (Lh ⟨_,HB0.out.keep HS2.out.old⟩) HO1 HE1).mono ?_
  rintro e w3 ⟨rfl,hb3⟩
  have HS3:=Lh (HS2.out.below hb3)
  have HST3:=Lh (HST2.out.trans (Stp.below hb3 HS2.out.base))
  have HP3:=Lh (HP2.out.keep hb3)
  have HQ3:=Lh (HQ2.out.keep hb3)
  have HB3:=Lh (blk_below HB2.out hb3)
  have HT3:=Lh (blk_below HT2.out hb3)
  have HA3:=Lh (HA2.out.keep hb3)
  clear hb3 HS2 HST2 HP2 HQ2 HB2 HT2 HA2 hM2
  by_cases hE:E1=0
  case neg =>
   have bE:(E1 != 0)=true:=by rw [bne_iff_ne];exact hE
   have HRE:Hid (RS=(si,E1)):=Lh (by have h:=HDR.out;rw [if_pos hE] at h;exact h)
   have HNE:=Lh hE
   clear hE
   go_wp2
   go_ret
   exact ⟨by rw [HRE.out];rfl,HST3.out,HS3.out.old,fun q=>absurd (by rw [HRE.out] at q;exact q) HNE.out⟩
  subst hE
  have hdr:=HDR.out
  rw [if_neg (by simp)] at hdr
  obtain ⟨T,hT⟩:∃ T,stmC y (dflt y.kind y.name y.attrs pi) si=T:=⟨_,rfl⟩
  rw [hT] at hdr HSZ
  have HDR:=Lh hdr
  have HTT:=Lh hT
  have HGP4:=Lh (HGPI.out.dflt HE1.out HK3.out)
  have HGA4:Hid (GaS T.1):=Lh (by rw [← hT];exact blk_Ga.1 y _ si HO1.out HO2.out HE1.out HGP4.out HGAI.out)
  have HAL4:Hid (T.1.ns.length=T.1.ats.length):=Lh (by rw [← hT];exact blkC_len.1 y _ si HALI.out)
  have t0:w3.cell? ⟨G,0,none⟩=some (.int .i64 y.kind):=by rw [blk_cell HT3.out];rfl
  have t1:w3.cell? ⟨G,1,none⟩=some (.string (bb y.name)):=by rw [blk_cell HT3.out];rfl
  have t2:w3.cell? ⟨G,2,none⟩=some (.slice ro y.refs.length rc):=by rw [blk_cell HT3.out];rfl
  have t3:w3.cell? ⟨G,3,none⟩=some (.slice aa y.attrs.length ac):=by rw [blk_cell HT3.out];rfl
  have t4:w3.cell? ⟨G,4,none⟩=some (.slice bo y.body.length bc):=by rw [blk_cell HT3.out];rfl
  have d0:w3.cell? ⟨w.heap.size,0,none⟩=some (.slice do' pi.dn.length dc):=by rw [blk_cell HB3.out];rfl
  have d1:w3.cell? ⟨w.heap.size,1,none⟩=some (.slice fo pi.de.length fc):=by rw [blk_cell HB3.out];rfl
  clear hdr hT
  by_cases h3:y.kind=3
  ·have b3:=beq_yes h3
   obtain ⟨P,hP⟩:∃ P,dflt 3 y.name y.attrs pi=P:=⟨_,rfl⟩
   have HD3:Hid (dflt y.kind y.name y.attrs pi=P):=Lh (by rw [h3];exact hP)
   have hcl5:P.cl=p.cl:=by rw [← hP,← HCLI.out];unfold dflt;rw [if_pos rfl];split <;> rfl
   have HCL4:=Lh hcl5
   have hdn:pi.dn.length≤60:=Nat.le_trans HGPI.out.1.len (by decide)
   have hde:pi.de.length≤60:=Nat.le_trans HGPI.out.2.len (by decide)
   have HPP:=Lh hP.symm
   have HTS:Hid (stmC (.mk y.kind y.name y.refs y.attrs y.body) P si=(T.1,T.2)):=Lh (by rw [st_eta,← HD3.out,HTT.out])
   rw [HD3.out] at HGP4 HDR
   clear h3 hP HTT HD3
   go_wp2_with fail
   refine (changed_of y.kind y.name ro bo _ rc _ bc y.attrs _ pi P _ _ w3 HP3 HQ3 HA3 hdn hde ha60 HPP).mono ?_
   rintro e w4 ⟨dv4,ev4,rfl,hp4,hq4,hb4⟩
   obtain ⟨do4,dc4,rfl,_,_,_⟩:=id hp4.prs
   obtain ⟨fo4,fc4,rfl,_,_,_⟩:=id hq4.prs
   have hbk:=blk_below HB3.out hb4
   have hbk1:=blk_set (o:=0) hbk (.slice do4 P.dn.length dc4)
   have hbk2:=blk_set (o:=1) hbk1 (.slice fo4 P.de.length fc4)
   have HS5:Hid (BdG w0 ((w4.setCell ⟨w.heap.size,0,none⟩ (.slice do4 P.dn.length dc4)).setCell ⟨w.heap.size,1,none⟩ (.slice fo4 P.de.length fc4)) b nm d si.g xi):=Lh (((HS3.out.below hb4).far hbk hlow (by decide) (by decide) (by decide) (by decide) (by decide) (by decide) _).far hbk1 hlow (by decide) (by decide) (by decide) (by decide) (by decide) (by decide) _)
   have hst4:=HST3.out.trans (Stp.below hb4 HS3.out.base)
   have HST5:Hid (Stp w0 w ((w4.setCell ⟨w.heap.size,0,none⟩ (.slice do4 P.dn.length dc4)).setCell ⟨w.heap.size,1,none⟩ (.slice fo4 P.de.length fc4))):=Lh ⟨(hst4.frm.setNew (Nat.le_refl _) _).setNew (Nat.le_refl _) _,(hst4.bel.setCell hlow _).setCell hlow _⟩
   have HP5:=Lh (prsT_set (o:=1) (prsT_set (o:=0) hp4 hbk (by decide) (.slice do4 P.dn.length dc4)) hbk1 (by decide) (.slice fo4 P.de.length fc4))
   have HQ5:=Lh (prsT_set (o:=1) (prsT_set (o:=0) hq4 hbk (by decide) (.slice do4 P.dn.length dc4)) hbk1 (by decide) (.slice fo4 P.de.length fc4))
   have HB5:Hid (blk ((w4.setCell ⟨w.heap.size,0,none⟩ (.slice do4 P.dn.length dc4)).setCell ⟨w.heap.size,1,none⟩ (.slice fo4 P.de.length fc4)) w.heap.size 70 #[.slice do4 P.dn.length dc4,.slice fo4 P.de.length fc4]):=Lh hbk2
   have hGne:G≠w.heap.size:=fun e=>by
    have q:=HT3.out
    unfold att.blk at q
    have q2:=HB3.out
    unfold att.blk at q2
    rw [e,q2] at q
    cases q
   have u0:=cell_later' hb4 t0
   have u1:=cell_later' hb4 t1
   have u2:=cell_later' hb4 t2
   have u3:=cell_later' hb4 t3
   have u4:=cell_later' hb4 t4
   have y0:w4.cell? ⟨w.heap.size,0,none⟩=some (.slice do' pi.dn.length dc):=by rw [blk_cell hbk];rfl
   have y1:w4.cell? ⟨w.heap.size,1,none⟩=some (.slice fo pi.de.length fc):=by rw [blk_cell hbk];rfl
   have z0:=blk_open hbk 0
   have z1:=blk_open hbk 1
   clear hbk hbk1 hbk2 hst4 hb4 hp4 hq4 t0 t1 t2 t3 t4 d0 d1 HS3 HST3 HP3 HQ3 HB3 HT3 HA3 HPP
   go_wp2_with fail
   generalize (w4.setCell ⟨w.heap.size,0,none⟩ (.slice do4 P.dn.length dc4)).setCell ⟨w.heap.size,1,none⟩ (.slice fo4 P.de.length fc4)=w5 at *
   have hcall:=read_of w0 b nm d si xi y.kind y.name y.refs y.attrs y.body _ _ _ P _ _ T.1 T.2 w5 HM HIH HS5 HP5 HQ5 HR0 HA0 HB0 HO2 hz2 hr40 HALI hnm ha60 HGAI HGP4 HTS
   rw [hcl5] at hcall
   refine hcall.mono ?_
   clear hcall
   rintro e w6 ⟨rfl,hst6,hold6,hx6⟩
   have HST6:=Lh (HST5.out.trans hst6)
   have HO6:=Lh hold6
   have HX6:=Lh hx6
   have HP6:=Lh (hst6.frm.prs HP5.out)
   have HQ6:=Lh (hst6.frm.prs HQ5.out)
   have HB6:=Lh (hst6.frm.blk HB5.out rfl)
   clear hst6 hold6 hx6
   obtain ⟨E2,hE2⟩:∃ E2,T.2=E2:=⟨_,rfl⟩
   have HE2:=Lh hE2
   rw [hE2] at HX6
   simp only [hE2]
   clear hE2
   by_cases hE:E2=0
   ·subst hE
    have HN:Hid (blkC (l.drop (i+1)) (P) T.1=RS):=Lh (by have h:=HDR.out;rw [if_neg (by rw [HE2.out];simp)] at h;exact h.symm)
    go_wp2
    go_roundw
    case rel =>
     obtain ⟨x6,h6⟩:=HX6.out (by simp)
     exact ⟨i+1,T.1,x6,P,_,_,by go_num,by omega,h6,HST6.out,HP6.out,HQ6.out,HB6.out,HN.out,HSZ.out,HO3.out,HAL4.out,HGA4.out,HGP4.out,HCL4.out⟩
    case measure=>simp [intOf];omega
   ·have bE:(E2 != 0)=true:=by rw [bne_iff_ne];exact hE
    have HRE:Hid (RS=(T.1,E2)):=Lh (by have h:=HDR.out;rw [if_pos (by rw [HE2.out];exact hE),HE2.out] at h;exact h)
    have HNE:=Lh hE
    clear hE
    go_wp2
    go_ret
    exact ⟨by rw [HRE.out];rfl,HST6.out,HO6.out,fun q=>absurd (by rw [HRE.out] at q;exact q) HNE.out⟩
  ·have b3:=beq_no h3
   have HD3:Hid (dflt y.kind y.name y.attrs pi=pi):=Lh (dflt_id h3 _ _ _)
   have HTS:Hid (stmC (.mk y.kind y.name y.refs y.attrs y.body) pi si=(T.1,T.2)):=Lh (by rw [st_eta,← HTT.out,HD3.out])
   rw [HD3.out] at HDR HGP4
   have HCL4:=HCLI
   have hcl5:=HCLI.out
   clear h3 HTT HD3
   go_wp2_with fail
   clear t0 t1 t2 t3 t4 d0 d1
   have hcall:=read_of w0 b nm d si xi y.kind y.name y.refs y.attrs y.body _ _ _ pi _ _ T.1 T.2 w3 HM HIH HS3 HP3 HQ3 HR0 HA0 HB0 HO2 hz2 hr40 HALI hnm ha60 HGAI HGP4 HTS
   rw [hcl5] at hcall
   refine hcall.mono ?_
   clear hcall
   rintro e w6 ⟨rfl,hst6,hold6,hx6⟩
   have HST6:=Lh (HST3.out.trans hst6)
   have HO6:=Lh hold6
   have HX6:=Lh hx6
   have HP6:=Lh (hst6.frm.prs HP3.out)
   have HQ6:=Lh (hst6.frm.prs HQ3.out)
   have HB6:=Lh (hst6.frm.blk HB3.out rfl)
   clear hst6 hold6 hx6
   obtain ⟨E2,hE2⟩:∃ E2,T.2=E2:=⟨_,rfl⟩
   have HE2:=Lh hE2
   rw [hE2] at HX6
   simp only [hE2]
   clear hE2
   by_cases hE:E2=0
   ·subst hE
    have HN:Hid (blkC (l.drop (i+1)) (pi) T.1=RS):=Lh (by have h:=HDR.out;rw [if_neg (by rw [HE2.out];simp)] at h;exact h.symm)
    go_wp2
    go_roundw
    case rel =>
     obtain ⟨x6,h6⟩:=HX6.out (by simp)
     exact ⟨i+1,T.1,x6,pi,_,_,by go_num,by omega,h6,HST6.out,HP6.out,HQ6.out,HB6.out,HN.out,HSZ.out,HO3.out,HAL4.out,HGA4.out,HGP4.out,HCL4.out⟩
    case measure=>simp [intOf];omega
   ·have bE:(E2 != 0)=true:=by rw [bne_iff_ne];exact hE
    have HRE:Hid (RS=(T.1,E2)):=Lh (by have h:=HDR.out;rw [if_pos (by rw [HE2.out];exact hE),HE2.out] at h;exact h)
    have HNE:=Lh hE
    clear hE
    go_wp2
    go_ret
    exact ⟨by rw [HRE.out];rfl,HST6.out,HO6.out,fun q=>absurd (by rw [HRE.out] at q;exact q) HNE.out⟩
theorem blk_ok (l:List St):BlkOk l:=lst_ind blk_step l
end Go.Proofs.YtcdoicgbjoikkaaGreatDoor.nor
