/-
  What cluster and block of the landed export's writer do (layer 13): they write the statements of a block. Conditions: a valid graph, the writer's box in memory, the table of powers.
  What declared of the landed export returns (layer 13): the statements of nodes and clusters, and whether all could be written. Conditions: a valid graph in memory, the table of powers.
  The library's slices.Grow and slices.Concat at three lists of statements. Condition: the lists' lengths.
-/
import Derived.Test.YtgmidodmmlmmeaaGreatDoorMee
namespace Go.Proofs.YtgmidodmmlmmeaaGreatDoor.xpt
open Go.RowKit lex tre att nor
def CBO (w0:World)(R:Nat)(g:gra.Gr)(V:Wv)(r:List St × Nat × Nat)(w:World)(e:Ending)(w':World):Prop :=
 ∃ ao D,e=.returned (.slice ao r.1.length r.1.length)∧RC w.heap.size w' (.slice ao r.1.length r.1.length) D∧D.map Sv.s=r.1∧Wc w0 w' R g V r.2.1 r.2.2∧Pk R w w'
theorem agree_set5 {lo hi g:Nat}(w:World)(c0 c1 c2 c3 c4:Value)(h:g < lo):agree lo hi w (((((w.setCell ⟨g,0,none⟩ c0).setCell ⟨g,1,none⟩ c1).setCell ⟨g,2,none⟩ c2).setCell ⟨g,3,none⟩ c3).setCell ⟨g,4,none⟩ c4):=fun q h1 _=>by
 rw [Below.heap_setCell _ _ _ _ (show q≠g by omega),Below.heap_setCell _ _ _ _ (show q≠g by omega),Below.heap_setCell _ _ _ _ (show q≠g by omega),Below.heap_setCell _ _ _ _ (show q≠g by omega),Below.heap_setCell _ _ _ _ (show q≠g by omega)]
set_option maxRecDepth 100000 in
set_option maxHeartbeats 4000000 in
theorem ccl13_of (w0:World)(R:Nat)(g:gra.Gr)(V:Wv)(n k:Nat)(r:List St × Nat × Nat)(w:World)(hIH:Hid (∀ w,Wc w0 w R g V n (k+1)→Calls Tryz.prog 66 #[.pointer (some ⟨R,0,none⟩),.int .i64 k] w (CBO w0 R g V r w)))(hW:Hid (Wc w0 w R g V n k))(hk:k < g.cs.length)(hl:g.cs.length≤16) :
    Calls Tryz.prog 133 #[.pointer (some ⟨R,0,none⟩)] w fun e w'=>∃ v,e=.returned v∧VSt (.mk 5 (g.cs[k]).1 [] [] r.1) w w' v∧Wc w0 w' R g V r.2.1 r.2.2∧Pk R w w':=by
 obtain ⟨no,nc,eo,ec,co,cc,mv⟩:=V
 obtain ⟨-,c4,-,-,c7,-,fz7,-,hcs,-⟩:=wc_cells hW.out
 simp only at c4 hcs
 obtain ⟨A,e0,p0,-,hnl⟩:=cls_c hcs hk
 subst e0
 obtain ⟨X,hX⟩:∃ X,bb (g.cs[k]).1=X:=⟨_,rfl⟩
 rw [hX] at p0
 have HX:=Lh hX
 have HP0:=Lh p0
 have hRl:=hW.out.lt
 have z0:(0:Int)≤(k:Int):=by omega
 have z1:(k:Int) < (g.cs.length:Int):=by omega
 have hwr:IntKind.i64.wrap ((k:Int)+1)=(k:Int)+1:=IntWalk.i64_in _ (by omega)
 have hb1:=al1 w (.cells #[.int .i64 0,.string ⟨#[]⟩,.slice none 0 0,.slice none 0 0,.slice none 0 0] 67)
 have HB1:=Lh hb1
 have hRl1:R < w.heap.size:=hRl.2
 have hneR:w.heap.size≠R:=by omega
 have c7:=cell_later' hb1 c7
 have c4:=cell_later' hb1 c4
 obtain ⟨-,-,-,-,-,-,fz7',-,-,-⟩:=wc_cells (hW.out.below hb1)
 clear hX p0 hcs fz7 hb1
 go_enter Tryz.func133,Tryz.ntmps133
 go_wp2_with fail
 have hsz:(w.setCell ⟨R,7,none⟩ (.int .i64 ((k:Int)+1))).heap.size=w.heap.size:=by simp [World.setCell]
 have HWC2:=Lh (hW.out.setK.below (al1 (w.setCell ⟨R,7,none⟩ (.int .i64 ((k:Int)+1))) (.cells #[.int .i64 0,.string ⟨#[]⟩,.slice none 0 0,.slice none 0 0,.slice none 0 0] 67)))
 have HPK2:=Lh ((Pk.set R w 7 (.int .i64 ((k:Int)+1))).trans (Pk.below (al1 (w.setCell ⟨R,7,none⟩ (.int .i64 ((k:Int)+1))) (.cells #[.int .i64 0,.string ⟨#[]⟩,.slice none 0 0,.slice none 0 0,.slice none 0 0] 67))))
 have hr2:=blk_new (w.setCell ⟨R,7,none⟩ (.int .i64 ((k:Int)+1))) #[.int .i64 0,.string ⟨#[]⟩,.slice none 0 0,.slice none 0 0,.slice none 0 0] 67
 rw [hsz] at hr2
 have HR2:=Lh hr2
 have HQ2:Hid (((w.setCell ⟨R,7,none⟩ (.int .i64 ((k:Int)+1))).alloc (.cells #[.int .i64 0,.string ⟨#[]⟩,.slice none 0 0,.slice none 0 0,.slice none 0 0] 67)).heap.size=w.heap.size+1):=Lh (by simp [World.setCell])
 clear c7 fz7' c4 hsz hr2
 generalize (w.setCell ⟨R,7,none⟩ (.int .i64 ((k:Int)+1))).alloc (.cells #[.int .i64 0,.string ⟨#[]⟩,.slice none 0 0,.slice none 0 0,.slice none 0 0] 67)=w2 at HWC2 HPK2 HR2 HQ2 ⊢
 obtain ⟨-,c4,-,-,-,-,-,-,-,-⟩:=wc_cells HWC2.out
 simp only at c4
 have d0:=cell_later' HWC2.out.base HP0.out
 refine tstart (fun W:World=>W.cell? ⟨R,4,none⟩=some (.slice (some A) g.cs.length cc)∧W.cell? (A.add (k*2))=some (.string X)) 13 (by kernel_rfl) (⟨s_drew c4,s_drew d0⟩) (fun hHeld=>?_)
 refine ton 0 15 (.pointer (some ⟨R,0,none⟩)) ?_
 refine ton 1 16 (.pointer (some ⟨R,0,none⟩)) ?_
 refine ton 2 17 (.pointer (some ⟨R,0,none⟩)) ?_
 refine ton 3 18 (.pointer (some ⟨R,4,none⟩)) ?_
 refine ton 4 19 (.slice (some A) g.cs.length cc) ?_
 refine ton 5 20 (.int .i64 (k:Int)) ?_
 refine ton 6 21 (.pointer (some (A.add (k*2)))) ?_
 refine ton 7 22 (.pointer (some (A.add (k*2)))) ?_
 refine ton 8 23 (.string X) ?_
 refine ton 9 24 (.pointer (some ⟨R,0,none⟩)) ?_
 refine ton 10 25 (.int .i64 (k:Int)) ?_
 try simp only [sA,sB,sC]
 refine tgo (i:=11) (by kernel_rfl) rfl (fun K hK=>?_)
 go_simp
 refine (hIH.out w2.drew (HWC2.out.below (b_drew w2))).mono ?_
 rintro e w3 ⟨ao,D,rfl,hrc,hD,hwc3,hpk3⟩
 have hsl:=hrc.selfL
 rw [hD] at hsl
 have hr3:=hpk3.blk hneR (blk_keep (b_drew w2) HR2.out)
 obtain ⟨-,c43,-,-,-,-,-,-,-,-⟩:=wc_cells hwc3
 simp only at c43
 have d03:=cell_later' hwc3.base HP0.out
 have HSL:=Lh hsl
 have HWC3:=Lh hwc3
 have HPK3:=Lh ((HPK2.out.trans (Pk.below (b_drew w2))).trans hpk3)
 have HR3:=Lh hr3
 have f0:w3.frozen? ⟨w.heap.size,0,none⟩=false:=blk_free hr3
 have e0:w3.cell? ⟨w.heap.size,0,none⟩=some (.int .i64 0):=by rw [blk_cell hr3];rfl
 have f1:w3.frozen? ⟨w.heap.size,1,none⟩=false:=blk_free hr3
 have e1:w3.cell? ⟨w.heap.size,1,none⟩=some (.string ⟨#[]⟩):=by rw [blk_cell hr3];rfl
 have f2:w3.frozen? ⟨w.heap.size,2,none⟩=false:=blk_free hr3
 have e2:w3.cell? ⟨w.heap.size,2,none⟩=some (.slice none 0 0):=by rw [blk_cell hr3];rfl
 have f3:w3.frozen? ⟨w.heap.size,3,none⟩=false:=blk_free hr3
 have e3:w3.cell? ⟨w.heap.size,3,none⟩=some (.slice none 0 0):=by rw [blk_cell hr3];rfl
 have f4:w3.frozen? ⟨w.heap.size,4,none⟩=false:=blk_free hr3
 have e4:w3.cell? ⟨w.heap.size,4,none⟩=some (.slice none 0 0):=by rw [blk_cell hr3];rfl
 refine hK.out _ _ (fun _=>⟨c43,d03⟩) (fun hHeld=>?_)
 replace hHeld:=hHeld (by decide)
 clear hK K hsl hwc3 hpk3 hr3
 try simp only [sA,sB,sC]
 refine ton 12 27 (.agg #[.int .i64 5,.string X,.slice none 0 0,.slice none 0 0,.slice ao r.1.length r.1.length]) ?_
 try simp only [sA,sB,sC]
 refine tgo (i:=13) (by kernel_rfl) rfl (fun K hK=>?_)
 go_simp
 refine hK.out _ _ (fun h=>absurd rfl h) (fun hHeld=>?_)
 clear hK K hHeld
 try simp only [sA,sB,sC]
 refine tdone (by kernel_rfl) ?_ _
 go_wp2
 have hbx:=blk_set5 HR3.out (.int .i64 5) (.string X) (.slice none 0 0) (.slice none 0 0) (.slice ao r.1.length r.1.length)
 have r0:=blk_cell (o:=0) hbx
 have r1:=blk_cell (o:=1) hbx
 have r2:=blk_cell (o:=2) hbx
 have r3:=blk_cell (o:=3) hbx
 have r4:=blk_cell (o:=4) hbx
 have s0:=s_drew r0
 have s1:=s_drew r1
 have s2:=s_drew r2
 have s3:=s_drew r3
 have s4:=s_drew r4
 have t0:=blk_cell (o:=0) (blk_set (o:=0) HR3.out (.int .i64 5))
 have t1:=blk_cell (o:=1) (blk_set (o:=1) (blk_set (o:=0) HR3.out (.int .i64 5)) (.string X))
 have t2:=blk_cell (o:=2) (blk_set (o:=2) (blk_set (o:=1) (blk_set (o:=0) HR3.out (.int .i64 5)) (.string X)) (.slice none 0 0))
 have t3:=blk_cell (o:=3) (blk_set (o:=3) (blk_set (o:=2) (blk_set (o:=1) (blk_set (o:=0) HR3.out (.int .i64 5)) (.string X)) (.slice none 0 0)) (.slice none 0 0))
 have t4:=blk_cell (o:=4) (blk_set (o:=4) (blk_set (o:=3) (blk_set (o:=2) (blk_set (o:=1) (blk_set (o:=0) HR3.out (.int .i64 5)) (.string X)) (.slice none 0 0)) (.slice none 0 0)) (.slice ao r.1.length r.1.length))
 have hq:=HQ2.out
 have hFw:=HWC3.out.far5 HR3.out (by decide) (by decide) (Ne.symm hneR) (by omega) (.int .i64 5) (.string X) (.slice none 0 0) (.slice none 0 0) (.slice ao r.1.length r.1.length)
 have hFp:=HPK3.out.low (below_set5 (Below.refl w.heap.size w3) (Nat.le_refl _) (.int .i64 5) (.string X) (.slice none 0 0) (.slice none 0 0) (.slice ao r.1.length r.1.length))
 refine bodyPost_ret (v:=.agg #[.int .i64 5,.string X,.slice none 0 0,.slice none 0 0,.slice ao r.1.length r.1.length]) (by first | (simp [results,Tryz.results133,go_sem,r0,r1,r2,r3,r4];done) | (simp [results,Tryz.results133,go_sem,s0,s1,s2,s3,s4];done) | (simp [results,Tryz.results133,go_sem,t0,t1,t2,t3,t4];done)) rfl ?_
 refine ⟨_,rfl,⟨none,0,none,0,ao,r.1.length,by rw [← HX.out];rfl,fun U hU=>⟨hnl,Prs.nil U,Prs.nil U,HSL.out U fun q q1 q2=>?_⟩⟩,hFw,hFp⟩
 have q1':w.heap.size < q:=by have:w2.drew.heap.size=w2.heap.size:=rfl;omega
 rw [hU q (by omega) (by simpa [World.setCell] using q2)]
 exact agree_set5 (lo:=w.heap.size+1) (hi:=q+1) w3 (.int .i64 5) (.string X) (.slice none 0 0) (.slice none 0 0) (.slice ao r.1.length r.1.length) (by omega) q (by omega) (by omega)
structure BC (w0 w:World)(R:Nat)(g:gra.Gr)(V:Wv)(v:Value)(D:List Sv)(n k:Nat)(W:World):Prop where
 wt:Wc w0 W R g V n k
 rs:RS w.heap.size W v D
 pk:Pk R w W
theorem BC.below {w0 w W W':World}{R:Nat}{g:gra.Gr}{V:Wv}{v:Value}{D:List Sv}{n k:Nat}(h:BC w0 w R g V v D n k W)(hb:Below W.heap.size W W'):BC w0 w R g V v D n k W' :=
 ⟨h.wt.below hb,h.rs.below hb,h.pk.trans (Pk.below hb)⟩
theorem Wc.count {w0 W:World}{R:Nat}{g:gra.Gr}{V:Wv}{n k:Nat}(h:Wc w0 W R g V n k):cellN W R 6=n∧cellN W R 7=k:=by
 obtain ⟨-,-,-,h5,h6,-⟩:=wc_cells h
 unfold cellN
 rw [h5,h6]
 exact ⟨Int.toNat_natCast n,Int.toNat_natCast k⟩
set_option maxRecDepth 100000 in
set_option maxHeartbeats 8000000 in
theorem cblk_of (w0:World)(R:Nat)(g:gra.Gr)(V:Wv)(hg:Hid (GV g))(htb:Hid (Tab w0)):∀ (m f:Nat) (c:Int) (n k:Nat) (w:World),(g.ns.length - n)+(g.cs.length - k)=m→m < f→n≤g.ns.length→k≤g.cs.length→Hid (Wc w0 w R g V n k) →
    Calls Tryz.prog 66 #[.pointer (some ⟨R,0,none⟩),.int .i64 c] w (CBO w0 R g V (blkW g f c n k) w):=by
 have hN:g.ns.length≤64:=hg.out.nl
 have hK:g.cs.length≤16:=hg.out.cl
 intro m
 induction m using Nat.strongRecOn with
 | _ m ih =>
 intro f c n k w hm hf hn hk hW
 have IH:=Lh ih
 clear ih
 obtain ⟨L,hL⟩:∃ L,blkW g f c n k=L:=⟨_,rfl⟩
 have HL:=Lh hL
 rw [hL]
 clear hL
 have hRw:=hW.out.lt
 go_enter Tryz.func66,Tryz.ntmps66
 go_wp2_with fail
 go_loopw [5] (fun v wr=>∃ (D:List Sv) (n' k' f':Nat),BC w0 w R g V v D n' k' wr∧n'≤g.ns.length∧k'≤g.cs.length∧(g.ns.length - n')+(g.cs.length - k') < f'∧(g.ns.length - n')+(g.cs.length - k')≤m∧D.map Sv.s ++ (blkW g f' c n' k').1=L.1∧(blkW g f' c n' k').2=L.2∧D.length≤100 - ((g.ns.length - n')+(g.cs.length - k'))) (fun _ wr=>(g.ns.length - cellN wr R 6)+(g.cs.length - cellN wr R 7))
 case atStart =>
  exact ⟨[],n,k,f,⟨hW.out,RS.nil _ _,Pk.refl _ _⟩,hn,hk,by omega,by omega,by rw [HL.out];rfl,by rw [HL.out],Nat.zero_le _⟩
 case round =>
  obtain ⟨D,n',k',f',hBI,hn',hk',hf',hm',hD,hE,hDl⟩:=hrel
  rename World=>wr
  have HCW:=Lh (show g.ns.length - cellN wr R 6+(g.cs.length - cellN wr R 7)=g.ns.length - n'+(g.cs.length - k') by rw [hBI.wt.count.1,hBI.wt.count.2])
  have HBI:=Lh hBI
  have HD:=Lh hD
  have HE:=Lh hE
  clear hBI hD hE
  obtain ⟨vo,vc,rfl⟩:=HBI.out.rs.form
  obtain ⟨f0,rfl⟩:∃ q,f'=q+1:=⟨f' - 1,by omega⟩
  obtain ⟨b,hb⟩:∃ b,cluN g c n' k'=b:=⟨_,rfl⟩
  have HCN:=Lh hb
  clear hb
  go_wp2_with fail
  refine (cclun_of w0 R g V n' k' c b wr (Lh HBI.out.wt) hk' HCN).mono ?_
  rintro e w1 ⟨rfl,hb1⟩
  have HBI1:=Lh (HBI.out.below hb1)
  clear hb1 HBI
  cases b
  case true =>
   obtain ⟨hk1,-⟩:=cluN_lt HCN.out
   have HST:=Lh (step_clu (f:=f0) hk1 HCN.out)
   have hb5:=blk0_le g f0 (k':Int) n' (k'+1) hn' hk1
   have hb6:=blk_ge g f0 (k':Int) n' (k'+1)
   have HIB:=Lh (fun w1 h=>IH.out ((g.ns.length - n')+(g.cs.length - (k'+1))) (by omega) f0 (k':Int) n' (k'+1) w1 rfl (by omega) hn' hk1 (Lh h))
   obtain ⟨r,hr⟩:∃ r,blkW g f0 (k':Int) n' (k'+1)=r:=⟨_,rfl⟩
   rw [hr] at hb5 hb6 HST HIB
   have hz1:=HBI1.out.pk.size
   clear hr
   go_wp2_with fail
   refine (ccl13_of w0 R g V n' k' r w1 HIB (Lh HBI1.out.wt) hk1 hK).mono ?_
   rintro e w2 ⟨yv,rfl,hvs,hwc2,hpk2⟩
   obtain ⟨ro,rc,ao,ac,bo,bc,rfl,hel⟩:=hvs.el HBI1.out.rs hz1
   have HRS2:=Lh (HBI1.out.rs.pk hpk2 hRw.2)
   have HEL:=Lh hel
   have HWC2:=Lh hwc2
   have HPK2:=Lh (HBI1.out.pk.trans hpk2)
   have hz2:=HPK2.out.size
   clear hvs hel hwc2 hpk2
   go_wp2_with (at_builtin;refine ls_st rfl (.tmp 12) (.tmp 15) rfl w.heap.size _ D ⟨.mk 5 (g.cs[k']).1 [] [] r.1,.slice ro (St.mk 5 (g.cs[k']).1 [] [] r.1).refs.length rc,.slice ao (St.mk 5 (g.cs[k']).1 [] [] r.1).attrs.length ac,.slice bo (St.mk 5 (g.cs[k']).1 [] [] r.1).body.length bc⟩ _ _ _ _ _ rfl w2.heap.size rfl rfl rfl HRS2 HEL (by omega) hz2 ⟨rfl,rfl,rfl⟩ ?_;intro gg cap V3 hrs3 hg3)
   have hB3:=grownB HRS2.out hg3.out hz2
   have HWC3:=Lh (HWC2.out.grown HRS2.out hg3.out (by omega) hz2)
   have HPK3:=Lh (HPK2.out.low hB3)
   clear hB3
   go_roundw
   case rel=>exact ⟨D ++ [_],r.2.1,r.2.2,f0,⟨HWC3.out,hrs3.out,HPK3.out⟩,hb5.1,hb5.2,by omega,by omega,by rw [← HD.out,HST.out,List.map_append,List.append_assoc];rfl,by rw [← HE.out,HST.out],by rw [List.length_append];simp only [List.length_cons,List.length_nil];omega⟩
   case measure=>have:=HWC3.out.count;have:=HCW.out;omega
  obtain ⟨b,hb⟩:∃ b,nodN g c n'=b:=⟨_,rfl⟩
  have HNN:=Lh hb
  clear hb
  go_wp2_with fail
  refine (cnodn_of w0 R g V n' k' c b w1 (Lh HBI1.out.wt) hn' HNN).mono ?_
  rintro e w2 ⟨rfl,rfl⟩
  cases b
  case false =>
   have HEND:=Lh (step_end (f:=f0) HCN.out HNN.out)
   obtain ⟨_,_,e9,hc1,hc2⟩:=own_form HBI1.out.rs.1
   cases e9
   go_wp2_with fail
   refine (ccutS_of vo D.length vc w1 hc1 hc2).mono ?_
   rintro e w3 ⟨rfl,rfl⟩
   have hL1:L.1=D.map Sv.s:=by rw [← HD.out,HEND.out,List.append_nil]
   have hll:D.length=L.1.length:=by rw [hL1,List.length_map]
   have HL1:=Lh hL1
   have HLL:=Lh hll
   clear hL1 hll
   go_wp2
   go_ret
   exact ⟨vo,D,by rw [← HLL.out];rfl,by rw [← HLL.out];exact HBI1.out.rs.rc.cut,HL1.out.symm,by rw [← HE.out,HEND.out];exact HBI1.out.wt,HBI1.out.pk⟩
  obtain ⟨hn1,-⟩:=nodN_lt HNN.out
  have HST:=Lh (step_nod (f:=f0) HCN.out hn1 HNN.out)
  have hz1:=HBI1.out.pk.size
  go_wp2_with fail
  refine (cnode13_of w0 R g V n' k' w1 hg (Lh HBI1.out.wt) htb hn1).mono ?_
  rintro e w2 ⟨yv,rfl,hvs,hwc2,hpk2⟩
  obtain ⟨ro,rc,ao,ac,bo,bc,rfl,hel⟩:=hvs.el HBI1.out.rs hz1
  have HRS2:=Lh (HBI1.out.rs.pk hpk2 hRw.2)
  have HEL:=Lh hel
  have HWC2:=Lh hwc2
  have HPK2:=Lh (HBI1.out.pk.trans hpk2)
  have hz2:=HPK2.out.size
  obtain ⟨y,hy⟩:∃ y,g.ns[n']=y:=⟨_,rfl⟩
  rw [hy] at HEL HST
  simp only [hy]
  clear hvs hel hwc2 hpk2 hy
  go_wp2_with (at_builtin;refine ls_st rfl (.tmp 21) (.tmp 24) rfl w.heap.size _ D ⟨nodeS y,.slice ro (nodeS y).refs.length rc,.slice ao (nodeS y).attrs.length ac,.slice bo (nodeS y).body.length bc⟩ _ _ _ _ _ rfl w2.heap.size rfl rfl rfl HRS2 HEL (by omega) hz2 ⟨rfl,rfl,rfl⟩ ?_;intro gg cap V3 hrs3 hg3)
  have hB3:=grownB HRS2.out hg3.out hz2
  have HWC3:=Lh (HWC2.out.grown HRS2.out hg3.out (by omega) hz2)
  have HPK3:=Lh (HPK2.out.low hB3)
  clear hB3
  go_roundw
  case rel=>exact ⟨D ++ [⟨nodeS y,.slice ro (nodeS y).refs.length rc,.slice ao (nodeS y).attrs.length ac,.slice bo (nodeS y).body.length bc⟩],n'+1,k',f0,⟨HWC3.out,hrs3.out,HPK3.out⟩,by omega,hk',by omega,by omega,by rw [← HD.out,HST.out,List.map_append,List.append_assoc];rfl,by rw [← HE.out,HST.out],by rw [List.length_append];simp only [List.length_cons,List.length_nil];omega⟩
  case measure=>have:=HWC3.out.count;have:=HCW.out;omega
end Go.Proofs.YtgmidodmmlmmeaaGreatDoor.xpt
namespace Go.Proofs.YtgmidodmmlmmeaaGreatDoor.xpt
open Go.RowKit Go.Sort lex tre att nor
theorem info_int1:(Tryz.prog.info? 53).map (fun i=>(i.zero,i.size,i.bytes))=some (some (.slice none 0 0),1,24):=by kernel_rfl
theorem info_ex {P:Program}{t:TypeId}{z:Option Value}{c n:Nat}(h:(P.info? t).map (fun i=>(i.zero,i.size,i.bytes))=some (z,c,n)):∃ i,P.info? t=some i∧i.zero=z∧i.size=c∧i.bytes=n:=by
 cases hq:P.info? t with
 | none=>rw [hq] at h;cases h
 | some i =>
  rw [hq] at h
  simp only [Option.map_some,Option.some.injEq,Prod.mk.injEq] at h
  exact ⟨i,rfl,h.1,h.2.1,h.2.2⟩
structure DM (w:World)(n0:Nat)(gb:List Value)(g:gra.Gr)(vs:List Value)(mo:Option Addr)(mc:Nat)(W:World):Prop where
 bw:Below n0 w W
 gx:blk W n0 26 gb.toArray
 rx:blk W (n0+1) 128 (gb ++ [Value.slice mo vs.length mc,Value.int .i64 0,Value.int .i64 0]).toArray
 row:W.ownsRow (n0+2) 53 1 (.slice mo vs.length mc) vs.length vs
 el:∀ i (h:i < vs.length),gra.Irow W (n0+2) vs[i] (gra.memsK g i g.ns.length)
theorem DM.below {w W W':World}{n0:Nat}{gb:List Value}{g:gra.Gr}{vs:List Value}{mo:Option Addr}{mc:Nat}(h:DM w n0 gb g vs mo mc W)(hb:Below W.heap.size W W'):DM w n0 gb g vs mo mc W' :=
 ⟨h.bw.trans (hb.mono (Nat.le_of_lt (blk_lt h.gx))),blk_keep hb h.gx,blk_keep hb h.rx,row_below h.row hb,fun i hi=>row_below (h.el i hi) hb⟩
set_option maxRecDepth 100000 in
set_option maxHeartbeats 8000000 in
theorem cdecl_of (g:gra.Gr)(gv:Value)(b:Bool)(w:World)(h:Hid (gra.GrV w gv g))(hv:Hid (gra.validE g=0))(htb:Hid (Tab w))(hb:Hid ((decide ((blk0 g).2.1=g.ns.length) && decide ((blk0 g).2.2=g.cs.length))=b)) :
    Calls Tryz.prog 27 #[gv] w fun e w'=>(∃ ao D,e=.returned (.tuple #[.slice ao D.length D.length,.bool b])∧RC w.heap.size w' (.slice ao D.length D.length) D∧D.map Sv.s=(blk0 g).1)∧Below w.heap.size w w':=by
 have hmx:Tryz.prog.follows .mixedOrders=true:=by kernel_rfl
 have HGVV:=Lh (gv_of hv.out)
 have hN:g.ns.length≤64:=HGVV.out.nl
 have hK:g.cs.length≤16:=HGVV.out.cl
 obtain ⟨nv,ev,cv,rfl,hgn,hns,hes,hcs⟩:=id h.out
 obtain ⟨no,nc,rfl,-,-,-⟩:=id hns
 obtain ⟨eo,ec,rfl,-,-,-⟩:=id hes
 obtain ⟨co,cc,rfl,-,-,-⟩:=id hcs
 clear hns hes hcs hgn
 obtain ⟨Gn,hGn⟩:∃ X,bb g.nm=X:=⟨_,rfl⟩
 have HGN:=Lh hGn
 have HG:=Lh (show gra.GrV w (.agg #[.string Gn,.bool g.dir,.slice no g.ns.length nc,.slice eo g.es.length ec,.slice co g.cs.length cc]) g by rw [← hGn];exact h.out)
 rw [show gra.bb g.nm=Gn from hGn]
 clear h hGn
 obtain ⟨i0,hi0,hz0,hz1,hz2⟩:=info_ex info_int1
 have HB1:=Lh (al1 w (.cells #[.string Gn,.bool g.dir,.slice no g.ns.length nc,.slice eo g.es.length ec,.slice co g.cs.length cc] 26))
 have HK1:=Lh (blk_new w #[.string Gn,.bool g.dir,.slice no g.ns.length nc,.slice eo g.es.length ec,.slice co g.cs.length cc] 26)
 have HQ1:Hid ((w.alloc (.cells #[.string Gn,.bool g.dir,.slice no g.ns.length nc,.slice eo g.es.length ec,.slice co g.cs.length cc] 26)).heap.size=w.heap.size+1):=Lh (by simp)
 go_enter Tryz.func27,Tryz.ntmps27
 go_wp2_with fail
 generalize w.alloc (.cells #[.string Gn,.bool g.dir,.slice no g.ns.length nc,.slice eo g.es.length ec,.slice co g.cs.length cc] 26)=w1 at HB1 HK1 HQ1 ⊢
 have hq1:=HQ1.out
 have b2:=al1 w1 (.cells #[.string Gn,.bool g.dir,.slice no g.ns.length nc,.slice eo g.es.length ec,.slice co g.cs.length cc,.slice none 0 0,.int .i64 0,.int .i64 0] 128)
 have k2:=blk_new w1 #[.string Gn,.bool g.dir,.slice no g.ns.length nc,.slice eo g.es.length ec,.slice co g.cs.length cc,.slice none 0 0,.int .i64 0,.int .i64 0] 128
 generalize w1.alloc (.cells #[.string Gn,.bool g.dir,.slice no g.ns.length nc,.slice eo g.es.length ec,.slice co g.cs.length cc,.slice none 0 0,.int .i64 0,.int .i64 0] 128)=w2 at b2 k2 ⊢
 rw [hq1] at k2
 have hz2':w.heap.size+2≤w2.heap.size:=blk_lt k2
 have HDM:Hid (DM w w.heap.size [.string Gn,.bool g.dir,.slice no g.ns.length nc,.slice eo g.es.length ec,.slice co g.cs.length cc] g [] none 0 w2):=Lh ⟨below_keep b2 HB1.out,blk_keep b2 HK1.out,k2,World.ownsRow_nil ..,fun i hi=>absurd hi (by simp)⟩
 obtain ⟨n0,hn0⟩:∃ n0,w.heap.size=n0:=⟨_,rfl⟩
 rw [hn0] at HDM hz2'
 try simp only [hq1]
 simp only [hn0]
 have HN0:=Lh hn0
 clear hn0 b2 k2 HK1 HB1 HQ1 hq1
 go_loopw [12] (fun iv wr=>∃ (vs:List Value) (mo:Option Addr) (mc:Nat),iv=.int .i64 vs.length∧vs.length≤g.cs.length∧DM w n0 [.string Gn,.bool g.dir,.slice no g.ns.length nc,.slice eo g.es.length ec,.slice co g.cs.length cc] g vs mo mc wr) (fun iv _=>g.cs.length - (intOf iv).toNat)
 case atStart=>exact ⟨[],none,0,rfl,Nat.zero_le _,HDM.out⟩
 case round =>
  obtain ⟨vs,mo,mc,rfl,hk,hdm⟩:=hrel
  rename World=>wr
  have HDK:=Lh hdm
  clear hdm HDM
  obtain ⟨k,hkk⟩:∃ k,vs.length=k:=⟨_,rfl⟩
  by_cases hlt:k < g.cs.length
  case pos =>
   have c0:wr.cell? ⟨n0,0,none⟩=some (.string Gn):=by rw [blk_cell HDK.out.gx];rfl
   have c1:wr.cell? ⟨n0,1,none⟩=some (.bool g.dir):=by rw [blk_cell HDK.out.gx];rfl
   have c2:wr.cell? ⟨n0,2,none⟩=some (.slice no g.ns.length nc):=by rw [blk_cell HDK.out.gx];rfl
   have c3:wr.cell? ⟨n0,3,none⟩=some (.slice eo g.es.length ec):=by rw [blk_cell HDK.out.gx];rfl
   have c4:wr.cell? ⟨n0,4,none⟩=some (.slice co g.cs.length cc):=by rw [blk_cell HDK.out.gx];rfl
   have d5:wr.cell? ⟨n0+1,5,none⟩=some (.slice mo k mc):=by rw [blk_cell HDK.out.rx,← hkk];rfl
   have hzr:=blk_lt HDK.out.rx
   have HKK:=Lh hkk
   rw [hkk]
   have e1:decide ((k:Int) < (g.cs.length:Int))=true:=by rw [decide_eq_true_eq];omega
   clear hkk
   go_wp2_with fail
   refine tstart (fun W:World=>W.cell? ⟨n0+1,5,none⟩=some (.slice mo k mc)∧W.cell? ⟨n0,0,none⟩=some (.string Gn)∧W.cell? ⟨n0,1,none⟩=some (.bool g.dir)∧W.cell? ⟨n0,2,none⟩=some (.slice no g.ns.length nc)∧W.cell? ⟨n0,3,none⟩=some (.slice eo g.es.length ec)∧W.cell? ⟨n0,4,none⟩=some (.slice co g.cs.length cc)) 8 (by kernel_rfl) (⟨s_drew d5,s_drew c0,s_drew c1,s_drew c2,s_drew c3,s_drew c4⟩) (fun hHeld=>?_)
   refine ton 0 15 (.pointer (some ⟨(n0+1),5,none⟩)) ?_
   refine ton 1 16 (.slice mo k mc) ?_
   refine ton 2 17 (.agg #[.string Gn,.bool g.dir,.slice no g.ns.length nc,.slice eo g.es.length ec,.slice co g.cs.length cc]) ?_
   refine ton 3 18 (.int .i64 (k:Int)) ?_
   try simp only [sA,sB,sC]
   refine tgo (i:=4) (by kernel_rfl) rfl (fun K hK=>?_)
   go_simp
   have hmv:gra.memV g (k:Int)=gra.memsK g k g.ns.length:=by unfold gra.memV;rw [if_neg (by have:=hv.out;omega)]
   refine (gra.cMembersT_of _ g (k:Int) (gra.memsK g k g.ns.length) wr.drew (Lh (HG.out.keep (show Below w.heap.size w wr.drew by rw [HN0.out];exact HDK.out.bw.drew))) (Lh hmv)).mono ?_
   rintro e w3 ⟨mv,rfl,hir,hb3⟩
   have HB3:=Lh (below_keep hb3 (b_drew wr))
   have HD3:=Lh (HDK.out.below HB3.out)
   obtain ⟨io,ic,rfl⟩:∃ io ic,mv=.slice io (gra.memsK g k g.ns.length).length ic:=by obtain ⟨a,c,e,-,-⟩:=own_form hir;exact ⟨a,c,e⟩
   obtain ⟨ml,hml⟩:∃ m,(gra.memsK g k g.ns.length).length=m:=⟨_,rfl⟩
   rw [hml] at hir ⊢
   have HIR:=Lh (gra.Irow.lower hir (show n0+2≤wr.drew.heap.size by show n0+2≤wr.heap.size;omega))
   refine hK.out _ _ (fun _=>⟨cell_later' HB3.out d5,cell_later' HB3.out c0,cell_later' HB3.out c1,cell_later' HB3.out c2,cell_later' HB3.out c3,cell_later' HB3.out c4⟩) (fun hHeld=>?_)
   replace hHeld:=hHeld (by decide)
   clear hK K hb3 hir
   try simp only [sA,sB,sC]
   refine tgo (i:=5) (by kernel_rfl) rfl (fun K hK=>?_)
   go_simp
   refine hK.out _ _ (fun _=>(by obtain ⟨k0,k1,k2,k3,k4,k5⟩:=hHeld;exact ⟨s_alloc k0,s_alloc k1,s_alloc k2,s_alloc k3,s_alloc k4,s_alloc k5⟩)) (fun hHeld=>?_)
   replace hHeld:=hHeld (by decide)
   clear hK K
   try simp only [sA,sB,sC]
   have hkn:=blk_new w3 #[.slice io ml ic] 53
   have hba:=al1 w3 (.cells #[.slice io ml ic] 53)
   have HD4:=Lh (HD3.out.below hba)
   have hz4:=blk_lt HD4.out.rx
   have hrow4:(w3.alloc (.cells #[.slice io ml ic] 53)).ownsRow (n0+2) 53 1 (.slice mo k mc) k vs:=by have:=HD4.out.row;rw [HKK.out] at this;exact this
   refine tgo (i:=6) (by kernel_rfl) rfl (fun K hK=>?_)
   refine step_append_lies _ (by rfl) _ _ _ (by rfl) (n0+2) 53 i0 _ 1 24 Tryz.underlying126 hi0 hz0 hz1 hz2 rfl (by omega) (.slice mo k mc) k vs (by rfl) hrow4 ⟨w3.heap.size,0,none⟩ 1 1 [.slice io ml ic] (by rfl) (by rfl) (by exact World.news_of_block (cs:=#[.slice io ml ic]) (t:=53) (fr:=(0,0)) (show (w3.alloc _).heap[w3.heap.size]?=some _ from hkn)) (by simp [Value.oneCell']) (by omega) (by unfold maxLen;omega) (by omega) (by omega) (w3.heap.size+1) (by simp) ?_
   intro gg cap V hown hgrow hat hlt7
   have hB5:=grown_below hrow4 hgrow (by omega)
   have hgx5:=grown_blk hrow4 hgrow HD4.out.gx (by decide)
   have hrx5:=grown_blk hrow4 hgrow HD4.out.rx (by decide)
   have hir5:gra.Irow V (n0+2) (.slice io ml ic) (gra.memsK g k g.ns.length):=row_grown (row_below HIR.out hba) hrow4 hgrow (by decide)
   have hD5:DM w n0 [.string Gn,.bool g.dir,.slice no g.ns.length nc,.slice eo g.es.length ec,.slice co g.cs.length cc] g (vs ++ [.slice io ml ic]) (some ⟨gg,0,none⟩) cap (V.setCell ⟨n0+1,5,none⟩ (.slice (some ⟨gg,0,none⟩) (k+1) cap)):=by
    refine ⟨(HD4.out.bw.trans (hB5.mono (by omega))).setCell (by omega:n0≤n0+1) _,blk_far hgx5 (by omega) _,?_,?_,fun i hi=>?_⟩
    ·have:=blk_set (o:=5) hrx5 (.slice (some ⟨gg,0,none⟩) (k+1) cap)
     rw [List.length_append,HKK.out];exact this
    ·have:=row_set (o:=5) hown hrx5 (by decide) (.slice (some ⟨gg,0,none⟩) (k+1) cap)
     rw [List.length_append,HKK.out];exact this
    ·by_cases hik:i < vs.length
     ·rw [List.getElem_append_left hik];exact row_set (row_grown (HD4.out.el i hik) hrow4 hgrow (by decide)) hrx5 (by decide) _
     ·obtain rfl:i=vs.length:=by rw [List.length_append] at hi;simp at hi;omega
      rw [List.getElem_append_right (Nat.le_refl _)];simp only [Nat.sub_self,List.getElem_cons_zero]
      rw [HKK.out];exact row_set hir5 hrx5 (by decide) _
   have HD2:=Lh hD5
   have d55:V.cell? ⟨n0+1,5,none⟩=some (.slice mo k mc):=by rw [blk_cell hrx5,← HKK.out];rfl
   have fz5:V.frozen? ⟨n0+1,5,none⟩=false:=blk_free hrx5
   refine hK.out _ _ (fun _=>⟨d55,by rw [blk_cell hgx5];rfl,by rw [blk_cell hgx5];rfl,by rw [blk_cell hgx5];rfl,by rw [blk_cell hgx5];rfl,by rw [blk_cell hgx5];rfl⟩) (fun hHeld=>?_)
   replace hHeld:=hHeld (by decide)
   clear hK K hD5
   try simp only [sA,sB,sC]
   refine ton 7 22 (.pointer (some ⟨(n0+1),5,none⟩)) ?_
   try simp only [sA,sB,sC]
   refine tgo (i:=8) (by kernel_rfl) rfl (fun K hK=>?_)
   go_simp
   refine hK.out _ _ (fun h=>absurd rfl h) (fun hHeld=>?_)
   clear hK K hHeld
   try simp only [sA,sB,sC]
   refine tdone (by kernel_rfl) ?_ _
   go_wp2
   go_roundw
   case rel=>exact ⟨vs ++ [.slice io ml ic],some ⟨gg,0,none⟩,cap,by rw [List.length_append,HKK.out];go_num,by rw [List.length_append,HKK.out];exact hlt,HD2.out⟩
   case measure=>simp [intOf];omega
  obtain rfl:k=g.cs.length:=by omega
  have HKK:=Lh hkk
  rw [hkk]
  have hzr:=blk_lt HDK.out.rx
  have htw:Tab w:=htb.out
  have hbw:Below w.heap.size w wr:=by rw [HN0.out];exact HDK.out.bw
  have HW:Hid (Wc w wr (n0+1) g ⟨no,nc,eo,ec,co,cc,.slice mo g.cs.length mc⟩ 0 0):=Lh ⟨by rw [show gra.bb g.nm=Gn from HGN.out];exact HG.out,hbw,by rw [HN0.out];omega,by have:=HDK.out.rx;rw [hkk] at this;rw [show gra.bb g.nm=Gn from HGN.out];exact this,vs,hkk,by have:=HDK.out.row;rw [hkk] at this;exact this,HDK.out.el⟩
  clear hkk hk hlt hbw
  go_wp2_with fail
  refine (cblk_of w (n0+1) g _ HGVV (Lh htw) (g.ns.length+g.cs.length) (g.ns.length+g.cs.length+1) (-1) 0 0 wr (by omega) (by omega) (by omega) (by omega) HW).mono ?_
  rintro e w5 ⟨ao,D,rfl,hrc,hD,hwc,hpk⟩
  rw [show blkW g (g.ns.length+g.cs.length+1) (-1) 0 0=blk0 g from rfl] at hrc hD hwc
  have hll:(blk0 g).1.length=D.length:=by rw [← hD,List.length_map]
  rw [show blkW g (g.ns.length+g.cs.length+1) (-1) 0 0=blk0 g from rfl,hll]
  rw [hll] at hrc
  have HBB:=Lh hb.out
  obtain ⟨r,hr⟩:∃ r,blk0 g=r:=⟨_,rfl⟩
  rw [hr] at hD hwc HBB
  obtain ⟨-,-,-,c6,c7,-⟩:=wc_cells hwc
  have c2:w5.cell? ⟨n0,2,none⟩=some (.slice no g.ns.length nc):=by rw [blk_cell (hpk.blk (by omega) HDK.out.gx)];rfl
  have c4:w5.cell? ⟨n0,4,none⟩=some (.slice co g.cs.length cc):=by rw [blk_cell (hpk.blk (by omega) HDK.out.gx)];rfl
  have hB5:Below n0 w w5:=HDK.out.bw.trans ⟨hpk.os,hpk.tape,hpk.output,hpk.size,fun q hq=>hpk.block q (by omega) (by omega)⟩
  have HRC:=Lh (hrc.lower (show n0≤wr.heap.size by omega))
  have HDD:=Lh hD
  have HB5:=Lh hB5
  have HRR:=Lh hr
  clear hrc hD hwc hpk hll hr hB5 htw
  go_wp2_with fail
  have t6:=fun d os=>cell_regrown c6 d os
  have t7:=fun d os=>cell_regrown c7 d os
  have t2:=fun d os=>cell_regrown c2 d os
  have t4:=fun d os=>cell_regrown c4 d os
  clear c6 c7 c2 c4
  by_cases x1:r.2.1=g.ns.length
  case neg =>
   have e1:((r.2.1:Int) == (g.ns.length:Int))=false:=by rw [beq_eq_false_iff_ne];omega
   have e1':(r.2.1 == g.ns.length)=false:=by rw [beq_eq_false_iff_ne];exact x1
   have e1'':decide (r.2.1=g.ns.length)=false:=decide_eq_false x1
   have HF:Hid (false=b):=Lh (by rw [← HBB.out,decide_eq_false x1];rfl)
   clear x1
   refine wp_region_quiet_below hmx (by kernel_rfl) ?_
   repeat (go_big_quiet_step (fail))
   refine wpQuiet_nil ?_
   intro _ hw'
   obtain ⟨⟨dq,osq⟩,hw''⟩:=hw'
   subst hw''
   go_wp2
   refine bodyPost_ret (v:=.tuple #[.slice ao D.length D.length,.bool b]) (by simp [results,Tryz.results27,go_sem,HF.out]) rfl ?_
   refine ⟨⟨ao,D,rfl,by rw [HN0.out];exact HRC.out.below (below_regrown w5 dq osq),by rw [HRR.out];exact HDD.out⟩,?_⟩
   rw [HN0.out]
   exact HB5.out.trans ((below_regrown w5 dq osq).mono (by have:=HB5.out.size;rw [HN0.out] at this;exact this))
  have e1:((r.2.1:Int) == (g.ns.length:Int))=true:=by rw [beq_iff_eq];omega
  have e1':(r.2.1 == g.ns.length)=true:=by rw [beq_iff_eq];exact x1
  have e1'':decide (r.2.1=g.ns.length)=true:=decide_eq_true x1
  obtain ⟨p,hp⟩:∃ p,decide (r.2.2=g.cs.length)=p:=⟨_,rfl⟩
  have e2:((r.2.2:Int) == (g.cs.length:Int))=p:=by rw [← hp,Bool.eq_iff_iff,beq_iff_eq,decide_eq_true_eq];omega
  have e2':(r.2.2 == g.cs.length)=p:=by rw [← hp,Bool.eq_iff_iff,beq_iff_eq,decide_eq_true_eq]
  have HF:Hid (p=b):=Lh (by rw [← HBB.out,decide_eq_true x1,hp];rfl)
  clear x1
  refine wp_region_quiet_below hmx (by kernel_rfl) ?_
  repeat (go_big_quiet_step (fail))
  refine wpQuiet_nil ?_
  intro _ hw'
  obtain ⟨⟨dq,osq⟩,hw''⟩:=hw'
  subst hw''
  go_wp2
  refine bodyPost_ret (v:=.tuple #[.slice ao D.length D.length,.bool b]) (by simp [results,Tryz.results27,go_sem,HF.out]) rfl ?_
  refine ⟨⟨ao,D,rfl,by rw [HN0.out];exact HRC.out.below (below_regrown w5 dq osq),by rw [HRR.out];exact HDD.out⟩,?_⟩
  rw [HN0.out]
  exact HB5.out.trans ((below_regrown w5 dq osq).mono (by have:=HB5.out.size;rw [HN0.out] at this;exact this))
end Go.Proofs.YtgmidodmmlmmeaaGreatDoor.xpt
namespace Go.Proofs.YtgmidodmmlmmeaaGreatDoor.xpt
open Go.RowKit Go.Maps Go.Sort Go.Shelf lex tre att nor
def laysS_grow_ren:Go.Shelf.Ren:=⟨fun | 4=>67 | n=>n,fun | 0=>0 | 3=>3 | 4=>4 | 9=>9 | 20=>20 | 22=>31 | 25=>67 | n=>n,fun | n=>n⟩
theorem laysS_grow:Go.Proofs.Lays8.n4 Tryz.prog laysS_grow_ren:={
 mixed:=by kernel_rfl
 f4:=⟨Tryz.f67.name,by decide,Tryz.func67.trans (congrArg some (by kernel_rfl))⟩
 t0:=Tryz.underlying0
 a0:=Tryz.isAgg0
 z0:=Tryz.sizeOf0
 v0:=Tryz.zeroValue0
 t3:=Tryz.underlying3
 a3:=Tryz.isAgg3
 z3:=Tryz.sizeOf3
 v3:=Tryz.zeroValue3
 t4:=Tryz.underlying4
 a4:=Tryz.isAgg4
 z4:=Tryz.sizeOf4
 v4:=Tryz.zeroValue4
 t9:=Tryz.underlying9
 a9:=Tryz.isAgg9
 z9:=Tryz.sizeOf9
 v9:=Tryz.zeroValue9
 t20:=Tryz.underlying20
 a20:=Tryz.isAgg20
 z20:=Tryz.sizeOf20
 v20:=Tryz.zeroValue20
 t22:=Tryz.underlying31
 a22:=Tryz.isAgg31
 z22:=Tryz.sizeOf31
 v22:=Tryz.zeroValue31 }
set_option maxHeartbeats 1000000 in
theorem growS_of (n:Nat)(w:World)(hn:n≤1000000) :
    Calls Tryz.prog 67 #[.slice none 0 0,.int .i64 n] w fun e w'=>(∃ ao cap,e=.returned (.slice ao 0 cap)∧w'.ownsRow w.heap.size 67 5 (.slice ao 0 cap) 0 [])∧Below w.heap.size w w':=by
 obtain ⟨i0,hi,hz0,hz1,hz2⟩:=info_of_cls
 by_cases h0:n=0
 ·subst h0
  exact (Any8.slices_Grow_room laysS_grow none 0 0 0 w (Nat.le_refl _) (by omega) (by omega) (by omega)).mono fun e w' ⟨h1,h2⟩=>by
   subst h2
   exact ⟨⟨none,0,h1,World.ownsRow_nil _ _ _ _⟩,Below.refl _ _⟩
 ·refine (Any8.slices_Grow_grow laysS_grow i0 _ hi hz0 (by omega) none 0 0 n [] w (Nat.le_refl _) (by omega) (by rw [hz2];omega) (by omega) (by simp) (fun _=>rfl) (fun a e=>by cases e)).mono fun e w' ⟨h1,h2⟩=>?_
  subst h2
  have hle:=grownCap_le_maxLen w (0+n) 0 (laysS_grow_ren.t 25) (by unfold maxLen;omega)
  refine ⟨⟨_,_,h1,by simp,Or.inr ⟨w.heap.size,_,_,rfl,Nat.le_refl _,heap_alloc_new w.drew _,Nat.zero_le _,hle,?_,by simp⟩⟩,((Below.refl _ w).drew).alloc (Nat.le_refl _) _⟩
  show (_ ++ _ ++ _:Array Value).size=_
  have hge:=grownCap_ge w (0+n) 0 (laysS_grow_ren.t 25)
  rw [Array.size_append,Array.size_append,size_zeroCells,size_zeroCells,show (Value.agg #[.int .i64 0,.string ⟨#[]⟩,.slice none 0 0,.slice none 0 0,.slice none 0 0]).cells.size=5 from rfl]
  simp only [List.size_toArray,List.length_nil]
  omega
theorem RC.form {B:Nat}{W:World}{v:Value}{D:List Sv}(h:RC B W v D):∃ ao cap,v=.slice ao D.length cap:=by
 obtain ⟨⟨ao,cap,e,-⟩,-⟩:=h;exact ⟨ao,cap,e⟩
set_option maxRecDepth 100000 in
set_option maxHeartbeats 4000000 in
theorem conc3_of (v1 v2 v3:Value)(D1 D2 D3:List Sv)(B ga:Nat)(w:World)(h1:Hid (RC B w v1 D1))(h2:Hid (RC B w v2 D2))(h3:Hid (RC B w v3 D3))(l1:D1.length≤1000)(l2:D2.length≤1000)(l3:D3.length≤1000)(hg:Hid (blk w ga 31 #[v1,v2,v3]))(hB:B≤w.heap.size) :
    Calls Tryz.prog 29 #[.slice (some ⟨ga,0,none⟩) 3 3] w fun e w'=>(∃ v,e=.returned v∧RC B w' v (D1 ++ D2 ++ D3))∧Below w.heap.size w w':=by
 obtain ⟨ao1,cap1,rfl⟩:=h1.out.form
 obtain ⟨ao2,cap2,rfl⟩:=h2.out.form
 obtain ⟨ao3,cap3,rfl⟩:=h3.out.form
 obtain ⟨n1,e1⟩:∃ n:Nat,D1.length+D2.length=n:=⟨_,rfl⟩
 obtain ⟨n,e2⟩:∃ m:Nat,n1+D3.length=m:=⟨_,rfl⟩
 have E1:=Lh e1
 have E2:=Lh e2
 have hn1:n1≤2000:=by omega
 have hn2:n≤3000:=by omega
 have c0:w.cell? ⟨ga,0,none⟩=some (.slice ao1 D1.length cap1):=by rw [blk_cell hg.out];rfl
 have c1:w.cell? ⟨ga,1,none⟩=some (.slice ao2 D2.length cap2):=by rw [blk_cell hg.out];rfl
 have c2:w.cell? ⟨ga,2,none⟩=some (.slice ao3 D3.length cap3):=by rw [blk_cell hg.out];rfl
 clear e1 e2
 go_enter Tryz.func29,Tryz.ntmps29
 go_wp2_with fail
 go_loop [3,11] (fun sz iv=>(iv=.int .i64 0∧sz=.int .i64 0)∨(iv=.int .i64 1∧sz=.int .i64 D1.length)∨(iv=.int .i64 2∧sz=.int .i64 n1)∨(iv=.int .i64 3∧sz=.int .i64 n)) (fun _ iv=>4 - (intOf iv).toNat)
 case atStart=>exact Or.inl ⟨rfl,rfl⟩
 case round =>
  rcases hrel with ⟨rfl,rfl⟩ | ⟨rfl,rfl⟩ | ⟨rfl,rfl⟩ | ⟨rfl,rfl⟩
  ·go_wp2
   go_round
   case rel=>exact Or.inr (Or.inl ⟨rfl,by go_num⟩)
   case measure=>simp [intOf]
  ·have e1:(D1.length:Int)+(D2.length:Int)=(n1:Int):=by have:=E1.out;omega
   have e2:¬ ((n1:Int) < 0):=by omega
   go_wp2
   go_round
   case rel=>exact Or.inr (Or.inr (Or.inl ⟨rfl,rfl⟩))
   case measure=>simp [intOf]
  ·have e1:(n1:Int)+(D3.length:Int)=(n:Int):=by have:=E2.out;omega
   have e2:¬ ((n:Int) < 0):=by omega
   go_wp2
   go_round
   case rel=>exact Or.inr (Or.inr (Or.inr ⟨rfl,rfl⟩))
   case measure=>simp [intOf]
  ·clear c0 c1 c2
   go_wp2_with fail
   refine (growS_of n w (by omega)).mono ?_
   rintro e w1 ⟨⟨ao4,cap4,rfl,hr4⟩,hb1⟩
   have HR4:Hid (RJ B w.heap.size w1 (.slice ao4 0 cap4) []):=Lh ⟨hr4,hb1.size,fun x hx=>by cases hx⟩
   have HB1:=Lh hb1
   clear hb1 hr4
   go_wp2_with fail
   go_loopw [6,27] (fun nv iv wr=>∃ (p:List Sv) (ao:Option Addr) (cap:Nat),nv=.slice ao p.length cap∧RJ B w.heap.size wr (.slice ao p.length cap) p∧Below w.heap.size w wr∧((iv=.int .i64 0∧p=[])∨(iv=.int .i64 1∧p=D1)∨(iv=.int .i64 2∧p=D1 ++ D2)∨(iv=.int .i64 3∧p=D1 ++ D2 ++ D3))) (fun _ iv _=>4 - (intOf iv).toNat)
   case atStart=>exact ⟨[],ao4,cap4,rfl,HR4.out,HB1.out,Or.inl ⟨rfl,rfl⟩⟩
   case round =>
    obtain ⟨p,ao,cap,rfl,hrow,hbw,hor⟩:=hrel
    rename World=>wr
    have HBW:=Lh hbw
    have HROW:=Lh hrow
    have hgr:=blk_keep hbw hg.out
    have c0:wr.cell? ⟨ga,0,none⟩=some (.slice ao1 D1.length cap1):=by rw [blk_cell hgr];rfl
    have c1:wr.cell? ⟨ga,1,none⟩=some (.slice ao2 D2.length cap2):=by rw [blk_cell hgr];rfl
    have c2:wr.cell? ⟨ga,2,none⟩=some (.slice ao3 D3.length cap3):=by rw [blk_cell hgr];rfl
    clear hbw hrow HB1 HR4 hgr
    rcases hor with ⟨rfl,rfl⟩ | ⟨rfl,rfl⟩ | ⟨rfl,rfl⟩ | ⟨rfl,rfl⟩
    ·go_wp2_with (at_builtin;refine ls_rj rfl (.tmp 31) (.tmp 32) rfl B _ _ [] D1 rfl rfl HROW h1 HBW (by simp;omega) ?_;intro ao5 cap5 w5 hrj5 hb5)
     go_roundw
     case rel=>exact ⟨[] ++ D1,ao5,cap5,by first | rfl | simp,hrj5.out,hb5.out,Or.inr (Or.inl ⟨rfl,rfl⟩)⟩
     case measure=>simp [intOf]
    ·go_wp2_with (at_builtin;refine ls_rj rfl (.tmp 31) (.tmp 32) rfl B _ _ p D2 rfl rfl HROW h2 HBW (by omega) ?_;intro ao5 cap5 w5 hrj5 hb5)
     go_roundw
     case rel=>exact ⟨p ++ D2,ao5,cap5,by first | rfl | simp,hrj5.out,hb5.out,Or.inr (Or.inr (Or.inl ⟨rfl,rfl⟩))⟩
     case measure=>simp [intOf]
    ·go_wp2_with (at_builtin;refine ls_rj rfl (.tmp 31) (.tmp 32) rfl B _ _ (D1 ++ D2) D3 rfl rfl HROW h3 HBW (by rw [List.length_append];omega) ?_;intro ao5 cap5 w5 hrj5 hb5)
     go_roundw
     case rel=>exact ⟨D1 ++ D2 ++ D3,ao5,cap5,by first | rfl | simp,hrj5.out,hb5.out,Or.inr (Or.inr (Or.inr ⟨rfl,rfl⟩))⟩
     case measure=>simp [intOf]
    ·go_wp2
     go_ret
     exact ⟨⟨_,rfl,HROW.out.rc hB⟩,HBW.out⟩
end Go.Proofs.YtgmidodmmlmmeaaGreatDoor.xpt
