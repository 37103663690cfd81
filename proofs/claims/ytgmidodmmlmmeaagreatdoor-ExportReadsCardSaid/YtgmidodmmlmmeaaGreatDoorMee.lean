/-
  What edges of the landed export returns (layer 13): the statements of the edges. Conditions: a valid graph in memory, the table of powers.
  What node of the landed export's writer does (layer 13): it writes the next node's statement. Conditions: a valid graph, the writer's box in memory, the table of powers.
-/
import Derived.Test.YtgmidodmmlmmeaaGreatDoorMed
namespace Go.Proofs.YtgmidodmmlmmeaaGreatDoor.xpt
open Go.RowKit lex tre att nor
theorem edgeC_eq {e:gra.Ed}(h:EdV e):addT (addT (addT [] wLabel e.lb []) wLen (fmtL (e.ln*1000)) (fmtL (1*1000))) wWeight (fmtL (e.wt*1000)) (fmtL (1*1000))=edgeA e:=by
 have h1:=h.ln
 have h2:=h.wt
 have e1:fmtL (e.ln*1000)=fmtL (1*1000) ↔ e.ln=1:=by rw [fmt_inj (by omega) (by omega)];omega
 have e2:fmtL (e.wt*1000)=fmtL (1*1000) ↔ e.wt=1:=by rw [fmt_inj (by omega) (by omega)];omega
 rw [addT_app (Iff.rfl (a:=e.lb=[])),addT_app e1,addT_app e2]
 unfold edgeA
 rw [Int.mul_comm e.ln,Int.mul_comm e.wt]
 simp only [List.append_assoc,List.nil_append]
set_option maxRecDepth 100000 in
set_option maxHeartbeats 16000000 in
theorem cedges_of (g:gra.Gr)(gv:Value)(w:World)(h:Hid (gra.GrV w gv g))(hg:Hid (GV g))(htb:Hid (Tab w)) :
    Calls Tryz.prog 31 #[gv] w fun e w'=>(∃ v D,e=.returned v∧RS w.heap.size w' v D∧D.map Sv.s=g.es.map (edgeS g.ns))∧Below w.heap.size w w':=by
 have hel:g.es.length≤256:=hg.out.el
 have hll:g.ns.length≤64:=hg.out.nl
 obtain ⟨nv,ev,cv,rfl,hgn,hns,hes,hcs⟩:=id h.out
 obtain ⟨no,nc,rfl,-,-,-⟩:=id hns
 obtain ⟨eo,ec,rfl,-,-,-⟩:=id hes
 obtain ⟨co,cc,rfl,-,-,-⟩:=id hcs
 obtain ⟨Gn,hGn⟩:∃ X,bb g.nm=X:=⟨_,rfl⟩
 rw [show gra.bb g.nm=Gn from hGn]
 have HNS:=Lh hns
 have HES:=Lh hes
 clear h hns hes hcs hgn hGn
 have HB1:=Lh (al1 w (.cells #[.string Gn,.bool g.dir,.slice no g.ns.length nc,.slice eo g.es.length ec,.slice co g.cs.length cc] 26))
 have HK1:=Lh (blk_new w #[.string Gn,.bool g.dir,.slice no g.ns.length nc,.slice eo g.es.length ec,.slice co g.cs.length cc] 26)
 go_enter Tryz.func31,Tryz.ntmps31
 go_wp2_with fail
 generalize w.alloc (.cells #[.string Gn,.bool g.dir,.slice no g.ns.length nc,.slice eo g.es.length ec,.slice co g.cs.length cc] 26)=w1 at HB1 HK1 ⊢
 obtain ⟨n0,hn0⟩:∃ n0,w.heap.size=n0:=⟨_,rfl⟩
 have hb1:=HB1.out
 have hk1:=HK1.out
 rw [hn0] at hk1
 simp only [hn0]
 have HN0:=Lh hn0
 have HK:=Lh hk1
 clear hn0 hk1 HK1
 go_loopw [3,11] (fun lv iv wr=>∃ (k:Nat) (D:List Sv),iv=.int .i64 k∧k≤g.es.length∧RS n0 wr lv D∧D.map Sv.s=(g.es.take k).map (edgeS g.ns)∧Below w.heap.size w wr∧blk wr n0 26 #[.string Gn,.bool g.dir,.slice no g.ns.length nc,.slice eo g.es.length ec,.slice co g.cs.length cc]) (fun _ iv _=>g.es.length - (intOf iv).toNat)
 case atStart=>exact ⟨0,[],rfl,Nat.zero_le _,RS.nil _ _,rfl,HB1.out,HK.out⟩
 case round =>
  obtain ⟨k,D,rfl,hk,hrs,hD,hbw,hgx⟩:=hrel
  rename World=>wr
  obtain ⟨vo,vc,rfl⟩:=hrs.form
  have hDk:D.length≤300:=by rw [← List.length_map (f:=Sv.s),hD,List.length_map,List.length_take];omega
  have HRS:=Lh hrs
  have HD:=Lh hD
  have HBW:=Lh hbw
  have HGX:=Lh hgx
  have hz0:=blk_lt hgx
  clear hrs hD hbw hgx HB1 hb1 HK
  by_cases hlt:k < g.es.length
  case neg =>
   obtain rfl:k=g.es.length:=by omega
   go_wp2
   go_ret
   refine ⟨⟨_,D,rfl,by rw [HN0.out];exact HRS.out,?_⟩,HBW.out⟩
   rw [HD.out,List.take_length]
  obtain ⟨A,rfl,q0,q1,q2,q3,q4,q5,q6,-⟩:=(HES.out.keep HBW.out).get hlt
  have hmem:=List.getElem_mem hlt
  have HTK:=Lh (take_one hlt)
  obtain ⟨x,hx⟩:∃ x,g.es[k]=x:=⟨_,rfl⟩
  rw [hx] at q0 q1 q2 q3 q4 q5 q6 hmem HTK
  clear hx
  have hed:=hg.out.ev x hmem
  have HED:=Lh hed
  obtain ⟨fr0,to0,f1,f2,t1,t2,fr1,to1⟩:=edge_in hg.out hmem
  obtain ⟨i1,hi1⟩:∃ i:Nat,x.fr=i:=⟨x.fr.toNat,by omega⟩
  obtain ⟨i2,hi2⟩:∃ i:Nat,x.to=i:=⟨x.to.toNat,by omega⟩
  have hl1:i1 < g.ns.length:=by omega
  have hl2:i2 < g.ns.length:=by omega
  have hn1:ndAt g.ns x.fr=g.ns[i1]:=by unfold ndAt;rw [hi1,Int.toNat_natCast,List.getD_eq_getElem?_getD,List.getElem?_eq_getElem hl1];rfl
  have hn2:ndAt g.ns x.to=g.ns[i2]:=by unfold ndAt;rw [hi2,Int.toNat_natCast,List.getD_eq_getElem?_getD,List.getElem?_eq_getElem hl2];rfl
  obtain ⟨fr,tw,fp,tp,lb,wt,ln⟩:=x
  simp only at hed fr0 to0 f1 f2 t1 t2 hi1 hi2 hn1 hn2 fr1 to1 q0 q1 q2 q3 q4 q5 q6
  subst hi1 hi2
  have hwt:=hed.wt
  have hln:=hed.ln
  simp only at hwt hln
  have hc1:=hg.out.nd _ (List.getElem_mem hl1)
  have hc2:=hg.out.nd _ (List.getElem_mem hl2)
  obtain ⟨An,e0,po1,pc1,hC1,hP1,hm1⟩:=nds_c HNS.out hl1
  obtain ⟨_,e,po2,pc2,hC2,hP2,hm2⟩:=nds_c HNS.out hl2
  subst e0
  cases e
  rw [hn1] at f2
  rw [hn2] at t2
  obtain ⟨X1,hX1⟩:∃ y,g.ns[i1]=y:=⟨_,rfl⟩
  obtain ⟨X2,hX2⟩:∃ y,g.ns[i2]=y:=⟨_,rfl⟩
  rw [hX1] at hC1 hP1 f2 hc1 hn1 hm1
  rw [hX2] at hC2 hP2 t2 hc2 hn2 hm2
  obtain ⟨r1,hr1⟩:∃ r,refP X1 fp=r:=⟨_,rfl⟩
  obtain ⟨r2,hr2⟩:∃ r,refP X2 tp=r:=⟨_,rfl⟩
  have b1:=ref_bnd hc1 f2
  have b2:=ref_bnd hc2 t2
  rw [hr1] at b1
  rw [hr2] at b2
  have HR1:Hid (rfV (refP X1 fp)=.agg #[.string (bb r1.1),.string (bb r1.2)]):=Lh (by rw [hr1];rfl)
  have HR2:Hid (rfV (refP X2 tp)=.agg #[.string (bb r2.1),.string (bb r2.2)]):=Lh (by rw [hr2];rfl)
  have HST:Hid (edgeS g.ns ⟨i1,i2,fp,tp,lb,wt,ln⟩=.mk 2 [] [r1,r2] (edgeA ⟨i1,i2,fp,tp,lb,wt,ln⟩) []):=Lh (by unfold edgeS;simp only;rw [hn1,hn2,hr1,hr2])
  have B1:=Lh b1
  have B2:=Lh b2
  have HP1:=Lh hP1
  have HP2:=Lh hP2
  have HC1:=Lh hC1
  have HC2:=Lh hC2
  clear hr1 hr2 hX1 hX2 b1 b2 hn1 hn2 hc1 hc2 hP1 hP2 hC1 hC2 hed hm1 hm2 hmem
  obtain ⟨L,hL⟩:∃ X,bb lb=X:=⟨_,rfl⟩
  rw [show gra.bb lb=L from hL] at q4
  have HL:=Lh hL
  clear hL
  have z1:(0:Int)≤(i1:Int):=by omega
  have z2:(i1:Int) < (g.ns.length:Int):=by omega
  have z3:(0:Int)≤(i2:Int):=by omega
  have z4:(i2:Int) < (g.ns.length:Int):=by omega
  have z5:(0:Int)≤(k:Int):=by omega
  have z6:(k:Int) < (g.es.length:Int):=by omega
  have hke:=blk_new wr #[.int .i64 (i1:Int),.int .i64 (i2:Int),.int .i64 fp,.int .i64 tp,.string L,.int .i64 wt,.int .i64 ln] 61
  have hbe:=al1 wr (.cells #[.int .i64 (i1:Int),.int .i64 (i2:Int),.int .i64 fp,.int .i64 tp,.string L,.int .i64 wt,.int .i64 ln] 61)
  have hqe:(wr.alloc (.cells #[.int .i64 (i1:Int),.int .i64 (i2:Int),.int .i64 fp,.int .i64 tp,.string L,.int .i64 wt,.int .i64 ln] 61)).heap.size=wr.heap.size+1:=by simp
  have HKE:=Lh hke
  have HBE:=Lh hbe
  have HQE:=Lh hqe
  clear hke hbe hqe
  go_wp2_with fail
  generalize wr.alloc (.cells #[.int .i64 (i1:Int),.int .i64 (i2:Int),.int .i64 fp,.int .i64 tp,.string L,.int .i64 wt,.int .i64 ln] 61)=w2 at HKE HBE HQE ⊢
  have hq2:=HQE.out
  have hlb0:=NB.new (B:=wr.heap.size+1) w2 2
  have hbl:=al1 w2 (.cells #[.int .i64 2,.slice none 0 0] 132)
  generalize w2.alloc (.cells #[.int .i64 2,.slice none 0 0] 132)=w4 at hlb0 hbl ⊢
  rw [hq2] at hlb0 hbl
  try simp only [hq2]
  obtain ⟨e0,he0⟩:∃ e0,wr.heap.size=e0:=⟨_,rfl⟩
  have hke4:blk w4 e0 61 #[.int .i64 (i1:Int),.int .i64 (i2:Int),.int .i64 fp,.int .i64 tp,.string L,.int .i64 wt,.int .i64 ln]:=blk_keep (show Below w2.heap.size w2 w4 by rw [hq2];exact hbl) (by rw [← he0];exact HKE.out)
  have hb4:Below wr.heap.size wr w4:=HBE.out.trans (hbl.mono (by omega))
  rw [he0] at hlb0 hz0
  simp only [he0]
  have HE0:=Lh he0
  have HNB4:=Lh hlb0
  have HKE4:=Lh hke4
  have HB4:=Lh hb4
  have hz4:e0+2≤w4.heap.size:=by obtain ⟨_,_,q,-⟩:=hlb0;exact blk_lt q
  clear hlb0 hbl hke4 hb4 q0 q1 q2 q3 q4 q5 q6 HKE HBE HQE hq2 he0
  have n4:w4.cell? ⟨e0,4,none⟩=some (.string L):=by rw [blk_cell HKE4.out];rfl
  go_wp2_with fail
  refine (ctext_of (e0+1) (e0+1) 2 [] ⟨#[108,97,98,101,108]⟩ L ⟨#[]⟩ wLabel lb [] w4 HNB4 (Lh rfl) HL (Lh rfl) (Nat.le_refl _) (by decide)).mono ?_
  rintro e w5 ⟨rfl,hnb,hkp⟩
  have HNB5:=Lh hnb
  have HKE5:=Lh (hkp.2 _ _ _ HKE4.out (by decide) (by omega))
  have HB5:=Lh (HB4.out.trans (hkp.1.mono (by have:=HE0.out;omega)))
  have hz5:e0+2≤w5.heap.size:=by obtain ⟨_,_,q,-⟩:=hnb;exact blk_lt q
  clear hnb hkp n4
  have hl5:(addT [] wLabel lb []).length≤1:=by have:=addT_len [] wLabel lb [];simpa using this
  obtain ⟨l5,hl5'⟩:∃ l,addT [] wLabel lb []=l:=⟨_,rfl⟩
  rw [hl5'] at hl5 HNB5
  have HL5:=Lh hl5'
  clear hl5'
  have n6:w5.cell? ⟨e0,6,none⟩=some (.int .i64 ln):=by rw [blk_cell HKE5.out];rfl
  go_wp2_with fail
  refine (cnumb_of (e0+1) (e0+1) 2 l5 ⟨#[108,101,110]⟩ wLen ln 1000 1 w5 HNB5 (Lh (tab_below htb.out (HBW.out.trans (HB5.out.mono (by have:=HBW.out.size;have:=HE0.out;omega))))) (Lh rfl) (by decide) (Lh rfl) (Nat.le_refl _) (by omega) (by omega) (by omega)).mono ?_
  rintro e w6 ⟨rfl,hnb,hkp⟩
  have HNB6:=Lh hnb
  have HKE6:=Lh (hkp.2 _ _ _ HKE5.out (by decide) (by omega))
  have HB6:=Lh (HB5.out.trans (hkp.1.mono (by have:=HE0.out;omega)))
  have hz6:e0+2≤w6.heap.size:=by obtain ⟨_,_,q,-⟩:=hnb;exact blk_lt q
  clear hnb hkp n6
  have hl6:(addT l5 wLen (fmtL (ln*1000)) (fmtL (1*1000))).length≤2:=by have:=addT_len l5 wLen (fmtL (ln*1000)) (fmtL (1*1000));omega
  obtain ⟨l6,hl6'⟩:∃ l,addT l5 wLen (fmtL (ln*1000)) (fmtL (1*1000))=l:=⟨_,rfl⟩
  rw [hl6'] at hl6 HNB6
  have HL6:=Lh hl6'
  clear hl6'
  have n5:w6.cell? ⟨e0,5,none⟩=some (.int .i64 wt):=by rw [blk_cell HKE6.out];rfl
  go_wp2_with fail
  refine (cnumb_of (e0+1) (e0+1) 2 l6 ⟨#[119,101,105,103,104,116]⟩ wWeight wt 1000 1 w6 HNB6 (Lh (tab_below htb.out (HBW.out.trans (HB6.out.mono (by have:=HBW.out.size;have:=HE0.out;omega))))) (Lh rfl) (by decide) (Lh rfl) (Nat.le_refl _) (by omega) (by omega) (by omega)).mono ?_
  rintro e w7 ⟨rfl,hnb,hkp⟩
  have HNB7:=Lh hnb
  have HKE7:=Lh (hkp.2 _ _ _ HKE6.out (by decide) (by omega))
  have HB7:=Lh (HB6.out.trans (hkp.1.mono (by have:=HE0.out;omega)))
  have hz7:e0+2≤w7.heap.size:=by obtain ⟨_,_,q,-⟩:=hnb;exact blk_lt q
  clear hnb hkp n5
  have hl7:(addT l6 wWeight (fmtL (wt*1000)) (fmtL (1*1000))).length≤3:=by have:=addT_len l6 wWeight (fmtL (wt*1000)) (fmtL (1*1000));omega
  have hA:addT l6 wWeight (fmtL (wt*1000)) (fmtL (1*1000))=edgeA ⟨i1,i2,fp,tp,lb,wt,ln⟩:=by rw [← HL6.out,← HL5.out];exact edgeC_eq HED.out
  obtain ⟨l7,hl7'⟩:∃ l,addT l6 wWeight (fmtL (wt*1000)) (fmtL (1*1000))=l:=⟨_,rfl⟩
  rw [hl7'] at hl7 HNB7 hA
  have HA:=Lh hA
  clear hl7' hA
  have hbw7:Below w.heap.size w w7:=HBW.out.trans (HB7.out.mono (by have:=HBW.out.size;exact this))
  have hgx7:=blk_keep HB7.out HGX.out
  obtain ⟨c0,c1,c2,c3,c4,c5⟩:=HC1.out.keep hbw7
  obtain ⟨d0,d1,d2,d3,d4,d5⟩:=HC2.out.keep hbw7
  have g2:w7.cell? ⟨n0,2,none⟩=some (.slice (some An) g.ns.length nc):=by rw [blk_cell hgx7];rfl
  have m0:w7.cell? ⟨e0,0,none⟩=some (.int .i64 (i1:Int)):=by rw [blk_cell HKE7.out];rfl
  have m1:w7.cell? ⟨e0,1,none⟩=some (.int .i64 (i2:Int)):=by rw [blk_cell HKE7.out];rfl
  have m2:w7.cell? ⟨e0,2,none⟩=some (.int .i64 fp):=by rw [blk_cell HKE7.out];rfl
  have m3:w7.cell? ⟨e0,3,none⟩=some (.int .i64 tp):=by rw [blk_cell HKE7.out];rfl
  have HBW7:=Lh hbw7
  clear hbw7 hgx7
  go_wp2_with fail
  refine tstart (fun W:World=>W.cell? ⟨n0,2,none⟩=some (.slice (some An) g.ns.length nc)∧W.cell? ⟨e0,0,none⟩=some (.int .i64 (i1:Int))∧W.cell? ⟨e0,1,none⟩=some (.int .i64 (i2:Int))∧W.cell? ⟨e0,2,none⟩=some (.int .i64 fp)∧W.cell? ⟨e0,3,none⟩=some (.int .i64 tp)∧W.cell? (An.add (i1*6))=some (.string (bb X1.nm))∧W.cell? ⟨(An.add (i1*6)).block,(An.add (i1*6)).off+1,none⟩=some (.string (bb X1.lb))∧W.cell? ⟨(An.add (i1*6)).block,(An.add (i1*6)).off+2,none⟩=some (.int .i64 X1.w)∧W.cell? ⟨(An.add (i1*6)).block,(An.add (i1*6)).off+3,none⟩=some (.int .i64 X1.h)∧W.cell? ⟨(An.add (i1*6)).block,(An.add (i1*6)).off+4,none⟩=some (.int .i64 X1.cl)∧W.cell? ⟨(An.add (i1*6)).block,(An.add (i1*6)).off+5,none⟩=some (.slice po1 X1.ps.length pc1)∧W.cell? (An.add (i2*6))=some (.string (bb X2.nm))∧W.cell? ⟨(An.add (i2*6)).block,(An.add (i2*6)).off+1,none⟩=some (.string (bb X2.lb))∧W.cell? ⟨(An.add (i2*6)).block,(An.add (i2*6)).off+2,none⟩=some (.int .i64 X2.w)∧W.cell? ⟨(An.add (i2*6)).block,(An.add (i2*6)).off+3,none⟩=some (.int .i64 X2.h)∧W.cell? ⟨(An.add (i2*6)).block,(An.add (i2*6)).off+4,none⟩=some (.int .i64 X2.cl)∧W.cell? ⟨(An.add (i2*6)).block,(An.add (i2*6)).off+5,none⟩=some (.slice po2 X2.ps.length pc2)) 19 (by kernel_rfl) (⟨s_drew (g2),s_drew (m0),s_drew (m1),s_drew (m2),s_drew (m3),s_drew (c0),s_drew (c1),s_drew (c2),s_drew (c3),s_drew (c4),s_drew (c5),s_drew (d0),s_drew (d1),s_drew (d2),s_drew (d3),s_drew (d4),s_drew (d5)⟩) (fun hHeld=>?_)
  have hb:=b_drew w7
  replace hHeld:((fun W:World=>W.cell? ⟨n0,2,none⟩=some (.slice (some An) g.ns.length nc)∧W.cell? ⟨e0,0,none⟩=some (.int .i64 (i1:Int))∧W.cell? ⟨e0,1,none⟩=some (.int .i64 (i2:Int))∧W.cell? ⟨e0,2,none⟩=some (.int .i64 fp)∧W.cell? ⟨e0,3,none⟩=some (.int .i64 tp)∧W.cell? (An.add (i1*6))=some (.string (bb X1.nm))∧W.cell? ⟨(An.add (i1*6)).block,(An.add (i1*6)).off+1,none⟩=some (.string (bb X1.lb))∧W.cell? ⟨(An.add (i1*6)).block,(An.add (i1*6)).off+2,none⟩=some (.int .i64 X1.w)∧W.cell? ⟨(An.add (i1*6)).block,(An.add (i1*6)).off+3,none⟩=some (.int .i64 X1.h)∧W.cell? ⟨(An.add (i1*6)).block,(An.add (i1*6)).off+4,none⟩=some (.int .i64 X1.cl)∧W.cell? ⟨(An.add (i1*6)).block,(An.add (i1*6)).off+5,none⟩=some (.slice po1 X1.ps.length pc1)∧W.cell? (An.add (i2*6))=some (.string (bb X2.nm))∧W.cell? ⟨(An.add (i2*6)).block,(An.add (i2*6)).off+1,none⟩=some (.string (bb X2.lb))∧W.cell? ⟨(An.add (i2*6)).block,(An.add (i2*6)).off+2,none⟩=some (.int .i64 X2.w)∧W.cell? ⟨(An.add (i2*6)).block,(An.add (i2*6)).off+3,none⟩=some (.int .i64 X2.h)∧W.cell? ⟨(An.add (i2*6)).block,(An.add (i2*6)).off+4,none⟩=some (.int .i64 X2.cl)∧W.cell? ⟨(An.add (i2*6)).block,(An.add (i2*6)).off+5,none⟩=some (.slice po2 X2.ps.length pc2))) w7.drew:=hHeld
  generalize w7.drew=y0 at hHeld hb ⊢
  refine ton 0 25 (.pointer (some ⟨n0,2,none⟩)) ?_
  refine ton 1 26 (.slice (some An) g.ns.length nc) ?_
  refine ton 2 27 (.pointer (some ⟨e0,0,none⟩)) ?_
  refine ton 3 28 (.int .i64 (i1:Int)) ?_
  refine ton 4 29 (.pointer (some (An.add (i1*6)))) ?_
  refine ton 5 30 (.agg #[.string (bb X1.nm),.string (bb X1.lb),.int .i64 X1.w,.int .i64 X1.h,.int .i64 X1.cl,.slice po1 X1.ps.length pc1]) ?_
  refine ton 6 31 (.pointer (some ⟨e0,2,none⟩)) ?_
  refine ton 7 32 (.int .i64 fp) ?_
  refine ton 9 34 (.pointer (some ⟨n0,2,none⟩)) ?_
  refine ton 10 35 (.slice (some An) g.ns.length nc) ?_
  refine ton 11 36 (.pointer (some ⟨e0,1,none⟩)) ?_
  refine ton 12 37 (.int .i64 (i2:Int)) ?_
  refine ton 13 38 (.pointer (some (An.add (i2*6)))) ?_
  refine ton 14 39 (.agg #[.string (bb X2.nm),.string (bb X2.lb),.int .i64 X2.w,.int .i64 X2.h,.int .i64 X2.cl,.slice po2 X2.ps.length pc2]) ?_
  refine ton 15 40 (.pointer (some ⟨e0,3,none⟩)) ?_
  refine ton 16 41 (.int .i64 tp) ?_
  try simp only [sA,sB,sC]
  clear g2 m0 m1 m2 m3 c0 c1 c2 c3 c4 c5 d0 d1 d2 d3 d4 d5
  refine tgo (i:=8) (by kernel_rfl) rfl (fun K hK=>?_)
  go_simp
  refine (cref_of X1 (.slice po1 X1.ps.length pc1) fp _ y0 (Lh ((HP1.out.keep HBW7.out).keep hb)) (by omega) (by omega) HR1).mono ?_
  rintro e y1 ⟨rfl,hb'⟩
  refine hK.out _ _ (fun _=>(by obtain ⟨k0,k1,k2,k3,k4,k5,k6,k7,k8,k9,k10,k11,k12,k13,k14,k15,k16⟩:=hHeld;exact ⟨cell_later' hb' k0,cell_later' hb' k1,cell_later' hb' k2,cell_later' hb' k3,cell_later' hb' k4,cell_later' hb' k5,cell_later' hb' k6,cell_later' hb' k7,cell_later' hb' k8,cell_later' hb' k9,cell_later' hb' k10,cell_later' hb' k11,cell_later' hb' k12,cell_later' hb' k13,cell_later' hb' k14,cell_later' hb' k15,cell_later' hb' k16⟩)) (fun hHeld=>?_)
  replace hHeld:=hHeld (by decide)
  clear hK K
  try simp only [sA,sB,sC]
  replace hb:=below_keep hb' hb
  clear hb'
  refine tgo (i:=17) (by kernel_rfl) rfl (fun K hK=>?_)
  go_simp
  refine (cref_of X2 (.slice po2 X2.ps.length pc2) tp _ y1 (Lh ((HP2.out.keep HBW7.out).keep hb)) (by omega) (by omega) HR2).mono ?_
  rintro e y2 ⟨rfl,hb'⟩
  refine hK.out _ _ (fun _=>(by obtain ⟨k0,k1,k2,k3,k4,k5,k6,k7,k8,k9,k10,k11,k12,k13,k14,k15,k16⟩:=hHeld;exact ⟨cell_later' hb' k0,cell_later' hb' k1,cell_later' hb' k2,cell_later' hb' k3,cell_later' hb' k4,cell_later' hb' k5,cell_later' hb' k6,cell_later' hb' k7,cell_later' hb' k8,cell_later' hb' k9,cell_later' hb' k10,cell_later' hb' k11,cell_later' hb' k12,cell_later' hb' k13,cell_later' hb' k14,cell_later' hb' k15,cell_later' hb' k16⟩)) (fun hHeld=>?_)
  replace hHeld:=hHeld (by decide)
  clear hK K
  try simp only [sA,sB,sC]
  replace hb:=below_keep hb' hb
  clear hb'
  have hrb:=blk_new y2 #[.string (bb r1.1),.string (bb r1.2),.string (bb r2.1),.string (bb r2.2)] 121
  have hb':=al1 y2 (.cells #[.string (bb r1.1),.string (bb r1.2),.string (bb r2.1),.string (bb r2.2)] 121)
  refine tgo (i:=18) (by kernel_rfl) rfl (fun K hK=>?_)
  go_simp
  refine hK.out _ _ (fun _=>(by obtain ⟨k0,k1,k2,k3,k4,k5,k6,k7,k8,k9,k10,k11,k12,k13,k14,k15,k16⟩:=hHeld;exact ⟨s_alloc k0,s_alloc k1,s_alloc k2,s_alloc k3,s_alloc k4,s_alloc k5,s_alloc k6,s_alloc k7,s_alloc k8,s_alloc k9,s_alloc k10,s_alloc k11,s_alloc k12,s_alloc k13,s_alloc k14,s_alloc k15,s_alloc k16⟩)) (fun hHeld=>?_)
  replace hHeld:=hHeld (by decide)
  clear hK K
  try simp only [sA,sB,sC]
  obtain ⟨rb,hrbs⟩:∃ rb,y2.heap.size=rb:=⟨_,rfl⟩
  have hle:=hb.size
  rw [hrbs] at hrb hle
  try simp only [hrbs]
  replace hb:=below_keep hb' hb
  generalize y2.alloc (.cells #[.string (bb r1.1),.string (bb r1.2),.string (bb r2.1),.string (bb r2.2)] 121)=y3 at hrb hb hHeld ⊢
  clear hb' hrbs
  refine tgo (i:=19) (by kernel_rfl) rfl (fun K hK=>?_)
  go_simp
  refine hK.out _ _ (fun h=>absurd rfl h) (fun hHeld=>?_)
  clear hK K hHeld
  try simp only [sA,sB,sC]
  refine tdone (by kernel_rfl) ?_ _
  obtain ⟨ao,ac,hlb8,hrow8⟩:=HNB7.out.below hb
  obtain ⟨_,_,e9,hac1,hac2⟩:=own_form hrow8
  cases e9
  have u1:y3.cell? ⟨e0+1,1,none⟩=some (.slice ao l7.length ac):=by rw [blk_cell hlb8];rfl
  have HRB:=Lh hrb
  have HROW:=Lh hrow8
  have HB8:=Lh (below_keep hb HB7.out)
  have hz8:=HB8.out.size
  have hrbz:=blk_lt hrb
  have hlb:e0+2≤y3.heap.size:=blk_lt hlb8
  clear hb hlb8 hrow8 hrb
  go_wp2_with fail
  refine (ccutA_of ao l7.length ac y3 hac1 hac2).mono ?_
  rintro e y4 ⟨rfl,rfl⟩
  have HX:Hid (elS n0 y3 (Value.slice vo D.length vc).ownBlock ⟨edgeS g.ns ⟨i1,i2,fp,tp,lb,wt,ln⟩,.slice (some ⟨rb,0,none⟩) 2 2,.slice ao l7.length l7.length,.slice none 0 0⟩):=Lh (by
   refine ⟨e0,y3.heap.size,by omega,Nat.le_refl _,fun q hq h2=>?_,fun U hU=>?_⟩
   ·have:=(HRS.out.lt q hq).2;have:=HE0.out;omega
   ·have hbn:∀ r∈l7,r.1.length≤maxLen∧r.2.length≤maxLen:=by rw [HA.out];exact edgeA_bnd HED.out
    have hp:=prs_cut (own_selfP HROW.out (show e0≤e0+1 by omega) hbn U hU)
    have hq:=prs_two (hU.blk (by have:=HB7.out.size;have:=HE0.out;omega) hrbz HRB.out) B1.out.1 B1.out.2 B2.out.1 B2.out.2
    unfold svOk
    rw [HST.out]
    refine ⟨Nat.zero_le _,hq,?_,Sts.nil U⟩
    show Prs U _ (edgeA _)
    rw [← HA.out];exact hp)
  have HRS8:=Lh (HRS.out.below HB8.out)
  clear u1
  go_wp2_with (at_builtin;refine ls_st rfl (.tmp 44) (.tmp 50) rfl n0 _ D ⟨edgeS g.ns ⟨i1,i2,fp,tp,lb,wt,ln⟩,.slice (some ⟨rb,0,none⟩) 2 2,.slice ao l7.length l7.length,.slice none 0 0⟩ 2 ⟨#[]⟩ _ _ _ rfl y3.heap.size rfl rfl rfl HRS8 HX (by omega) (by omega) ⟨rfl,rfl,rfl⟩ ?_;intro gg cap V hrs9 hg9)
  have hB9:=grownB HRS8.out hg9.out (by omega)
  have hBW9:=HBW.out.trans ((HB8.out.mono HBW.out.size).trans (hB9.mono (by have:=HN0.out;omega)))
  have hgx9:=grownK HRS8.out hg9.out (blk_keep HB8.out HGX.out) (by decide)
  have HBW9:=Lh hBW9
  have HGX9:=Lh hgx9
  clear hB9 hBW9 hgx9
  go_wp2
  go_roundw
  case rel=>exact ⟨k+1,D ++ [⟨edgeS g.ns ⟨i1,i2,fp,tp,lb,wt,ln⟩,.slice (some ⟨rb,0,none⟩) 2 2,.slice ao l7.length l7.length,.slice none 0 0⟩],by go_num,by omega,hrs9.out,by rw [List.map_append,HD.out,HTK.out,List.map_append];rfl,HBW9.out,HGX9.out⟩
  case measure=>simp [intOf];omega
theorem nodeC_eq {x:gra.Nd}(h:NdV x):addT (addT (addT (addT [] wHeight (fmtL (x.h*1)) (fmtL (10000*1))) wLabel x.lb x.nm) wPorts (portsT x.ps) []) wWidth (fmtL (x.w*1)) (fmtL (20000*1))=nodeA x:=by
 have h1:=h.h
 have h2:=h.w
 have e1:fmtL (x.h*1)=fmtL (10000*1) ↔ x.h=10000:=by rw [Int.mul_one];exact fmt_inj (by omega) (by omega)
 have e2:fmtL (x.w*1)=fmtL (20000*1) ↔ x.w=20000:=by rw [Int.mul_one];exact fmt_inj (by omega) (by omega)
 rw [addT_app e1,addT_app (Iff.rfl (a:=x.lb=x.nm)),addT_app (ports_iff x.ps),addT_app e2]
 unfold nodeA
 simp only [List.append_assoc,List.nil_append,Int.mul_one]
theorem blk_set6 {W:World}{g:Nat}{t:TypeId}{a0 a1 a2 a3 a4 a5:Value}(h:blk W g t #[a0,a1,a2,a3,a4,a5])(c0 c1 c2 c3 c4 c5:Value):blk ((((((W.setCell ⟨g,0,none⟩ c0).setCell ⟨g,1,none⟩ c1).setCell ⟨g,2,none⟩ c2).setCell ⟨g,3,none⟩ c3).setCell ⟨g,4,none⟩ c4).setCell ⟨g,5,none⟩ c5) g t #[c0,c1,c2,c3,c4,c5]:=by
 have h0:blk (W.setCell ⟨g,0,none⟩ c0) g t #[c0,a1,a2,a3,a4,a5]:=blk_set h c0
 have h1:blk ((W.setCell ⟨g,0,none⟩ c0).setCell ⟨g,1,none⟩ c1) g t #[c0,c1,a2,a3,a4,a5]:=blk_set h0 c1
 have h2:blk (((W.setCell ⟨g,0,none⟩ c0).setCell ⟨g,1,none⟩ c1).setCell ⟨g,2,none⟩ c2) g t #[c0,c1,c2,a3,a4,a5]:=blk_set h1 c2
 have h3:blk ((((W.setCell ⟨g,0,none⟩ c0).setCell ⟨g,1,none⟩ c1).setCell ⟨g,2,none⟩ c2).setCell ⟨g,3,none⟩ c3) g t #[c0,c1,c2,c3,a4,a5]:=blk_set h2 c3
 have h4:blk (((((W.setCell ⟨g,0,none⟩ c0).setCell ⟨g,1,none⟩ c1).setCell ⟨g,2,none⟩ c2).setCell ⟨g,3,none⟩ c3).setCell ⟨g,4,none⟩ c4) g t #[c0,c1,c2,c3,c4,a5]:=blk_set h3 c4
 exact blk_set h4 c5
theorem below_set6 {B:Nat}{a W:World}{g:Nat}(h:Below B a W)(hg:B≤g)(c0 c1 c2 c3 c4 c5:Value):Below B a ((((((W.setCell ⟨g,0,none⟩ c0).setCell ⟨g,1,none⟩ c1).setCell ⟨g,2,none⟩ c2).setCell ⟨g,3,none⟩ c3).setCell ⟨g,4,none⟩ c4).setCell ⟨g,5,none⟩ c5):=(below_set5 h hg c0 c1 c2 c3 c4).setCell hg _
theorem blk_far6 {W:World}{b g:Nat}{t:TypeId}{arr:Array Value}(h:blk W b t arr)(hb:b≠g)(c0 c1 c2 c3 c4 c5:Value):blk ((((((W.setCell ⟨g,0,none⟩ c0).setCell ⟨g,1,none⟩ c1).setCell ⟨g,2,none⟩ c2).setCell ⟨g,3,none⟩ c3).setCell ⟨g,4,none⟩ c4).setCell ⟨g,5,none⟩ c5) b t arr:=blk_far (blk_far5 h hb c0 c1 c2 c3 c4) hb _
theorem wc_node {w0 W:World}{R:Nat}{g:gra.Gr}{V:Wv}{n k i:Nat}(h:Wc w0 W R g V n k)(hi:i < g.ns.length):∃ A po pc,V.no=some A∧W.cell? ⟨R,2,none⟩=some (.slice (some A) g.ns.length V.nc)∧ndC w0 (A.add (i*6)) g.ns[i] po pc∧gra.Pts w0 (.slice po g.ns[i].ps.length pc) g.ns[i].ps∧g.ns[i].nm.length≤maxLen:=by
 obtain ⟨no,nc,eo,ec,co,cc,mv⟩:=V
 obtain ⟨h1,h2,h3,h4,h5⟩:=h
 obtain ⟨nv,ev,cv,e,-,q1,-,q3⟩:=h1
 cases e
 obtain ⟨A,e,po,pc,q4,q5,q6⟩:=nds_c q1 hi
 simp only at e
 subst e
 exact ⟨A,po,pc,rfl,by rw [blk_cell h4];rfl,q4,q5,q6⟩
def A45 (a:Act)(R rb nb:Nat):Prop:=a=⟨#[.pointer (some ⟨R,0,none⟩),a.tmps.getD 1 undef,.pointer (some ⟨rb,0,none⟩),.pointer (some ⟨nb,0,none⟩),a.tmps.getD 4 undef,a.tmps.getD 5 undef,a.tmps.getD 6 undef,a.tmps.getD 7 undef,a.tmps.getD 8 undef,a.tmps.getD 9 undef,a.tmps.getD 10 undef,a.tmps.getD 11 undef,a.tmps.getD 12 undef,a.tmps.getD 13 undef,a.tmps.getD 14 undef,a.tmps.getD 15 undef,a.tmps.getD 16 undef,a.tmps.getD 17 undef,a.tmps.getD 18 undef,a.tmps.getD 19 undef,a.tmps.getD 20 undef,a.tmps.getD 21 undef,a.tmps.getD 22 undef,a.tmps.getD 23 undef,a.tmps.getD 24 undef,a.tmps.getD 25 undef,a.tmps.getD 26 undef,a.tmps.getD 27 undef,a.tmps.getD 28 undef,a.tmps.getD 29 undef,a.tmps.getD 30 undef,a.tmps.getD 31 undef,a.tmps.getD 32 undef,a.tmps.getD 33 undef,a.tmps.getD 34 undef,a.tmps.getD 35 undef,a.tmps.getD 36 undef,a.tmps.getD 37 undef,a.tmps.getD 38 undef,a.tmps.getD 39 undef,a.tmps.getD 40 undef,a.tmps.getD 41 undef,a.tmps.getD 42 undef,a.tmps.getD 43 undef,a.tmps.getD 44 undef],[]⟩
theorem A45.use {a:Act}{R rb nb:Nat}(h:A45 a R rb nb):∃ f:Nat→Value,a=⟨#[.pointer (some ⟨R,0,none⟩),f 1,.pointer (some ⟨rb,0,none⟩),.pointer (some ⟨nb,0,none⟩),f 4,f 5,f 6,f 7,f 8,f 9,f 10,f 11,f 12,f 13,f 14,f 15,f 16,f 17,f 18,f 19,f 20,f 21,f 22,f 23,f 24,f 25,f 26,f 27,f 28,f 29,f 30,f 31,f 32,f 33,f 34,f 35,f 36,f 37,f 38,f 39,f 40,f 41,f 42,f 43,f 44],[]⟩:=⟨fun i=>a.tmps.getD i undef,h⟩
set_option maxRecDepth 100000 in
set_option maxHeartbeats 8000000 in
theorem cnode13_of (w0:World)(R:Nat)(g:gra.Gr)(V:Wv)(n k:Nat)(w:World)(hg:Hid (GV g))(hW:Hid (Wc w0 w R g V n k))(htb:Hid (Tab w0))(hn:n < g.ns.length) :
    Calls Tryz.prog 135 #[.pointer (some ⟨R,0,none⟩)] w fun e w'=>∃ v,e=.returned v∧VSt (nodeS g.ns[n]) w w' v∧Wc w0 w' R g V (n+1) k∧Pk R w w':=by
 have hgl:g.ns.length≤64:=hg.out.nl
 obtain ⟨-,-,-,c6,-,-,-,-,-,-⟩:=wc_cells hW.out
 obtain ⟨A,po,pc,-,c2,hC,hP,hml⟩:=wc_node hW.out hn
 obtain ⟨nc,hnc⟩:∃ nc,V.nc=nc:=⟨_,rfl⟩
 rw [hnc] at c2
 clear hnc
 have hnv:=hg.out.nd _ (List.getElem_mem hn)
 obtain ⟨y,hy⟩:∃ y,g.ns[n]=y:=⟨_,rfl⟩
 rw [hy] at hC hP hnv hml ⊢
 obtain ⟨d0,d1,d2,d3,d4,d5⟩:=hC.keep hW.out.base
 obtain ⟨X,hX⟩:∃ X,bb y.nm=X:=⟨_,rfl⟩
 obtain ⟨L,hL⟩:∃ X,bb y.lb=X:=⟨_,rfl⟩
 rw [hX] at d0
 rw [hL] at d1
 have HX:=Lh hX
 have HL:=Lh hL
 have HNV:=Lh hnv
 have HP:=Lh hP
 have hww:=hnv.w
 have hhh:=hnv.h
 have hlb:=hnv.lb
 have hpl:=hnv.len
 have hRl:=hW.out.lt
 have z0:(0:Int)≤(n:Int):=by omega
 have z1:(n:Int) < (g.ns.length:Int):=by omega
 have k1:=blk_new w #[.int .i64 0,.string ⟨#[]⟩,.slice none 0 0,.slice none 0 0,.slice none 0 0] 67
 have b1:=al1 w (.cells #[.int .i64 0,.string ⟨#[]⟩,.slice none 0 0,.slice none 0 0,.slice none 0 0] 67)
 have q1:(w.alloc (.cells #[.int .i64 0,.string ⟨#[]⟩,.slice none 0 0,.slice none 0 0,.slice none 0 0] 67)).heap.size=w.heap.size+1:=by simp
 have HK1:=Lh k1
 have HB1:=Lh b1
 have HQ1:=Lh q1
 have HC6:=Lh c6
 have HC2:=Lh c2
 have HD0:=Lh d0
 have HD1:=Lh d1
 have HD2:=Lh d2
 have HD3:=Lh d3
 have HD4:=Lh d4
 have HD5:=Lh d5
 clear k1 b1 q1 hy hX hL hnv hP hC c6 c2 d0 d1 d2 d3 d4 d5
 go_enter Tryz.func135,Tryz.ntmps135
 go_wp2_with fail
 generalize w.alloc (.cells #[.int .i64 0,.string ⟨#[]⟩,.slice none 0 0,.slice none 0 0,.slice none 0 0] 67)=w1 at HK1 HB1 HQ1 ⊢
 obtain ⟨rb,hrb⟩:∃ rb,w.heap.size=rb:=⟨_,rfl⟩
 have hq1:=HQ1.out
 have hk1:=HK1.out
 rw [hrb] at hk1 hq1
 simp only [hrb]
 have HRB:=Lh hrb
 clear hrb HK1
 have c6:=cell_later' HB1.out HC6.out
 have c2:=cell_later' HB1.out HC2.out
 have d0:=cell_later' HB1.out HD0.out
 have d1:=cell_later' HB1.out HD1.out
 have d2:=cell_later' HB1.out HD2.out
 have d3:=cell_later' HB1.out HD3.out
 have d4:=cell_later' HB1.out HD4.out
 have d5:=cell_later' HB1.out HD5.out
 obtain ⟨M,HM⟩:∃ M:Act→World→Prop,Hid (∀ a W,M a W ↔ A45 a R rb (rb+1)∧Below w.heap.size w W∧W.heap.size=rb+2∧blk W rb 67 #[.int .i64 0,.string ⟨#[]⟩,.slice none 0 0,.slice none 0 0,.slice none 0 0]∧blk W (rb+1) 59 #[.string X,.string L,.int .i64 y.w,.int .i64 y.h,.int .i64 y.cl,.slice po y.ps.length pc]):=⟨_,Lh fun _ _=>Iff.rfl⟩
 refine then_mid M ?_ ?_
 ·refine tstart (fun W:World=>W.cell? ⟨R,2,none⟩=some (.slice (some A) g.ns.length nc)∧W.cell? ⟨R,6,none⟩=some (.int .i64 (n:Int))∧W.cell? (A.add (n*6))=some (.string X)∧W.cell? ⟨(A.add (n*6)).block,(A.add (n*6)).off+1,none⟩=some (.string L)∧W.cell? ⟨(A.add (n*6)).block,(A.add (n*6)).off+2,none⟩=some (.int .i64 y.w)∧W.cell? ⟨(A.add (n*6)).block,(A.add (n*6)).off+3,none⟩=some (.int .i64 y.h)∧W.cell? ⟨(A.add (n*6)).block,(A.add (n*6)).off+4,none⟩=some (.int .i64 y.cl)∧W.cell? ⟨(A.add (n*6)).block,(A.add (n*6)).off+5,none⟩=some (.slice po y.ps.length pc)) 12 (by kernel_rfl) (⟨s_drew c2,s_drew c6,s_drew d0,s_drew d1,s_drew d2,s_drew d3,s_drew d4,s_drew d5⟩) (fun hHeld=>?_)
  refine ton 0 5 (.pointer (some ⟨R,0,none⟩)) ?_
  refine ton 1 6 (.pointer (some ⟨R,0,none⟩)) ?_
  refine ton 2 7 (.pointer (some ⟨R,0,none⟩)) ?_
  refine ton 3 8 (.pointer (some ⟨R,2,none⟩)) ?_
  refine ton 4 9 (.slice (some A) g.ns.length nc) ?_
  refine ton 5 10 (.pointer (some ⟨R,0,none⟩)) ?_
  refine ton 6 11 (.pointer (some ⟨R,0,none⟩)) ?_
  refine ton 7 12 (.pointer (some ⟨R,6,none⟩)) ?_
  refine ton 8 13 (.int .i64 (n:Int)) ?_
  refine ton 9 14 (.pointer (some (A.add (n*6)))) ?_
  refine ton 10 15 (.agg #[.string X,.string L,.int .i64 y.w,.int .i64 y.h,.int .i64 y.cl,.slice po y.ps.length pc]) ?_
  try simp only [sA,sB,sC]
  have hbd:=b_drew w1
  replace hHeld:((fun W:World=>W.cell? ⟨R,2,none⟩=some (.slice (some A) g.ns.length nc)∧W.cell? ⟨R,6,none⟩=some (.int .i64 (n:Int))∧W.cell? (A.add (n*6))=some (.string X)∧W.cell? ⟨(A.add (n*6)).block,(A.add (n*6)).off+1,none⟩=some (.string L)∧W.cell? ⟨(A.add (n*6)).block,(A.add (n*6)).off+2,none⟩=some (.int .i64 y.w)∧W.cell? ⟨(A.add (n*6)).block,(A.add (n*6)).off+3,none⟩=some (.int .i64 y.h)∧W.cell? ⟨(A.add (n*6)).block,(A.add (n*6)).off+4,none⟩=some (.int .i64 y.cl)∧W.cell? ⟨(A.add (n*6)).block,(A.add (n*6)).off+5,none⟩=some (.slice po y.ps.length pc))) w1.drew:=hHeld
  have hqd:w1.drew.heap.size=rb+1:=hq1
  generalize w1.drew=y0 at hHeld hbd hqd ⊢
  refine tgo (i:=11) (by kernel_rfl) rfl (fun K hK=>?_)
  go_simp
  refine hK.out _ _ (fun _=>(by obtain ⟨k0,k1,k2,k3,k4,k5,k6,k7⟩:=hHeld;exact ⟨s_alloc k0,s_alloc k1,s_alloc k2,s_alloc k3,s_alloc k4,s_alloc k5,s_alloc k6,s_alloc k7⟩)) (fun hHeld=>?_)
  replace hHeld:=hHeld (by decide)
  clear hK K
  try simp only [sA,sB,sC]
  have hs:=blk_new y0 #[.string ⟨#[]⟩,.string ⟨#[]⟩,.int .i64 0,.int .i64 0,.int .i64 0,.slice none 0 0] 59
  have hb':=al1 y0 (.cells #[.string ⟨#[]⟩,.string ⟨#[]⟩,.int .i64 0,.int .i64 0,.int .i64 0,.slice none 0 0] 59)
  have hq2:(y0.alloc (.cells #[.string ⟨#[]⟩,.string ⟨#[]⟩,.int .i64 0,.int .i64 0,.int .i64 0,.slice none 0 0] 59)).heap.size=rb+2:=by simp;omega
  rw [hqd] at hs
  generalize y0.alloc (.cells #[.string ⟨#[]⟩,.string ⟨#[]⟩,.int .i64 0,.int .i64 0,.int .i64 0,.slice none 0 0] 59)=y1 at hs hb' hHeld hq2 ⊢
  have hrb1:=blk_keep hb' (blk_keep hbd hk1)
  have hbb:=below_keep hb' (below_keep hbd HB1.out)
  have f0:y1.frozen? ⟨rb+1,0,none⟩=false:=blk_free hs
  have e0:y1.cell? ⟨rb+1,0,none⟩=some (.string ⟨#[]⟩):=by rw [blk_cell hs];rfl
  have f1:y1.frozen? ⟨rb+1,1,none⟩=false:=blk_free hs
  have e1:y1.cell? ⟨rb+1,1,none⟩=some (.string ⟨#[]⟩):=by rw [blk_cell hs];rfl
  have f2:y1.frozen? ⟨rb+1,2,none⟩=false:=blk_free hs
  have e2:y1.cell? ⟨rb+1,2,none⟩=some (.int .i64 0):=by rw [blk_cell hs];rfl
  have f3:y1.frozen? ⟨rb+1,3,none⟩=false:=blk_free hs
  have e3:y1.cell? ⟨rb+1,3,none⟩=some (.int .i64 0):=by rw [blk_cell hs];rfl
  have f4:y1.frozen? ⟨rb+1,4,none⟩=false:=blk_free hs
  have e4:y1.cell? ⟨rb+1,4,none⟩=some (.int .i64 0):=by rw [blk_cell hs];rfl
  have f5:y1.frozen? ⟨rb+1,5,none⟩=false:=blk_free hs
  have e5:y1.cell? ⟨rb+1,5,none⟩=some (.slice none 0 0):=by rw [blk_cell hs];rfl
  try simp only [hqd]
  refine tgo (i:=12) (by kernel_rfl) rfl (fun K hK=>?_)
  go_simp
  refine hK.out _ _ (fun h=>absurd rfl h) (fun hHeld=>?_)
  clear hK K hHeld
  try simp only [sA,sB,sC]
  refine tdone (by kernel_rfl) ?_ _
  exact ⟨rfl,(HM.out _ _).2 ⟨rfl,below_set6 hbb (by have:=HRB.out;omega) _ _ _ _ _ _,by simpa [World.setCell] using hq2,blk_far6 hrb1 (by omega) _ _ _ _ _ _,blk_set6 hs (.string X) (.string L) (.int .i64 y.w) (.int .i64 y.h) (.int .i64 y.cl) (.slice po y.ps.length pc)⟩⟩
 intro a2 w2 hm
 obtain ⟨ha,hb2,hz2,hr2,hn2⟩:=(HM.out _ _).1 hm
 obtain ⟨f,rfl⟩:=ha.use
 clear HM hm M ha c6 c2 d0 d1 d2 d3 d4 d5 hk1 HB1 hq1 HC6 HC2 HD0 HD1 HD2 HD3 HD4 HD5 HQ1
 obtain ⟨-,-,-,c6,-,fz6,-,-,-,-⟩:=wc_cells (hW.out.below hb2)
 have hwr:IntKind.i64.wrap ((n:Int)+1)=(n:Int)+1:=IntWalk.i64_in _ (by omega)
 have HB2:=Lh hb2
 have hwc3:=(hW.out.below hb2).setN
 have hpk3:Pk R w (w2.setCell ⟨R,6,none⟩ (.int .i64 ((n:Int)+1))):=(Pk.below hb2).trans (Pk.set R w2 6 _)
 have hne:rb≠R:=by have:=HRB.out;omega
 have hr3:=blk_far (o:=6) hr2 hne (.int .i64 ((n:Int)+1))
 have hn3:=blk_far (o:=6) hn2 (show rb+1≠R by have:=HRB.out;omega) (.int .i64 ((n:Int)+1))
 have hz3:(w2.setCell ⟨R,6,none⟩ (.int .i64 ((n:Int)+1))).heap.size=rb+2:=by simpa [World.setCell] using hz2
 have HWC3:=Lh hwc3
 have HPK3:=Lh hpk3
 have HR3:=Lh hr3
 have HN3:=Lh hn3
 have HZ3:=Lh hz3
 have n3:w2.cell? ⟨rb+1,3,none⟩=some (.int .i64 y.h):=by rw [blk_cell hn2];rfl
 have hne1:R≠rb+1:=by have:=HRB.out;omega
 have hne2:rb+1≠R:=Ne.symm hne1
 have hlt1:rb+1 < w2.heap.size:=by omega
 clear hwc3 hpk3 hr3 hn3 hz3 hb2 hr2 hn2 hne
 go_wp2_with fail
 have hlb0:=NB.new (B:=rb+2) (w2.setCell ⟨R,6,none⟩ (.int .i64 ((n:Int)+1))) 1
 have hbl:=al1 (w2.setCell ⟨R,6,none⟩ (.int .i64 ((n:Int)+1))) (.cells #[.int .i64 1,.slice none 0 0] 132)
 generalize w2.setCell ⟨R,6,none⟩ (.int .i64 ((n:Int)+1))=w3 at HWC3 HPK3 HR3 HN3 HZ3 hlb0 hbl ⊢
 rw [HZ3.out] at hlb0
 generalize w3.alloc (.cells #[.int .i64 1,.slice none 0 0] 132)=w4 at hlb0 hbl ⊢
 have hz3:=HZ3.out
 try simp only [hz3]
 try simp only [hz2]
 have HNB4:=Lh hlb0
 have hbl2:Below (rb+2) w3 w4:=by rw [← hz3];exact hbl
 have HB4:=Lh hbl2
 clear hlb0 hbl hbl2 c6 fz6 hz3 n3 hne1 hne2 hlt1
 refine (cnumb_of (rb+2) (rb+2) 1 [] ⟨#[104,101,105,103,104,116]⟩ wHeight y.h 1 10000 w4 HNB4 (Lh (tab_below htb.out ((HWC3.out.base).trans (HB4.out.mono (by have:=HZ3.out;have:=HWC3.out.lt;omega))))) (Lh rfl) (by decide) (Lh rfl) (Nat.le_refl _) (by decide) (by omega) (by omega)).mono ?_
 rintro e w5 ⟨rfl,hnb,hkp⟩
 have HNB5:=Lh hnb
 have HB5:=Lh (HB4.out.trans hkp.1)
 clear hnb hkp
 have hl5:(addT [] wHeight (fmtL (y.h*1)) (fmtL (10000*1))).length≤1:=by have:=addT_len [] wHeight (fmtL (y.h*1)) (fmtL (10000*1));simpa using this
 obtain ⟨l5,hl5'⟩:∃ l,(addT [] wHeight (fmtL (y.h*1)) (fmtL (10000*1)))=l:=⟨_,rfl⟩
 rw [hl5'] at hl5 HNB5
 have HL5:=Lh hl5'
 clear hl5'
 have hbk:Below w3.heap.size w3 w5:=by rw [HZ3.out];exact HB5.out
 have n1:w5.cell? ⟨rb+1,1,none⟩=some (.string L):=by rw [blk_cell (blk_keep hbk HN3.out)];rfl
 have n0:w5.cell? ⟨rb+1,0,none⟩=some (.string X):=by rw [blk_cell (blk_keep hbk HN3.out)];rfl
 clear hbk
 go_wp2_with fail
 refine (ctext_of (rb+2) (rb+2) 1 l5 ⟨#[108,97,98,101,108]⟩ L X wLabel y.lb y.nm w5 HNB5 (Lh rfl) HL HX (Nat.le_refl _) (by omega)).mono ?_
 rintro e w6 ⟨rfl,hnb,hkp⟩
 have HNB6:=Lh hnb
 have HB6:=Lh (HB5.out.trans hkp.1)
 clear hnb hkp n1 n0
 have hl6:(addT l5 wLabel y.lb y.nm).length≤2:=by have:=addT_len l5 wLabel y.lb y.nm;omega
 obtain ⟨l6,hl6'⟩:∃ l,(addT l5 wLabel y.lb y.nm)=l:=⟨_,rfl⟩
 rw [hl6'] at hl6 HNB6
 have HL6:=Lh hl6'
 clear hl6'
 have hbk:Below w3.heap.size w3 w6:=by rw [HZ3.out];exact HB6.out
 have n5:w6.cell? ⟨rb+1,5,none⟩=some (.slice po y.ps.length pc):=by rw [blk_cell (blk_keep hbk HN3.out)];rfl
 clear hbk
 go_wp2_with fail
 obtain ⟨F,hF⟩:∃ F,bb (portsT y.ps)=F:=⟨_,rfl⟩
 have HF:=Lh hF
 clear hF
 refine (cports_of (.slice po y.ps.length pc) y.ps F w6 (Lh (HP.out.keep ((HWC3.out.base).trans (HB6.out.mono (by have:=HZ3.out;have:=HWC3.out.lt;omega))))) (Lh HNV.out.pv) hpl HF).mono ?_
 rintro e w7 ⟨rfl,hb7⟩
 have HNB7:=Lh (HNB6.out.below hb7)
 have HB7:=Lh (HB6.out.trans (hb7.mono (by have:=HB6.out.size;have:=HZ3.out;omega)))
 clear hb7 n5
 go_wp2_with fail
 refine (ctext_of (rb+2) (rb+2) 1 l6 ⟨#[112,111,114,116,115]⟩ F ⟨#[]⟩ wPorts (portsT y.ps) [] w7 HNB7 (Lh rfl) HF (Lh rfl) (Nat.le_refl _) (by omega)).mono ?_
 rintro e w8 ⟨rfl,hnb,hkp⟩
 have HNB8:=Lh hnb
 have HB8:=Lh (HB7.out.trans hkp.1)
 clear hnb hkp
 have hl8:(addT l6 wPorts (portsT y.ps) []).length≤3:=by have:=addT_len l6 wPorts (portsT y.ps) [];omega
 obtain ⟨l8,hl8'⟩:∃ l,(addT l6 wPorts (portsT y.ps) [])=l:=⟨_,rfl⟩
 rw [hl8'] at hl8 HNB8
 have HL8:=Lh hl8'
 clear hl8'
 have hbk:Below w3.heap.size w3 w8:=by rw [HZ3.out];exact HB8.out
 have n2:w8.cell? ⟨rb+1,2,none⟩=some (.int .i64 y.w):=by rw [blk_cell (blk_keep hbk HN3.out)];rfl
 clear hbk
 go_wp2_with fail
 refine (cnumb_of (rb+2) (rb+2) 1 l8 ⟨#[119,105,100,116,104]⟩ wWidth y.w 1 20000 w8 HNB8 (Lh (tab_below htb.out ((HWC3.out.base).trans (HB8.out.mono (by have:=HZ3.out;have:=HWC3.out.lt;omega))))) (Lh rfl) (by decide) (Lh rfl) (Nat.le_refl _) (by omega) (by omega) (by omega)).mono ?_
 rintro e w9 ⟨rfl,hnb,hkp⟩
 have HNB9:=Lh hnb
 have HB9:=Lh (HB8.out.trans hkp.1)
 clear hnb hkp n2
 have hl9:(addT l8 wWidth (fmtL (y.w*1)) (fmtL (20000*1))).length≤4:=by have:=addT_len l8 wWidth (fmtL (y.w*1)) (fmtL (20000*1));omega
 have hA:(addT l8 wWidth (fmtL (y.w*1)) (fmtL (20000*1)))=nodeA y:=by rw [← HL8.out,← HL6.out,← HL5.out];exact nodeC_eq HNV.out
 obtain ⟨l9,hl9'⟩:∃ l,(addT l8 wWidth (fmtL (y.w*1)) (fmtL (20000*1)))=l:=⟨_,rfl⟩
 rw [hl9'] at hl9 HNB9 hA
 have HA:=Lh hA
 clear hl9' hA
 have hb9:Below w3.heap.size w3 w9:=by rw [HZ3.out];exact HB9.out
 obtain ⟨ao,ac,hlb9,hrow9⟩:=id HNB9.out
 have hn9:=blk_keep hb9 HN3.out
 have hr9:=blk_keep hb9 HR3.out
 obtain ⟨_,_,e9,hac1,hac2⟩:=own_form hrow9
 cases e9
 have n0:w9.cell? ⟨rb+1,0,none⟩=some (.string X):=by rw [blk_cell hn9];rfl
 have m1:w9.cell? ⟨rb+2,1,none⟩=some (.slice ao l9.length ac):=by rw [blk_cell hlb9];rfl
 have HR9:=Lh hr9
 have HROW9:=Lh hrow9
 have HLB9:=Lh hlb9
 have HBW:=Lh hb9
 have f0:w9.frozen? ⟨rb,0,none⟩=false:=blk_free hr9
 have e0:w9.cell? ⟨rb,0,none⟩=some (.int .i64 0):=by rw [blk_cell hr9];rfl
 have f1:w9.frozen? ⟨rb,1,none⟩=false:=blk_free hr9
 have e1:w9.cell? ⟨rb,1,none⟩=some (.string ⟨#[]⟩):=by rw [blk_cell hr9];rfl
 have f2:w9.frozen? ⟨rb,2,none⟩=false:=blk_free hr9
 have e2:w9.cell? ⟨rb,2,none⟩=some (.slice none 0 0):=by rw [blk_cell hr9];rfl
 have f3:w9.frozen? ⟨rb,3,none⟩=false:=blk_free hr9
 have e3:w9.cell? ⟨rb,3,none⟩=some (.slice none 0 0):=by rw [blk_cell hr9];rfl
 have f4:w9.frozen? ⟨rb,4,none⟩=false:=blk_free hr9
 have e4:w9.cell? ⟨rb,4,none⟩=some (.slice none 0 0):=by rw [blk_cell hr9];rfl
 clear hb9 hlb9 hrow9 hn9 hr9
 go_wp2_with fail
 refine tstart (fun W:World=>W.cell? ⟨rb+1,0,none⟩=some (.string X)∧W.cell? ⟨rb+2,1,none⟩=some (.slice ao l9.length ac)) 6 (by kernel_rfl) (⟨s_drew n0,s_drew m1⟩) (fun hHeld=>?_)
 refine ton 0 39 (.pointer (some ⟨rb+1,0,none⟩)) ?_
 refine ton 1 40 (.string X) ?_
 refine ton 2 41 (.pointer (some ⟨rb+2,1,none⟩)) ?_
 refine ton 3 42 (.slice ao l9.length ac) ?_
 try simp only [sA,sB,sC]
 refine tgo (i:=4) (by kernel_rfl) rfl (fun K hK=>?_)
 go_simp
 refine (ccutA_of ao l9.length ac _ hac1 hac2).mono ?_
 rintro e w10 ⟨rfl,rfl⟩
 refine hK.out _ _ (fun _=>(by (try dsimp only at hHeld);repeat (first | assumption | (with_reducible refine s_drew ?_) | (with_reducible refine s_alloc ?_) | (with_reducible refine s_set (by simp only;omega) ?_)))) (fun hHeld=>?_)
 replace hHeld:=hHeld (by decide)
 clear hK K
 try simp only [sA,sB,sC]
 refine ton 5 44 (.agg #[.int .i64 1,.string X,.slice none 0 0,.slice ao l9.length l9.length,.slice none 0 0]) ?_
 try simp only [sA,sB,sC]
 have hbx:=blk_set5 HR9.out (.int .i64 1) (.string X) (.slice none 0 0) (.slice ao l9.length l9.length) (.slice none 0 0)
 have r0:=blk_cell (o:=0) hbx
 have r1:=blk_cell (o:=1) hbx
 have r2:=blk_cell (o:=2) hbx
 have r3:=blk_cell (o:=3) hbx
 have r4:=blk_cell (o:=4) hbx
 refine tgo (i:=6) (by kernel_rfl) rfl (fun K hK=>?_)
 go_simp
 refine hK.out _ _ (fun h=>absurd rfl h) (fun hHeld=>?_)
 clear hK K hHeld
 try simp only [sA,sB,sC]
 refine tdone (by kernel_rfl) ?_ _
 go_wp2
 have hne:rb≠R:=by have:=HRB.out;omega
 have hbf:=(Below.refl rb w9).drew
 have hpkF:Pk R w ((((((w9.setCell ⟨rb,0,none⟩ (.int .i64 1)).setCell ⟨rb,1,none⟩ (.string X)).setCell ⟨rb,2,none⟩ (.slice none 0 0)).setCell ⟨rb,3,none⟩ (.slice ao l9.length l9.length)).setCell ⟨rb,4,none⟩ (.slice none 0 0)).drew):=(HPK3.out.trans (Pk.below HBW.out)).low ((below_set5 (Below.refl w.heap.size w9) (by have:=HRB.out;omega) (.int .i64 1) (.string X) (.slice none 0 0) (.slice ao l9.length l9.length) (.slice none 0 0)).drew)
 have s0:=s_drew r0
 have s1:=s_drew r1
 have s2:=s_drew r2
 have s3:=s_drew r3
 have s4:=s_drew r4
 have t0:=blk_cell (o:=0) (blk_set (o:=0) HR9.out (.int .i64 1))
 have t1:=blk_cell (o:=1) (blk_set (o:=1) (blk_set (o:=0) HR9.out (.int .i64 1)) (.string X))
 have t2:=blk_cell (o:=2) (blk_set (o:=2) (blk_set (o:=1) (blk_set (o:=0) HR9.out (.int .i64 1)) (.string X)) (.slice none 0 0))
 have t3:=blk_cell (o:=3) (blk_set (o:=3) (blk_set (o:=2) (blk_set (o:=1) (blk_set (o:=0) HR9.out (.int .i64 1)) (.string X)) (.slice none 0 0)) (.slice ao l9.length l9.length))
 have t4:=blk_cell (o:=4) (blk_set (o:=4) (blk_set (o:=3) (blk_set (o:=2) (blk_set (o:=1) (blk_set (o:=0) HR9.out (.int .i64 1)) (.string X)) (.slice none 0 0)) (.slice ao l9.length l9.length)) (.slice none 0 0))
 have hwcF:=((HWC3.out.below HBW.out).far5 HR9.out (by decide) (by decide) (Ne.symm hne) (by have:=HRB.out;have:=hRl;omega) (.int .i64 1) (.string X) (.slice none 0 0) (.slice ao l9.length l9.length) (.slice none 0 0)).below (b_drew _)
 have hrow2:=row_set5 HROW9.out HR9.out (by decide) (.int .i64 1) (.string X) (.slice none 0 0) (.slice ao l9.length l9.length) (.slice none 0 0)
 have hbn:∀ r∈l9,r.1.length≤maxLen∧r.2.length≤maxLen:=by rw [HA.out];exact nodeA_bnd HNV.out
 have hsp:=own_selfP hrow2 (show w.heap.size≤rb+2 by have:=HRB.out;omega) hbn
 have HFN:=Lh hwcF
 have HPF:=Lh hpkF
 have HSP:=Lh hsp
 clear hwcF hpkF hsp hrow2 hbn hbx hbf
 refine bodyPost_ret (v:=.agg #[.int .i64 1,.string X,.slice none 0 0,.slice ao l9.length l9.length,.slice none 0 0]) (by first | (simp [results,Tryz.results135,go_sem,s0,s1,s2,s3,s4];done) | (simp [results,Tryz.results135,go_sem,t0,t1,t2,t3,t4];done) | (simp [results,Tryz.results135,go_sem])) rfl ?_
 refine ⟨_,rfl,⟨none,0,ao,l9.length,none,0,by rw [← HX.out];show _=Value.agg #[_,_,_,.slice ao (nodeA y).length _,_];rw [← HA.out];rfl,fun U hU=>⟨hml,Prs.nil U,?_,Sts.nil U⟩⟩,HFN.out,HPF.out⟩
 show Prs U (.slice ao (nodeA y).length l9.length) (nodeA y)
 rw [← HA.out]
 exact prs_cut (HSP.out U hU)
end Go.Proofs.YtgmidodmmlmmeaaGreatDoor.xpt
