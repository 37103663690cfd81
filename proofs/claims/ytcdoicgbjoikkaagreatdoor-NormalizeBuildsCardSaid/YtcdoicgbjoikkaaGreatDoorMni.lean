/-
  The landed builder while edges are added (layer 12): what stays, one edge more. No condition.
  What addEdges of the landed builder does (layer 12): the edges of all chains, at most one too many. Conditions: a builder in memory of at most 100000 finished nodes and chains, with short names.
  Numbers and texts in the graph that the landed code of layer 12 makes are small. No function of the program is named here; no condition.
  The finished builder's graph in memory, as a graph by value (layer 12). No condition.
  What Build of the landed code of layer 12 returns: the plain graph, or the plain error. Conditions: a tree in memory whose statements have at most 40 refs each, at most 2000000000000 statements; the library's variable MaxLen holds a number.
-/
import Derived.Test.YtcdoicgbjoikkaaGreatDoorMnh
import Derived.Test.YtcdoicgbjoikkaaGreatDoorMth
import Derived.Test.YtcdoicgbjoikkaaGreatDoorMgf
namespace Go.Proofs.YtcdoicgbjoikkaaGreatDoor.nor
open Go.RowKit lex tre att
def coldE:Obj→Prop
 | .cells _ t _=>t≠60∧t≠67
 | _=>True
structure TFe (w w':World):Prop where
 os:w'.os=w.os
 tape:w'.tape=w.tape
 output:w'.output=w.output
 size:w.heap.size≤w'.heap.size
 block:∀ (k:Nat) (o:Obj),w.heap[k]?=some o→coldE o→w'.heap[k]?=some o
theorem TFe.refl (w:World):TFe w w:=⟨rfl,rfl,rfl,Nat.le_refl _,fun _ _ h _=>h⟩
theorem TFe.trans {a b c:World}(h:TFe a b)(k:TFe b c):TFe a c :=
 ⟨k.os.trans h.os,k.tape.trans h.tape,k.output.trans h.output,Nat.le_trans h.size k.size,fun i o hi ho=>k.block i o (h.block i o hi ho) ho⟩
theorem TFe.below {w w':World}(h:Below w.heap.size w w'):TFe w w':=⟨h.os,h.tape,h.output,h.size,fun k o hk _=>by rw [h.block k (heap_lt hk)];exact hk⟩
theorem TFe.blk {w w':World}(h:TFe w w'){g:Nat}{t:TypeId}{arr:Array Value}(hb:blk w g t arr)(h1:t≠60)(h2:t≠67):blk w' g t arr:=h.block g _ hb ⟨h1,h2⟩
theorem TFe.prs {w w':World}(h:TFe w w'){v:Value}{l:List Pr}(hp:PrsT w v l):PrsT w' v l:=prsT_far hp fun k arr fr hk=>by rw [hk];exact h.block k _ hk ⟨by decide,by decide⟩
theorem TFe.emap {w w':World}(h:TFe w w'){b n:Nat}{F:EnM}(hm:EMap w b n F):EMap w' b n F:=by
 obtain ⟨D,hm⟩:=hm
 obtain ⟨es,c,hk,h2⟩:=hm.1
 exact ⟨D,⟨es,c,h.block b _ hk trivial,h2⟩,hm.2⟩
theorem info_ed:(Tryz.prog.info? 60).map (fun i=>(i.zero,i.size,i.bytes))=some (some (.agg #[.int .i64 0,.int .i64 0,.int .i64 0,.int .i64 0,.string ⟨#[]⟩,.int .i64 0,.int .i64 0]),7,64):=by kernel_rfl
section
variable {w0 W Wd w1:World} {b:Nat} {nm:Nm} {d:Bool} {s:Bs} {L:List (gra.Nd × Value)} {ev:Value} {es:List gra.Ed} {x:BdV}
theorem BdF.growD {ev':Value}{e:gra.Ed}(h:BdF w0 W b nm d s L ev es x)(hb:Below W.heap.size W Wd)(hg:Wd.grownBy w1 ev.ownBlock)(ho:Drow w1 w0.heap.size ev' (es ++ [e])) :
    (bdb w1 b nm d x.nv ev x.cv x.av x.mb x.kb x.hv∧TFe W w1)∧BdF w0 (w1.setCell ⟨b,3,none⟩ ev') b nm d s L ev' (es ++ [e]) x∧TFe W (w1.setCell ⟨b,3,none⟩ ev'):=by
 have k:=h.below hb
 have hbx:bdb w1 b nm d x.nv ev x.cv x.av x.mb x.kb x.hv:=blk_grown k.box k.er hg (by decide)
 have t1:TFe Wd w1:=by
  refine ⟨hg.os,hg.tape,hg.output,hg.size,fun q o hq hc=>?_⟩
  by_cases e:some q=ev.ownBlock
  ·exfalso
   rcases k.er.2 with ⟨rfl,_⟩ | ⟨k',cap,cur,rfl,_,h2,_⟩
   ·cases e
   ·obtain rfl:q=k':=Option.some.inj e
    rw [h2] at hq
    cases hq
    exact hc.1 rfl
  ·rw [hg.block q (heap_lt hq) e];exact hq
 have t2:TFe w1 (w1.setCell ⟨b,3,none⟩ ev'):=by
  refine ⟨rfl,rfl,rfl,by simp [World.setCell],fun q o hq hc=>?_⟩
  by_cases e:q=b
  ·exfalso
   subst e
   unfold bdb att.blk at hbx
   rw [hbx] at hq
   cases hq
   exact hc.2 rfl
  ·rw [Below.heap_setCell _ _ _ _ e];exact hq
 have b1:Below w0.heap.size Wd w1:=below_row k.er hg k.base
 have hbox3:=hbx.set3 ev'
 refine ⟨⟨hbx,(TFe.below hb).trans t1⟩,⟨h.low,(h.old.trans ((hb.mono h.base).trans b1)).setCell h.low _,hbox3,row_set (row_grown k.fr k.er hg (by decide)) hbx (by decide) _,row_set ho hbx (by decide) _,row_set (row_grown k.cr k.er hg (by decide)) hbx (by decide) _,row_set (row_grown k.ar k.er hg (by decide)) hbx (by decide) _,row_set (row_grown k.hr k.er hg (by decide)) hbx (by decide) _,h.al,fun i q1 q2=>(t1.trans t2).prs (k.ap i q1 q2),h.hl,fun i q1 q2=>⟨(h.hp i q1 q2).1,(t1.trans t2).prs (k.hp i q1 q2).2⟩,fun y hy=>posT_far (k.pv y hy) fun q arr fr hq=>by rw [hq];exact (t1.trans t2).block q _ hq ⟨by decide,by decide⟩⟩,((TFe.below hb).trans t1).trans t2⟩
theorem BdF.chain (h:BdF w0 W b nm d s L ev es x){k:Nat}(hk:k < x.hvs.length):∃ g cap,x.hv=.slice (some ⟨g,0,none⟩) x.hvs.length cap∧W.cell? ⟨g,k*2,none⟩=some x.hvs[k].1∧W.cell? ⟨g,k*2+1,none⟩=some x.hvs[k].2:=by
 obtain ⟨g,cap,arr,e,_,hg,_,_,h3⟩:=own_blk h.hr (by omega)
 refine ⟨g,cap,e,?_,?_⟩
 ·have e0:=flat_get chC 2 (fun _=>rfl) x.hvs k 0 hk (by decide)
  rw [blk_cell hg,← Nat.add_zero (k*2),h3 _ (by omega)];exact e0
 ·have e1:=flat_get chC 2 (fun _=>rfl) x.hvs k 1 hk (by decide)
  rw [blk_cell hg,h3 _ (by omega)];exact e1
end
theorem addC_drop {F:EnM}{ch:List (List Pr × List Pr)}{k:Nat}(h:k < ch.length)(es:List gra.Ed):addC F (ch.drop k) es=if (edcC F ch[k] es).2=false then ((edcC F ch[k] es).1,false) else addC F (ch.drop (k+1)) (edcC F ch[k] es).1:=by
 rw [List.drop_eq_getElem_cons h,addC]
theorem edgC_drop {F:EnM}{lb:Nm}{wt ln:Int}{l:List Pr}{i:Nat}(h:i+1 < l.length)(es:List gra.Ed):edgC F lb wt ln (l.drop i) es=if (F l[i]).2=false∨(F l[i+1]).2=false then (es,false) else edgC F lb wt ln (l.drop (i+1)) (if es.length≤256 then es ++ [⟨(F l[i]).1.1,(F l[i+1]).1.1,(F l[i]).1.2,(F l[i+1]).1.2,lb,wt,ln⟩] else es):=by
 rw [List.drop_eq_getElem_cons (show i < l.length by omega),List.drop_eq_getElem_cons h,edgC]
theorem edgC_last {F:EnM}{lb:Nm}{wt ln:Int}{l:List Pr}{i:Nat}(h:i+1=l.length)(es:List gra.Ed):edgC F lb wt ln (l.drop i) es=(es,true):=by
 rw [List.drop_eq_getElem_cons (show i < l.length by omega),List.drop_eq_nil_of_le (by omega)]
 rfl
theorem edcC_len {F:EnM}{lb:Nm}{wt ln:Int}:∀ (l:List Pr) (es:List gra.Ed),es.length≤257→(edgC F lb wt ln l es).1.length≤257
 | [],es,h=>h
 | [_],es,h=>h
 | r :: q :: t,es,h=>by
  unfold edgC
  split
  ·exact h
  ·refine edcC_len (q :: t) _ ?_
   split
   ·rw [List.length_append,List.length_singleton];omega
   ·exact h
theorem sm_16 {r:Pr}(h:r.1.length≤16∧r.2.length≤16):Sm r:=⟨by unfold maxLen;omega,by unfold maxLen;omega⟩
set_option maxRecDepth 100000 in
set_option maxHeartbeats 2000000 in
theorem addedges_of (w0:World)(b:Nat)(nm:Nm)(d:Bool)(s:Bs)(L:List (gra.Nd × Value))(x:BdV)(N:List gra.Nd)(F:EnM)(RS:List gra.Ed × Bool)(w:World)(hS:Hid (BdF w0 w b nm d s L (.slice none 0 0) [] x))(hN:Hid (L.map (·.1)=N))(hsh:Hid (ShN N))(hl:L.length≤100000)(hcl:s.ch.length≤100000)(hF:Hid (endN N 0 em0=F))(hnm:Hid (NmS s))(hga:Hid (GaS s))(hR:Hid (addC F s.ch []=RS)) :
    Calls Tryz.prog 26 #[.pointer (some ⟨b,0,none⟩)] w fun e w'=>e=.returned (.bool RS.2)∧Below w0.heap.size w0 w'∧(RS.2=true→∃ ev,BdF w0 w' b nm d s L ev RS.1 x):=by
 obtain ⟨nv,cv,av,hv,mb,kb',avs,hvs⟩:=x
 obtain ⟨ho,hc,hhv,-,-⟩:=own_form hS.out.hr
 simp only at hhv
 subst hhv
 have hhl:hvs.length=s.ch.length:=hS.out.hl
 have HHL:=Lh hhl
 have hvl:hvs.length≤100000:=by omega
 have HR0:Hid (addC F (s.ch.drop 0) []=RS):=hR
 clear hhl hcl
 go_enter Tryz.func26,Tryz.ntmps26
 go_wp2_with fail
 refine (ends_of w0 b nm d s L _ [] _ N F w hS hN hsh hl hF).mono ?_
 rintro e w1 ⟨em,mn,rfl,hem,hb1⟩
 have HS1:=Lh (hS.out.below hb1)
 have HE1:=Lh hem
 have c8:w1.cell? ⟨b,8,none⟩=some (.slice ho hvs.length hc):=HS1.out.box.read.2.2.2.2.2
 clear hem hb1 hS hR
 go_wp2_with fail
 clear c8
 go_loopw [23] (fun iv wr=>∃ (k:Nat) (es:List gra.Ed) (ev:Value),iv=.int .i64 k∧k≤hvs.length∧BdF w0 wr b nm d s L ev es ⟨nv,cv,av,.slice ho hvs.length hc,mb,kb',avs,hvs⟩∧EMap wr em mn F∧addC F (s.ch.drop k) es=RS∧es.length≤257) (fun iv _=>hvs.length - (intOf iv).toNat)
 case atStart=>exact ⟨0,[],_,rfl,Nat.zero_le _,HS1.out,HE1.out,HR0.out,Nat.zero_le _⟩
 case round =>
  obtain ⟨k,es,ev,rfl,hk,hsi,hem,hrs,hel⟩:=hrel
  rename World=>wr
  have HSI:=Lh hsi
  have HEM:=Lh hem
  have HRS:=Lh hrs
  clear hsi hem hrs HS1 HE1 HR0
  by_cases hlt:k < hvs.length
  case neg =>
   have hke:k=s.ch.length:=by have:=HHL.out;omega
   have HE:Hid (RS=(es,true)):=Lh (by have h:=HRS.out;rw [hke,List.drop_length,addC] at h;exact h.symm)
   obtain rfl:=HE.out
   clear hke
   go_wp2
   go_ret
   exact ⟨rfl,HSI.out.old,ev,HSI.out⟩
  have hkc:k < s.ch.length:=by rw [← HHL.out];exact hlt
  obtain ⟨g,gc,hhv,h0,h1⟩:=HSI.out.chain hlt
  simp only at hhv
  cases hhv
  obtain ⟨hpr,hpa⟩:=HSI.out.hp k hlt hkc
  have hdr:=addC_drop (F:=F) hkc es
  rw [HRS.out] at hdr
  obtain ⟨hr1,hrn⟩:=hnm.out.2 _ (List.getElem_mem hkc)
  have hgk:=hga.out.2 _ (List.getElem_mem hkc)
  obtain ⟨u,hu⟩:∃ u,hvs[k]=u:=⟨_,rfl⟩
  obtain ⟨c,hcq⟩:∃ c,s.ch[k]=c:=⟨_,rfl⟩
  simp only at h0 h1 hpr hpa
  rw [hu] at h0 h1 hpr hpa
  rw [hcq] at hpr hpa hdr hr1 hrn hgk
  obtain ⟨rv,av'⟩:=u
  obtain ⟨rs,ats⟩:=c
  simp only at h0 h1 hpr hpa hr1 hrn hgk
  obtain ⟨ro,rc,rfl,hrc,hrm,hrA⟩:=id hpr
  obtain ⟨A,rfl,-⟩:=hrA (by omega)
  obtain ⟨ao,ac,rfl,_,_,_⟩:=id hpa.prs
  unfold maxLen at hrm
  have hrlm:rs.length≤9223372036854775807:=by omega
  have hall:ats.length≤1000:=Nat.le_trans hgk.len (by decide)
  obtain ⟨lb,hlb⟩:∃ q,getL ats wLabel=q:=⟨_,rfl⟩
  obtain ⟨lb,lbb⟩:=lb
  obtain ⟨wt,hwt⟩:∃ q,numL 2 ats wWeight=q:=⟨_,rfl⟩
  obtain ⟨ln,hln⟩:∃ q,numL 2 ats wLen=q:=⟨_,rfl⟩
  have HLB:Hid (getL ats (⟨#[108,97,98,101,108]⟩:ByteArray).data.toList=(lb,lbb)):=Lh hlb
  have HWT:Hid (numL 2 ats (⟨#[119,101,105,103,104,116]⟩:ByteArray).data.toList=wt):=Lh hwt
  have HLN:Hid (numL 2 ats (⟨#[108,101,110]⟩:ByteArray).data.toList=ln):=Lh hln
  have hed:edcC F (rs,ats) es=edgC F lb wt ln rs es:=by unfold edcC;rw [hlb,hwt,hln]
  rw [hed] at hdr
  obtain ⟨RC,hRC⟩:∃ RC,edgC F lb wt ln rs es=RC:=⟨_,rfl⟩
  rw [hRC] at hdr
  have hRL:RC.1.length≤257:=by rw [← hRC];exact edcC_len rs es hel
  have HRC:Hid (edgC F lb wt ln (rs.drop 0) es=RC):=Lh hRC
  have HDR:=Lh hdr
  have HPR:=Lh hpr
  have HRN:=Lh hrn
  have hal:=al1 wr (.cells #[.slice (some A) rs.length rc,.slice ao ats.length ac] 115)
  have HS2:=Lh (HSI.out.below hal)
  have HE2:=Lh (HEM.out.keep hal)
  have HPA2:=Lh (hpa.keep hal)
  have HT2:=Lh (blk_new wr #[.slice (some A) rs.length rc,.slice ao ats.length ac] 115)
  have i0:(0:Int)≤(k:Int):=by omega
  have i1:(k:Int) < (hvs.length:Int):=by omega
  clear hpr hpa hdr hrn hgk hu hcq hrA hlb hwt hln hed hRC hal hkc hrm HSI HEM HRS
  go_wp2_with fail
  obtain ⟨G,hG⟩:∃ G,wr.heap.size=G:=⟨_,rfl⟩
  rw [hG] at HT2
  simp only [hG]
  generalize wr.alloc (.cells #[.slice (some A) rs.length rc,.slice ao ats.length ac] 115)=w2 at *
  clear h0 h1 hG
  refine (get_of _ ats ⟨#[108,97,98,101,108]⟩ lb lbb w2 (Lh HPA2.out.prs) hall HLB).mono ?_
  rintro e w3 ⟨rfl,hb3⟩
  have HS3:=Lh (HS2.out.below hb3)
  have HE3:=Lh (HE2.out.keep hb3)
  have HPA3:=Lh (HPA2.out.keep hb3)
  have HT3:=Lh (blk_below HT2.out hb3)
  have d1:w3.cell? ⟨G,1,none⟩=some (.slice ao ats.length ac):=by rw [blk_cell HT3.out];rfl
  clear hb3 HS2 HE2 HPA2 HT2
  go_wp2_with fail
  clear d1
  refine (num10_of 2 _ ats ⟨#[119,101,105,103,104,116]⟩ wt w3 (Lh HPA3.out.prs) hall (by decide) HWT).mono ?_
  rintro e w4 ⟨rfl,hb4⟩
  have HS4:=Lh (HS3.out.below hb4)
  have HE4:=Lh (HE3.out.keep hb4)
  have HPA4:=Lh (HPA3.out.keep hb4)
  have HT4:=Lh (blk_below HT3.out hb4)
  have d1:w4.cell? ⟨G,1,none⟩=some (.slice ao ats.length ac):=by rw [blk_cell HT4.out];rfl
  clear hb4 HS3 HE3 HPA3 HT3
  go_wp2_with fail
  clear d1
  refine (num10_of 2 _ ats ⟨#[108,101,110]⟩ ln w4 (Lh HPA4.out.prs) hall (by decide) HLN).mono ?_
  rintro e w5 ⟨rfl,hb5⟩
  have HS5:=Lh (HS4.out.below hb5)
  have HE5:=Lh (HE4.out.keep hb5)
  have HT5:=Lh (blk_below HT4.out hb5)
  have d0:w5.cell? ⟨G,0,none⟩=some (.slice (some A) rs.length rc):=by rw [blk_cell HT5.out];rfl
  clear hb5 HS4 HE4 HPA4 HT4
  have hr1':(1:Int)≤(rs.length:Int):=by omega
  have hr2':(1:Int) < (rc:Int):=by omega
  have hr3:1 < rc:=by omega
  have hr4:0 < rs.length - 1:=by omega
  have hr5:0 < rc - 1:=by omega
  go_wp2_with fail
  clear d0
  have hlm1:rs.length - 1≤9223372036854775807:=by omega
  go_loopw [43] (fun iv wi=>∃ (i:Nat) (es':List gra.Ed) (ev':Value),iv=.int .i64 i∧i≤rs.length - 1∧BdF w0 wi b nm d s L ev' es' ⟨nv,cv,av,.slice (some ⟨g,0,none⟩) hvs.length hc,mb,kb',avs,hvs⟩∧EMap wi em mn F∧edgC F lb wt ln (rs.drop i) es'=RC∧es'.length≤257∧blk wi G 115 #[.slice (some A) rs.length rc,.slice ao ats.length ac]) (fun iv _=>(rs.length - 1) - (intOf iv).toNat)
  case atStart=>exact ⟨0,es,ev,rfl,Nat.zero_le _,HS5.out,HE5.out,HRC.out,hel,HT5.out⟩
  case round =>
   obtain ⟨i,es',ev',rfl,hi,hsi,hem,hrc',hel',hti⟩:=hrel
   rename World=>wi
   have HSI:=Lh hsi
   have HEM:=Lh hem
   have HRC':=Lh hrc'
   have HTI:=Lh hti
   have hbl:=hsi.lt
   have hgl:=heap_lt hti
   clear hsi hem hrc' hti HS5 HE5 HRC HT5
   by_cases hlt2:i < rs.length - 1
   case neg =>
    have hie:i+1=rs.length:=by omega
    have hiq:i=rs.length - 1:=by omega
    have HRE:Hid (RC=(es',true)):=Lh (by rw [← HRC'.out];exact edgC_last hie es')
    have HN:Hid (addC F (s.ch.drop (k+1)) es'=RS):=Lh (by have h:=HDR.out;rw [HRE.out] at h;rw [if_neg (by simp)] at h;exact h.symm)
    have dlt:decide ((i:Int) < ((rs.length - 1:Nat):Int))=false:=decide_eq_false (by omega)
    clear hie
    subst hiq
    go_wp2
    go_roundw
    case rel=>exact ⟨k+1,es',ev',by go_num,by omega,HSI.out,HEM.out,HN.out,hel'⟩
    case measure=>simp [intOf];omega
   have hi1:i < rs.length:=by omega
   have hi2:i+1 < rs.length:=by omega
   have hst:=edgC_drop (F:=F) (lb:=lb) (wt:=wt) (ln:=ln) hi2 es'
   rw [HRC'.out] at hst
   obtain ⟨A',eA,c0,c1,-,-⟩:=(HPR.out.keep HSI.out.old).get hi1
   cases eA
   obtain ⟨A',eA,e0,e1,-,-⟩:=(HPR.out.keep HSI.out.old).get hi2
   cases eA
   have hn1:=HRN.out _ (List.getElem_mem hi1)
   have hn2:=HRN.out _ (List.getElem_mem hi2)
   obtain ⟨r1,hr1q⟩:∃ r1,rs[i]=r1:=⟨_,rfl⟩
   obtain ⟨r2,hr2q⟩:∃ r2,rs[i+1]=r2:=⟨_,rfl⟩
   rw [hr1q] at c0 c1 hn1 hst
   rw [hr2q] at e0 e1 hn2 hst
   have hAa:A.add ((i+1)*2)=⟨A.block,A.off+2+i*2,none⟩:=by rw [add_one_of A _ (by omega)];congr 1;omega
   rw [hAa] at e0 e1
   simp only at e1
   obtain ⟨f1,hf1⟩:∃ f,F r1=f:=⟨_,rfl⟩
   obtain ⟨⟨x1,y1⟩,R1⟩:=f1
   obtain ⟨f2,hf2⟩:∃ f,F r2=f:=⟨_,rfl⟩
   obtain ⟨⟨x2,y2⟩,R2⟩:=f2
   rw [hf1,hf2] at hst
   simp only at hst
   have ba:=al1 wi (.cells #[.string (bb r2.1),.string (bb r2.2)] 58)
   have bb2:=al2 wi (.cells #[.string (bb r2.1),.string (bb r2.2)] 58) (.cells #[.int .i64 x1,.int .i64 y1] 117)
   have bc3:=al3 wi (.cells #[.string (bb r2.1),.string (bb r2.2)] 58) (.cells #[.int .i64 x1,.int .i64 y1] 117) (.cells #[.int .i64 x2,.int .i64 y2] 117)
   have lk1:=(HEM.out.keep ba).look r1 (sm_16 hn1) hf1
   have lk2:=(HEM.out.keep bb2).look r2 (sm_16 hn2) hf2
   have t0:(wi.alloc (.cells #[.string (bb r2.1),.string (bb r2.2)] 58)).cell? ⟨G,0,none⟩=some (.slice (some A) rs.length rc):=by rw [blk_cell (blk_below HTI.out ba)];rfl
   have c0':=cell_later' ba c0
   have c1':=cell_later' ba c1
   have HS6:=Lh (HSI.out.below bc3)
   have HE6:=Lh (HEM.out.keep bc3)
   have HT6:=Lh (blk_below HTI.out bc3)
   have HU:=Lh (by have h:=blk_below (blk_new (wi.alloc (.cells #[.string (bb r2.1),.string (bb r2.2)] 58)) #[.int .i64 x1,.int .i64 y1] 117) (al1 _ (.cells #[.int .i64 x2,.int .i64 y2] 117));rw [World.size_alloc] at h;exact h)
   have HV:=Lh (by have h:=blk_new ((wi.alloc (.cells #[.string (bb r2.1),.string (bb r2.2)] 58)).alloc (.cells #[.int .i64 x1,.int .i64 y1] 117)) #[.int .i64 x2,.int .i64 y2] 117;rw [World.size_alloc,World.size_alloc] at h;exact h)
   have HST:=Lh hst
   have j0:(0:Int)≤(i:Int):=by omega
   have j1:(i:Int) < (rs.length:Int):=by omega
   have j2:(i:Int) < ((rs.length - 1:Nat):Int):=by omega
   obtain ⟨eo,ec,hev,-,-⟩:=own_form HS6.out.er
   subst hev
   have b3:(((wi.alloc (.cells #[.string (bb r2.1),.string (bb r2.2)] 58)).alloc (.cells #[.int .i64 x1,.int .i64 y1] 117)).alloc (.cells #[.int .i64 x2,.int .i64 y2] 117)).cell? ⟨b,3,none⟩=some (.slice eo es'.length ec):=by rw [blk_cell HS6.out.box];rfl
   clear ba bb2 bc3 hst hn1 hn2 hr1q hr2q hf1 hf2 hAa HSI HEM HTI HRC'
   cases R1
   case false =>
    have HRE:Hid (RC=(es',false)):=Lh (by have h:=HST.out;rw [if_pos (Or.inl rfl)] at h;exact h)
    have HRS2:Hid (RS.2=false):=Lh (by have h:=HDR.out;rw [HRE.out] at h;rw [if_pos rfl] at h;rw [h])
    go_wp2
    go_ret
    exact ⟨by rw [HRS2.out];rfl,HS6.out.old,fun q=>absurd (HRS2.out.symm.trans q) (by decide)⟩
   cases R2
   case false =>
    have HRE:Hid (RC=(es',false)):=Lh (by have h:=HST.out;rw [if_pos (Or.inr rfl)] at h;exact h)
    have HRS2:Hid (RS.2=false):=Lh (by have h:=HDR.out;rw [HRE.out] at h;rw [if_pos rfl] at h;rw [h])
    go_wp2
    go_ret
    exact ⟨by rw [HRS2.out];rfl,HS6.out.old,fun q=>absurd (HRS2.out.symm.trans q) (by decide)⟩
   by_cases h256:es'.length≤256
   case neg =>
    have dlen:decide ((es'.length:Int)≤256)=false:=decide_eq_false (by omega)
    have HN:Hid (edgC F lb wt ln (rs.drop (i+1)) es'=RC):=Lh (by have h:=HST.out;rw [if_neg (by simp),if_neg h256] at h;exact h.symm)
    clear h256
    go_wp2
    go_roundw
    case rel=>exact ⟨i+1,es',_,by go_num,by omega,HS6.out,HE6.out,HN.out,hel',HT6.out⟩
    case measure=>simp [intOf];omega
   have dlen:decide ((es'.length:Int)≤256)=true:=decide_eq_true (by omega)
   have HN:Hid (edgC F lb wt ln (rs.drop (i+1)) (es' ++ [⟨x1,x2,y1,y2,lb,wt,ln⟩])=RC):=Lh (by have h:=HST.out;rw [if_neg (by simp),if_pos h256] at h;exact h.symm)
   have h256b:=Lh h256
   go_wp2_with fail
   clear lk1 lk2 t0 c0 c1 c0' c1' e0 e1 b3 dlen h256
   generalize ((wi.alloc (.cells #[.string (bb r2.1),.string (bb r2.2)] 58)).alloc (.cells #[.int .i64 x1,.int .i64 y1] 117)).alloc (.cells #[.int .i64 x2,.int .i64 y2] 117)=W6 at *
   obtain ⟨i9,hi0,hz0,hz1,hz2⟩:=info_of info_ed
   have hbase:=HS6.out.base
   have hc3:W6.cell? ⟨b,3,none⟩=some (.slice eo es'.length ec):=by rw [blk_cell HS6.out.box];rfl
   have m0:W6.cell? ⟨wi.heap.size+1,0,none⟩=some (.int .i64 x1):=by rw [blk_cell HU.out];rfl
   have m1:W6.cell? ⟨wi.heap.size+1,1,none⟩=some (.int .i64 y1):=by rw [blk_cell HU.out];rfl
   have m2:W6.cell? ⟨wi.heap.size+1+1,0,none⟩=some (.int .i64 x2):=by rw [blk_cell HV.out];rfl
   have m3:W6.cell? ⟨wi.heap.size+1+1,1,none⟩=some (.int .i64 y2):=by rw [blk_cell HV.out];rfl
   have hblt:wi.heap.size+1≠b:=by omega
   have hblt2:wi.heap.size+1+1≠b:=by omega
   obtain ⟨H1,hH1⟩:∃ H1,wi.heap.size+1=H1:=⟨_,rfl⟩
   obtain ⟨H2,hH2⟩:∃ H2,H1+1=H2:=⟨_,rfl⟩
   rw [hH1] at HU m0 m1 hblt
   rw [hH1,hH2] at HV m2 m3 hblt2
   simp only [hH1,hH2]
   clear hH1 hH2
   refine wp_region_held_drew (S:=(fun W:World=>W.cell? ⟨H1,0,none⟩=some (.int .i64 x1)∧W.cell? ⟨H1,1,none⟩=some (.int .i64 y1)∧W.cell? ⟨H2,0,none⟩=some (.int .i64 x2)∧W.cell? ⟨H2,1,none⟩=some (.int .i64 y2))) (by kernel_rfl) (⟨s_drew m0,s_drew m1,s_drew m2,s_drew m3⟩) (fun hHeld=>?_)
   refine tk 0 77 (.pointer (some ⟨b,0,none⟩)) ?_ ?_
   ·(intro W hSw;(try dsimp only at hSw);obtain ⟨hs0,hs1,hs2,hs3⟩:=hSw
     go_simp)
   try simp only [sA,sB,sC]
   refine tk 1 78 (.pointer (some ⟨b,0,none⟩)) ?_ ?_
   ·(intro W hSw;(try dsimp only at hSw);obtain ⟨hs0,hs1,hs2,hs3⟩:=hSw
     go_simp)
   try simp only [sA,sB,sC]
   refine tk 2 79 (.pointer (some ⟨b,0,none⟩)) ?_ ?_
   ·(intro W hSw;(try dsimp only at hSw);obtain ⟨hs0,hs1,hs2,hs3⟩:=hSw
     go_simp)
   try simp only [sA,sB,sC]
   refine tk 3 80 (.pointer (some ⟨b,0,none⟩)) ?_ ?_
   ·(intro W hSw;(try dsimp only at hSw);obtain ⟨hs0,hs1,hs2,hs3⟩:=hSw
     go_simp)
   try simp only [sA,sB,sC]
   refine tk 4 81 (.pointer (some ⟨b,3,none⟩)) ?_ ?_
   ·(intro W hSw;(try dsimp only at hSw);obtain ⟨hs0,hs1,hs2,hs3⟩:=hSw
     go_simp)
   try simp only [sA,sB,sC]
   refine tk 6 83 (.pointer (some ⟨H1,0,none⟩)) ?_ ?_
   ·(intro W hSw;(try dsimp only at hSw);obtain ⟨hs0,hs1,hs2,hs3⟩:=hSw
     go_simp)
   try simp only [sA,sB,sC]
   refine tk 7 84 (.int .i64 x1) ?_ ?_
   ·(intro W hSw;(try dsimp only at hSw);obtain ⟨hs0,hs1,hs2,hs3⟩:=hSw
     go_simp)
   try simp only [sA,sB,sC]
   refine tk 8 85 (.pointer (some ⟨H2,0,none⟩)) ?_ ?_
   ·(intro W hSw;(try dsimp only at hSw);obtain ⟨hs0,hs1,hs2,hs3⟩:=hSw
     go_simp)
   try simp only [sA,sB,sC]
   refine tk 9 86 (.int .i64 x2) ?_ ?_
   ·(intro W hSw;(try dsimp only at hSw);obtain ⟨hs0,hs1,hs2,hs3⟩:=hSw
     go_simp)
   try simp only [sA,sB,sC]
   refine tk 10 87 (.pointer (some ⟨H1,1,none⟩)) ?_ ?_
   ·(intro W hSw;(try dsimp only at hSw);obtain ⟨hs0,hs1,hs2,hs3⟩:=hSw
     go_simp)
   try simp only [sA,sB,sC]
   refine tk 11 88 (.int .i64 y1) ?_ ?_
   ·(intro W hSw;(try dsimp only at hSw);obtain ⟨hs0,hs1,hs2,hs3⟩:=hSw
     go_simp)
   try simp only [sA,sB,sC]
   refine tk 12 89 (.pointer (some ⟨H2,1,none⟩)) ?_ ?_
   ·(intro W hSw;(try dsimp only at hSw);obtain ⟨hs0,hs1,hs2,hs3⟩:=hSw
     go_simp)
   try simp only [sA,sB,sC]
   refine tk 13 90 (.int .i64 y2) ?_ ?_
   ·(intro W hSw;(try dsimp only at hSw);obtain ⟨hs0,hs1,hs2,hs3⟩:=hSw
     go_simp)
   try simp only [sA,sB,sC]
   refine tk 14 91 (.string (bb lb)) ?_ ?_
   ·(intro W hSw;(try dsimp only at hSw);obtain ⟨hs0,hs1,hs2,hs3⟩:=hSw
     go_simp)
   try simp only [sA,sB,sC]
   refine tk 15 92 (.int .i64 wt) ?_ ?_
   ·(intro W hSw;(try dsimp only at hSw);obtain ⟨hs0,hs1,hs2,hs3⟩:=hSw
     go_simp)
   try simp only [sA,sB,sC]
   refine tk 16 93 (.int .i64 ln) ?_ ?_
   ·(intro W hSw;(try dsimp only at hSw);obtain ⟨hs0,hs1,hs2,hs3⟩:=hSw
     go_simp)
   try simp only [sA,sB,sC]
   refine tk 17 94 (.agg #[.int .i64 x1,.int .i64 x2,.int .i64 y1,.int .i64 y2,.string (bb lb),.int .i64 wt,.int .i64 ln]) ?_ ?_
   ·(intro W hSw;(try dsimp only at hSw);obtain ⟨hs0,hs1,hs2,hs3⟩:=hSw
     go_simp)
   try simp only [sA,sB,sC]
   refine wpAnyH_ready (rs:=[5,18]) (by kernel_rfl) (by simp) ?_
   refine AllReadyH.cons rfl (fun K hK=>?_) (AllReadyH.cons rfl (fun K hK=>?_) AllReadyH.nil)
   ·
    go_simp
    refine hK.out _ _ ⟨s_drew m0,s_drew m1,s_drew m2,s_drew m3⟩ (fun hHeld=>?_)
    clear hK K
    try simp only [sA,sB,sC]
    refine wpAnyH_ready (rs:=[18]) (by kernel_rfl) (by simp) ?_
    refine AllReadyH.cons rfl (fun K hK=>?_) AllReadyH.nil
    go_simp
    refine hK.out _ _ ⟨s_alloc (s_drew m0),s_alloc (s_drew m1),s_alloc (s_drew m2),s_alloc (s_drew m3)⟩ (fun hHeld=>?_)
    clear hK K
    try simp only [sA,sB,sC]
    refine wpAnyH_ready (rs:=[19]) (by kernel_rfl) (by simp) ?_
    refine AllReadyH.cons rfl (fun K hK=>?_) AllReadyH.nil
    refine step_append_lies _ (by rfl) _ _ _ (by rfl) w0.heap.size 60 i9 _ 7 64 Tryz.underlying28 hi0 hz0 hz1 hz2 rfl (by omega) (.slice eo es'.length ec) es'.length (es'.flatMap edC) (by rfl) (by exact row_below HS6.out.er (by repeat (first | (with_reducible exact Below.refl _ _) | (with_reducible refine Below.drew ?_) | (with_reducible refine b_allocN ?_ ?_) | (simp;done) | omega))) ⟨W6.heap.size,0,none⟩ 1 1 [.int .i64 x1,.int .i64 x2,.int .i64 y1,.int .i64 y2,.string (bb lb),.int .i64 wt,.int .i64 ln] (by rfl) (by rfl) (by exact World.news_of_block (cs:=#[.int .i64 x1,.int .i64 x2,.int .i64 y1,.int .i64 y2,.string (bb lb),.int .i64 wt,.int .i64 ln]) (t:=60) (fr:=(0,0)) (heap_alloc_new _ _)) (by simp [Value.oneCell']) (by omega) (by unfold maxLen;omega) (by omega) (by simp;omega) (W6.heap.size+1) (by simp) ?_
    intro gg cap1 w7 hown1 hgrow hat1 hlt7
    obtain ⟨⟨hx1,hst5⟩,hs5,hst6⟩:=HS6.out.growD (e:=⟨x1,x2,y1,y2,lb,wt,ln⟩) (by exact (by repeat (first | (with_reducible exact Below.refl _ _) | (with_reducible refine Below.drew ?_) | (with_reducible refine b_allocN ?_ ?_) | (simp;done) | omega))) hgrow (by show World.ownsRow _ _ _ _ _ (es' ++ [_]).length _;rw [List.length_append,List.flatMap_append];exact hown1)
    have hfz:=hx1.open 3
    have hc9:w7.cell? ⟨b,3,none⟩=some (.slice eo es'.length ec):=by rw [blk_cell hx1];rfl
    have HS7:=Lh hs5
    have HE7:=Lh (hst6.emap HE6.out)
    have HT7:=Lh (hst6.blk HT6.out (by decide) (by decide))
    have n0:w7.cell? ⟨H1,0,none⟩=some (.int .i64 x1):=by rw [blk_cell (hst5.blk HU.out (by decide) (by decide))];rfl
    have n1:w7.cell? ⟨H1,1,none⟩=some (.int .i64 y1):=by rw [blk_cell (hst5.blk HU.out (by decide) (by decide))];rfl
    have n2:w7.cell? ⟨H2,0,none⟩=some (.int .i64 x2):=by rw [blk_cell (hst5.blk HV.out (by decide) (by decide))];rfl
    have n3:w7.cell? ⟨H2,1,none⟩=some (.int .i64 y2):=by rw [blk_cell (hst5.blk HV.out (by decide) (by decide))];rfl
    clear hs5 hst5 hst6 hx1
    refine hK.out _ _ ⟨n0,n1,n2,n3⟩ (fun hHeld=>?_)
    clear hK K
    try simp only [sA,sB,sC]
    refine tk 20 97 (.pointer (some ⟨b,0,none⟩)) ?_ ?_
    ·(intro W hSw;(try dsimp only at hSw);obtain ⟨hs0,hs1,hs2,hs3⟩:=hSw
      go_simp)
    try simp only [sA,sB,sC]
    refine tk 21 98 (.pointer (some ⟨b,0,none⟩)) ?_ ?_
    ·(intro W hSw;(try dsimp only at hSw);obtain ⟨hs0,hs1,hs2,hs3⟩:=hSw
      go_simp)
    refine tk 22 99 (.pointer (some ⟨b,3,none⟩)) ?_ ?_
    ·(intro W hSw;(try dsimp only at hSw);obtain ⟨hs0,hs1,hs2,hs3⟩:=hSw
      go_simp)
    refine wpAnyH_ready (rs:=[23]) (by kernel_rfl) (by simp) ?_
    refine AllReadyH.cons rfl (fun K hK=>?_) AllReadyH.nil
    go_simp
    refine hK.out _ _ ⟨s_set (by simp only;omega) n0,s_set (by simp only;omega) n1,s_set (by simp only;omega) n2,s_set (by simp only;omega) n3⟩ (fun hHeld=>?_)
    clear hK K
    try simp only [sA,sB,sC]
    refine wpAnyH_done (by kernel_rfl) ?_ _
    have HLE:Hid ((es' ++ [(⟨x1,x2,y1,y2,lb,wt,ln⟩:gra.Ed)]).length≤257):=Lh (by rw [List.length_append,List.length_singleton];have:=h256b.out;omega)
    go_wp2
    go_roundw
    case rel=>exact ⟨i+1,_,_,by go_num,by omega,HS7.out,HE7.out,HN.out,HLE.out,HT7.out⟩
    case measure=>simp [intOf];omega
   ·
    go_simp
    refine hK.out _ _ ⟨s_alloc (s_drew m0),s_alloc (s_drew m1),s_alloc (s_drew m2),s_alloc (s_drew m3)⟩ (fun hHeld=>?_)
    clear hK K
    try simp only [sA,sB,sC]
    have hc3a:((W6.alloc (.cells #[.int .i64 x1,.int .i64 x2,.int .i64 y1,.int .i64 y2,.string (bb lb),.int .i64 wt,.int .i64 ln] 60)).drew).cell? ⟨b,3,none⟩=some (.slice eo es'.length ec):=s_alloc (o:=.cells #[.int .i64 x1,.int .i64 x2,.int .i64 y1,.int .i64 y2,.string (bb lb),.int .i64 wt,.int .i64 ln] 60) hc3
    refine wpAnyH_ready (rs:=[5]) (by kernel_rfl) (by simp) ?_
    refine AllReadyH.cons rfl (fun K hK=>?_) AllReadyH.nil
    go_simp
    refine hK.out _ _ ⟨s_alloc (s_drew m0),s_alloc (s_drew m1),s_alloc (s_drew m2),s_alloc (s_drew m3)⟩ (fun hHeld=>?_)
    clear hK K
    try simp only [sA,sB,sC]
    refine wpAnyH_ready (rs:=[19]) (by kernel_rfl) (by simp) ?_
    refine AllReadyH.cons rfl (fun K hK=>?_) AllReadyH.nil
    refine step_append_lies _ (by rfl) _ _ _ (by rfl) w0.heap.size 60 i9 _ 7 64 Tryz.underlying28 hi0 hz0 hz1 hz2 rfl (by omega) (.slice eo es'.length ec) es'.length (es'.flatMap edC) (by rfl) (by exact row_below HS6.out.er (by repeat (first | (with_reducible exact Below.refl _ _) | (with_reducible refine Below.drew ?_) | (with_reducible refine b_allocN ?_ ?_) | (simp;done) | omega))) ⟨W6.heap.size,0,none⟩ 1 1 [.int .i64 x1,.int .i64 x2,.int .i64 y1,.int .i64 y2,.string (bb lb),.int .i64 wt,.int .i64 ln] (by rfl) (by rfl) (by exact World.news_of_block (cs:=#[.int .i64 x1,.int .i64 x2,.int .i64 y1,.int .i64 y2,.string (bb lb),.int .i64 wt,.int .i64 ln]) (t:=60) (fr:=(0,0)) (heap_alloc_new _ _)) (by simp [Value.oneCell']) (by omega) (by unfold maxLen;omega) (by omega) (by simp;omega) (W6.heap.size+1) (by simp) ?_
    intro gg cap1 w7 hown1 hgrow hat1 hlt7
    obtain ⟨⟨hx1,hst5⟩,hs5,hst6⟩:=HS6.out.growD (e:=⟨x1,x2,y1,y2,lb,wt,ln⟩) (by exact (by repeat (first | (with_reducible exact Below.refl _ _) | (with_reducible refine Below.drew ?_) | (with_reducible refine b_allocN ?_ ?_) | (simp;done) | omega))) hgrow (by show World.ownsRow _ _ _ _ _ (es' ++ [_]).length _;rw [List.length_append,List.flatMap_append];exact hown1)
    have hfz:=hx1.open 3
    have hc9:w7.cell? ⟨b,3,none⟩=some (.slice eo es'.length ec):=by rw [blk_cell hx1];rfl
    have HS7:=Lh hs5
    have HE7:=Lh (hst6.emap HE6.out)
    have HT7:=Lh (hst6.blk HT6.out (by decide) (by decide))
    have n0:w7.cell? ⟨H1,0,none⟩=some (.int .i64 x1):=by rw [blk_cell (hst5.blk HU.out (by decide) (by decide))];rfl
    have n1:w7.cell? ⟨H1,1,none⟩=some (.int .i64 y1):=by rw [blk_cell (hst5.blk HU.out (by decide) (by decide))];rfl
    have n2:w7.cell? ⟨H2,0,none⟩=some (.int .i64 x2):=by rw [blk_cell (hst5.blk HV.out (by decide) (by decide))];rfl
    have n3:w7.cell? ⟨H2,1,none⟩=some (.int .i64 y2):=by rw [blk_cell (hst5.blk HV.out (by decide) (by decide))];rfl
    clear hs5 hst5 hst6 hx1
    refine hK.out _ _ ⟨n0,n1,n2,n3⟩ (fun hHeld=>?_)
    clear hK K
    try simp only [sA,sB,sC]
    refine tk 20 97 (.pointer (some ⟨b,0,none⟩)) ?_ ?_
    ·(intro W hSw;(try dsimp only at hSw);obtain ⟨hs0,hs1,hs2,hs3⟩:=hSw
      go_simp)
    try simp only [sA,sB,sC]
    refine tk 21 98 (.pointer (some ⟨b,0,none⟩)) ?_ ?_
    ·(intro W hSw;(try dsimp only at hSw);obtain ⟨hs0,hs1,hs2,hs3⟩:=hSw
      go_simp)
    refine tk 22 99 (.pointer (some ⟨b,3,none⟩)) ?_ ?_
    ·(intro W hSw;(try dsimp only at hSw);obtain ⟨hs0,hs1,hs2,hs3⟩:=hSw
      go_simp)
    refine wpAnyH_ready (rs:=[23]) (by kernel_rfl) (by simp) ?_
    refine AllReadyH.cons rfl (fun K hK=>?_) AllReadyH.nil
    go_simp
    refine hK.out _ _ ⟨s_set (by simp only;omega) n0,s_set (by simp only;omega) n1,s_set (by simp only;omega) n2,s_set (by simp only;omega) n3⟩ (fun hHeld=>?_)
    clear hK K
    try simp only [sA,sB,sC]
    refine wpAnyH_done (by kernel_rfl) ?_ _
    have HLE:Hid ((es' ++ [(⟨x1,x2,y1,y2,lb,wt,ln⟩:gra.Ed)]).length≤257):=Lh (by rw [List.length_append,List.length_singleton];have:=h256b.out;omega)
    go_wp2
    go_roundw
    case rel=>exact ⟨i+1,_,_,by go_num,by omega,HS7.out,HE7.out,HN.out,HLE.out,HT7.out⟩
    case measure=>simp [intOf];omega
end Go.Proofs.YtcdoicgbjoikkaaGreatDoor.nor
namespace Go.Proofs.YtcdoicgbjoikkaaGreatDoor.nor
open lex tre att
def Sml (n:Int):Prop:=-1≤n∧n≤2000000
def WfS (s:Bs):Prop:=(∀ x∈s.ns,Sml x.2)∧∀ x∈s.cs,x.1.length≤16∧Sml x.2
theorem WfS.ment {s:Bs}(h:WfS s)(n:Nm){p:Pl}(hp:Sml p.cl):WfS (mentC s n p):=by
 unfold mentC
 split
 ·refine ⟨fun x hx=>?_,h.2⟩
  rcases List.mem_append.1 hx with q | q
  ·exact h.1 x q
  ·rw [List.mem_singleton] at q;subst q;exact hp
 ·exact h
theorem WfS.refs {p:Pl}(hp:Sml p.cl):∀ (l:List Pr) (s:Bs),WfS s→WfS (refsC l s p).1
 | [],_,h=>h
 | r :: t,s,h=>by
  unfold refsC
  split
  ·exact h
  ·exact WfS.refs hp t _ (h.ment _ hp)
theorem okS_clu {s:St}(h:okS s)(h5:s.kind=5):s.name.length≤16:=by
 obtain ⟨⟨lv,h⟩,-⟩:=h
 unfold staE at h
 split at h
 ·rename_i hne;exact absurd h hne
 split at h
 ·exact absurd h (by decide)
 split at h
 ·exact absurd h (by decide)
 rename_i hn
 cases hq:isNm s.name
 ·exact absurd ⟨by omega,by omega,hq⟩ hn
 ·exact isNm_16 hq
theorem dflt_cl (k:Int)(n:Nm)(a:List Pr)(p:Pl):(dflt k n a p).cl=p.cl:=by
 unfold dflt
 repeat' split
 all_goals rfl
theorem blk_WfS:(∀ x:St,∀ (p:Pl) (s:Bs),okS x→okB x.body→sz s+42*(1+cnt x.body)≤100000→Sml p.cl→WfS s→WfS (stmC x p s).1) ∧
    ∀ l:List St,∀ (p:Pl) (s:Bs),okB l→sz s+42*cnt l≤100000→Sml p.cl→WfS s→WfS (blkC l p s).1:=by
 refine st_ind (fun k n r a b hb p s ho hk hz hp hs=>?_) (fun p s _ _ _ hs=>?_) (fun x t hx ht p s ho hz hp hs=>?_)
 ·simp only [St.body] at hk hz
  by_cases h1:k=1
  ·subst h1
   rw [stmC_1]
   split
   ·exact hs
   ·have:=hs.ment n hp
    exact ⟨this.1,this.2⟩
  by_cases h2:k=2
  ·subst h2
   rw [stmC_2]
   have:=WfS.refs hp r s hs
   split
   ·exact this
   ·exact ⟨this.1,this.2⟩
  by_cases h5:k=5
  ·subst h5
   rw [stmC_5]
   split
   ·exact hs
   ·have hn:n.length≤16:=okS_clu ho rfl
    refine hb _ _ hk ?_ ?_ ⟨hs.1,fun x hx=>?_⟩
    ·unfold sz at hz ⊢
     simp only [List.length_append,List.length_singleton];omega
    ·unfold sz at hz
     unfold Sml
     simp only
     omega
    ·rcases List.mem_append.1 hx with q | q
     ·exact hs.2 x q
     ·rw [List.mem_singleton] at q;subst q;exact ⟨hn,hp⟩
  ·rw [stmC_n h1 h2 h5];exact hs
 ·rw [blkC_nil];exact hs
 ·obtain ⟨o1,o2,o3⟩:=okB_cons ho
  rw [cnt_cons] at hz
  rw [blkC_cons]
  have hp':Sml (dflt x.kind x.name x.attrs p).cl:=by rw [dflt_cl];exact hp
  split
  ·exact hs
  ·have q:=hx (dflt x.kind x.name x.attrs p) s o1 o2 (by omega) hp' hs
   have q2:=blk_sz.1 x (dflt x.kind x.name x.attrs p) s o1 o2
   split
   ·exact q
   ·exact ht _ _ o3 (by omega) hp' q
theorem label_short {k:Int}(hk:k=1∨k=2){l:List Pr}(h:∀ a∈l,checkL k a=0):(getL l wLabel).1.length≤32:=by
 induction l with
 | nil=>exact Nat.zero_le _
 | cons a t ih =>
  rw [getL_cons]
  split
  ·exact ih fun q hq=>h q (List.mem_cons_of_mem _ hq)
  ·split
   ·rename_i e
    have hc:=h a (List.mem_cons_self ..)
    unfold checkL at hc
    rw [e] at hc
    refine Nat.le_of_not_lt fun hl=>?_
    rcases hk with rfl | rfl
    ·rw [if_neg (by decide),if_neg (by decide),if_pos ⟨by decide,hl⟩] at hc
     exact absurd hc (by decide)
    ·rw [if_neg (by decide),if_neg (by decide),if_pos ⟨by decide,hl⟩] at hc
     exact absurd hc (by decide)
   ·exact Nat.zero_le _
theorem num_sml {k:Int}{l:List Pr}{c:List UInt8}(h:(knownL k c).form=2∨(knownL k c).form=3):Sml (numL k l c):=by
 obtain ⟨h1,h2,-⟩:=num_ok k l c h
 exact ⟨by omega,by omega⟩
theorem idxA_le (s:List UInt8):∀ (l:List (List UInt8)) (i:Int),idxA s l i=-1∨(i≤idxA s l i∧idxA s l i < i+l.length)
 | [],_=>Or.inl rfl
 | x :: t,i=>by
  unfold idxA
  split
  ·right;simp only [List.length_cons];omega
  ·rcases idxA_le s t (i+1) with h | h
   ·exact Or.inl h
   ·right;simp only [List.length_cons];omega
theorem side_sml (s:List UInt8):Sml (sideL s):=by
 unfold sideL Sml
 rcases idxA_le s sides 0 with h | h
 ·rw [h];decide
 ·have:sides.length=4:=rfl
  omega
theorem parts_side:∀ (l:List (List UInt8)) (out:List (List UInt8 × Int)),(∀ p∈out,Sml p.2)→∀ p∈(partsL l out).1,Sml p.2
 | [],_,h=>h
 | s :: t,out,h=>by
  unfold partsL
  split
  ·exact fun p hp=>by cases hp
  split
  ·exact fun p hp=>by cases hp
  split
  ·exact fun p hp=>by cases hp
  refine parts_side t _ fun p hp=>?_
  rcases List.mem_append.1 hp with q | q
  ·exact h p q
  ·rw [List.mem_singleton] at q
   subst q
   show Sml (partL s).2.2
   unfold partL
   split
   ·exact ⟨by decide,by decide⟩
   ·split
    ·exact ⟨by decide,by decide⟩
    ·split
     ·exact ⟨by decide,by decide⟩
     ·exact side_sml _
theorem ports_side (s:List UInt8):∀ p∈(portsL s).1,Sml p.2:=by
 unfold portsL
 split
 ·exact fun p hp=>by cases hp
 ·exact parts_side _ _ fun p hp=>by cases hp
def WfN (x:gra.Nd):Prop:=x.nm.length≤16∧x.lb.length≤32∧Sml x.w∧Sml x.h∧Sml x.cl∧∀ p∈x.ps,p.1.length≤16∧Sml p.2
theorem nd_wf {s:Bs}(h1:NmS s)(h2:WfS s)(h3:GaS s):∀ x∈ndC' s,WfN x:=fun x hx=>by
 unfold ndC' at hx
 obtain ⟨i,hi,e⟩:=List.getElem_of_mem hx
 rw [List.length_zipWith] at hi
 rw [List.getElem_zipWith] at e
 subst e
 have g1:=h1.1 _ (List.getElem_mem (show i < s.ns.length by omega))
 have g2:=h2.1 _ (List.getElem_mem (show i < s.ns.length by omega))
 have g3:=h3.1 _ (List.getElem_mem (show i < s.ats.length by omega))
 refine ⟨g1,?_,num_sml (k:=1) (l:=s.ats[i]) (c:=wWidth) (by left;decide),num_sml (k:=1) (l:=s.ats[i]) (c:=wHeight) (by left;decide),g2,?_⟩
 ·show (if (getL _ wLabel).2 then (getL _ wLabel).1 else _).length≤32
  split
  ·exact label_short (Or.inl rfl) g3.1
  ·omega
 ·rw [fin_ps]
  exact fun p hp=>⟨(ports_small _).2 p hp,ports_side _ p hp⟩
def WfE (F:EnM):Prop:=∀ x,Sml (F x).1.1∧Sml (F x).1.2
theorem sml0:Sml 0:=⟨by decide,by decide⟩
theorem WfE.zero:WfE em0:=fun _=>⟨sml0,sml0⟩
theorem WfE.put {F:EnM}(h:WfE F)(k:Pr){a b:Int}(ha:Sml a)(hb:Sml b):WfE (putM F k (a,b)):=fun x=>by
 unfold putM
 split
 ·exact ⟨ha,hb⟩
 ·exact h x
theorem WfE.ps {v:Int}(hv:Sml v)(nm:Nm):∀ (l:List (Nm × Int)) (i:Nat) (F:EnM),WfE F→i+l.length≤1000000→WfE (endP v nm l i F)
 | [],_,_,h,_=>h
 | p :: t,i,F,h,hl=>by
  unfold endP
  rw [List.length_cons] at hl
  exact WfE.ps hv nm t (i+1) _ (h.put _ hv ⟨by omega,by omega⟩) (by omega)
theorem WfE.ns:∀ (l:List gra.Nd) (i:Nat) (F:EnM),WfE F→i+l.length≤1000000→(∀ x∈l,x.ps.length≤8)→WfE (endN l i F)
 | [],_,_,h,_,_=>h
 | n :: t,i,F,h,hl,hp=>by
  unfold endN
  rw [List.length_cons] at hl
  have h8:=hp n (List.mem_cons_self ..)
  exact WfE.ns t (i+1) _ (WfE.ps ⟨by omega,by omega⟩ _ _ _ _ (h.put _ ⟨by omega,by omega⟩ ⟨by decide,by decide⟩) (by omega)) (by omega) fun x hx=>hp x (List.mem_cons_of_mem _ hx)
def WfD (e:gra.Ed):Prop:=e.lb.length≤32∧Sml e.fr∧Sml e.to∧Sml e.fp∧Sml e.tp∧Sml e.wt∧Sml e.ln
theorem edg_wf {F:EnM}(hF:WfE F){lb:Nm}{wt ln:Int}(h1:lb.length≤32)(h2:Sml wt)(h3:Sml ln):∀ (l:List Pr) (es:List gra.Ed),(∀ e∈es,WfD e)→∀ e∈(edgC F lb wt ln l es).1,WfD e
 | [],_,h=>h
 | [_],_,h=>h
 | r :: q :: t,es,h=>by
  unfold edgC
  split
  ·exact h
  ·refine edg_wf hF h1 h2 h3 (q :: t) _ ?_
   split
   ·intro e he
    rcases List.mem_append.1 he with z | z
    ·exact h e z
    ·rw [List.mem_singleton] at z
     subst z
     exact ⟨h1,(hF r).1,(hF q).1,(hF r).2,(hF q).2,h2,h3⟩
   ·exact h
theorem add_wf {F:EnM}(hF:WfE F):∀ (ch:List (List Pr × List Pr)) (es:List gra.Ed),(∀ c∈ch,Ga 2 c.2)→(∀ e∈es,WfD e)→∀ e∈(addC F ch es).1,WfD e
 | [],_,_,h=>h
 | c :: t,es,hg,h=>by
  have hc:=edg_wf hF (label_short (Or.inr rfl) (hg c (List.mem_cons_self ..)).1) (num_sml (k:=2) (l:=c.2) (c:=wWeight) (by right;decide)) (num_sml (k:=2) (l:=c.2) (c:=wLen) (by right;decide)) c.1 es h
  unfold addC
  split
  ·exact hc
  ·exact add_wf hF t _ (fun x hx=>hg x (List.mem_cons_of_mem _ hx)) hc
end Go.Proofs.YtcdoicgbjoikkaaGreatDoor.nor
namespace Go.Proofs.YtcdoicgbjoikkaaGreatDoor.nor
open Go.RowKit lex tre att
theorem wf_sml {n:Int}(h:Sml n):(Lit.int .i64 n).wf=true:=by
 obtain ⟨h1,h2⟩:=h
 have e1:IntKind.i64.min=-9223372036854775808:=by decide
 have e2:IntKind.i64.max=9223372036854775807:=by decide
 show (decide (IntKind.i64.min≤n) && decide (n≤IntKind.i64.max))=true
 rw [e1,e2,Bool.and_eq_true,decide_eq_true_eq,decide_eq_true_eq]
 omega
theorem own_rwM {α β:Type}{c:Nat}{P:World→Addr→β→Prop}{f:α→List Value}{m:α→β}(hf:∀ x,(f x).length=c){w:World}{B:Nat}{t:TypeId}{v:Value}{l:List α}(hP:∀ (b o:Nat) (x:α),x∈l→(∀ j,j < c→w.cell? ⟨b,o+j,none⟩=(f x)[j]?)→P w ⟨b,o,none⟩ (m x))
    (h:w.ownsRow B t c v l.length (l.flatMap f)):gra.Rw c P w v (l.map m):=by
 by_cases h0:l.length=0
 ·obtain ⟨ao,cap,rfl,h1,h2⟩:=own_form h
  exact ⟨ao,cap,by rw [List.length_map],by rw [List.length_map];exact h1,h2,fun hn=>by rw [List.length_map] at hn;omega⟩
 ·obtain ⟨g,cap,arr,rfl,hB',hk,h1,h2,h3⟩:=own_blk h (by omega)
  refine ⟨_,cap,by rw [List.length_map],by rw [List.length_map];exact h1,h2,fun _=>⟨_,rfl,fun i hi=>?_⟩⟩
  rw [List.length_map] at hi
  rw [att.add_at,Nat.zero_add,List.getElem_map]
  refine hP _ _ _ (List.getElem_mem hi) fun j hj=>?_
  have hlt:i*c+j < l.length*c:=by
   have:(i+1)*c≤l.length*c:=Nat.mul_le_mul_right c hi
   rw [Nat.add_mul] at this
   omega
  rw [blk_cell hk,h3 _ hlt,flat_get f c hf l i j hi hj]
theorem len_max {n k:Nat}(h:n≤k)(hk:k≤1000):n≤maxLen:=by unfold maxLen;omega
theorem pos_pts {w:World}{v:Value}{l:List att.Pt}(h:Pos w v l)(hl:∀ p∈l,p.1.length≤16∧Sml p.2):gra.Pts w v l:=by
 obtain ⟨ao,cap,rfl,hc,hm,hA⟩:=h
 refine ⟨ao,cap,rfl,hc,hm,fun hn=>?_⟩
 obtain ⟨A,rfl,h2⟩:=hA hn
 refine ⟨A,rfl,fun i hi=>?_⟩
 obtain ⟨a1,a2⟩:=h2 i hi
 obtain ⟨q1,q2⟩:=hl _ (List.getElem_mem hi)
 exact ⟨a1,a2,len_max q1 (by decide),wf_sml q2⟩
theorem frow_nds {w:World}{B:Nat}{v:Value}{L:List (gra.Nd × Value)}(h:Frow w B v L)(hp:∀ y∈L,PosT w y.2 y.1.ps)(hw:∀ x∈L.map (·.1),WfN x):gra.Nds w v (L.map (·.1)) :=
 own_rwM (f:=nfC) (m:=fun y=>y.1) (fun _=>rfl) (fun b o x hx hc=>by
  obtain ⟨w1,w2,w3,w4,w5,w6⟩:=hw _ (List.mem_map_of_mem hx)
  refine ⟨?_,hc 1 (by decide),hc 2 (by decide),hc 3 (by decide),hc 4 (by decide),⟨x.2,hc 5 (by decide),pos_pts (hp x hx).pos w6⟩,len_max w1 (by decide),len_max w2 (by decide),wf_sml w3,wf_sml w4,wf_sml w5⟩
  have:=hc 0 (by decide)
  rwa [Nat.add_zero] at this) h
theorem drow_eds {w:World}{B:Nat}{v:Value}{l:List gra.Ed}(h:Drow w B v l)(hw:∀ x∈l,WfD x):gra.Eds w v l:=by
 have:=own_rwM (P:=gra.edAt) (f:=edC) (m:=fun y=>y) (fun _=>rfl) (fun b o x hx hc=>by
  obtain ⟨w1,w2,w3,w4,w5,w6,w7⟩:=hw _ hx
  refine ⟨?_,hc 1 (by decide),hc 2 (by decide),hc 3 (by decide),hc 4 (by decide),hc 5 (by decide),hc 6 (by decide),len_max w1 (by decide),wf_sml w2,wf_sml w3,wf_sml w4,wf_sml w5,wf_sml w6,wf_sml w7⟩
  have:=hc 0 (by decide)
  rwa [Nat.add_zero] at this) h
 rwa [List.map_id'] at this
theorem crow_cls {w:World}{B:Nat}{v:Value}{l:List Cl}(h:Crow w B v l)(hw:∀ x∈l,x.1.length≤16∧Sml x.2):gra.Cls w v l:=by
 have:=own_rwM (P:=gra.ptAt) (f:=clC) (m:=fun y=>y) (fun _=>rfl) (fun b o x hx hc=>by
  obtain ⟨w1,w2⟩:=hw _ hx
  refine ⟨?_,hc 1 (by decide),len_max w1 (by decide),wf_sml w2⟩
  have:=hc 0 (by decide)
  rwa [Nat.add_zero] at this) h
 rwa [List.map_id'] at this
theorem BdF.graph {w0 W:World}{b:Nat}{nm:Nm}{d:Bool}{s:Bs}{L:List (gra.Nd × Value)}{ev:Value}{es:List gra.Ed}{x:BdV}(h:BdF w0 W b nm d s L ev es x)(hn:nm.length≤maxLen)(hL:L.map (·.1)=ndC' s)(h1:∀ x∈ndC' s,WfN x)(h2:∀ e∈es,WfD e)(h3:∀ x∈s.cs,x.1.length≤16∧Sml x.2):gra.GrV W (.agg #[.string (bb nm),.bool d,x.nv,ev,x.cv]) ⟨nm,d,ndC' s,es,s.cs⟩:=by
 refine ⟨x.nv,ev,x.cv,rfl,hn,?_,drow_eds h.er h2,crow_cls h.cr h3⟩
 have:=frow_nds h.fr h.pv (by rw [hL];exact h1)
 rw [hL] at this
 exact this
def gbx (W:World)(g:Nat):Prop:=blk W g 31 #[.string ⟨#[]⟩,.bool false,.slice none 0 0,.slice none 0 0,.slice none 0 0]
theorem em_grv (w:World):gra.GrV w (.agg #[.string ⟨#[]⟩,.bool false,.slice none 0 0,.slice none 0 0,.slice none 0 0]) emG:=⟨_,_,_,rfl,Nat.zero_le _,gra.Rw.nil _ _ w,gra.Rw.nil _ _ w,gra.Rw.nil _ _ w⟩
theorem nd_len (s:Bs)(h:s.ns.length=s.ats.length):(ndC' s).length=s.ns.length:=by unfold ndC';rw [List.length_zipWith,← h,Nat.min_self]
theorem prsT_nil (w:World):PrsT w (.slice none 0 0) []:=⟨Prs.nil w,fun g hg=>by cases hg⟩
theorem gbx_set {W:World}{g:Nat}{a0 a1 a2 a3 a4:Value}(h:blk W g 31 #[a0,a1,a2,a3,a4])(c0 c1 c2 c3 c4:Value):blk (((((W.setCell ⟨g,0,none⟩ c0).setCell ⟨g,1,none⟩ c1).setCell ⟨g,2,none⟩ c2).setCell ⟨g,3,none⟩ c3).setCell ⟨g,4,none⟩ c4) g 31 #[c0,c1,c2,c3,c4]:=by
 have h0:blk (W.setCell ⟨g,0,none⟩ c0) g 31 #[c0,a1,a2,a3,a4]:=blk_set h c0
 have h1:blk ((W.setCell ⟨g,0,none⟩ c0).setCell ⟨g,1,none⟩ c1) g 31 #[c0,c1,a2,a3,a4]:=blk_set h0 c1
 have h2:blk (((W.setCell ⟨g,0,none⟩ c0).setCell ⟨g,1,none⟩ c1).setCell ⟨g,2,none⟩ c2) g 31 #[c0,c1,c2,a3,a4]:=blk_set h1 c2
 have h3:blk ((((W.setCell ⟨g,0,none⟩ c0).setCell ⟨g,1,none⟩ c1).setCell ⟨g,2,none⟩ c2).setCell ⟨g,3,none⟩ c3) g 31 #[c0,c1,c2,c3,a4]:=blk_set h2 c3
 exact blk_set h3 c4
theorem gcl {W:World}{g:Nat}{t:TypeId}{a0 a1 a2 a3 a4:Value}(h:att.blk W g t #[a0,a1,a2,a3,a4]):W.cell? ⟨g,0,none⟩=some a0∧W.cell? ⟨g,1,none⟩=some a1∧W.cell? ⟨g,2,none⟩=some a2∧W.cell? ⟨g,3,none⟩=some a3∧W.cell? ⟨g,4,none⟩=some a4 :=
 ⟨blk_cell h,blk_cell h,blk_cell h,blk_cell h,blk_cell h⟩
theorem below_set5 {B:Nat}{a W:World}{g:Nat}(h:Below B a W)(hg:B≤g)(c0 c1 c2 c3 c4:Value):Below B a (((((W.setCell ⟨g,0,none⟩ c0).setCell ⟨g,1,none⟩ c1).setCell ⟨g,2,none⟩ c2).setCell ⟨g,3,none⟩ c3).setCell ⟨g,4,none⟩ c4):=((((h.setCell hg _).setCell hg _).setCell hg _).setCell hg _).setCell hg _
structure GrR (W:World)(B:Nat)(s:Bs)(L:List (gra.Nd × Value))(nv ev cv:Value)(es:List gra.Ed):Prop where
 fr:Frow W B nv L
 er:Drow W B ev es
 cr:Crow W B cv s.cs
 pv:∀ y∈L,PosT W y.2 y.1.ps
theorem GrR.set {W:World}{B:Nat}{s:Bs}{L:List (gra.Nd × Value)}{nv ev cv:Value}{es:List gra.Ed}{g o:Nat}{arr:Array Value}(h:GrR W B s L nv ev cv es)(hg:blk W g 31 arr)(u:Value):GrR (W.setCell ⟨g,o,none⟩ u) B s L nv ev cv es :=
 ⟨row_set h.fr hg (by decide) _,row_set h.er hg (by decide) _,row_set h.cr hg (by decide) _,fun y hy=>posT_set (h.pv y hy) hg (by decide) _⟩
theorem GrR.set5 {W:World}{B:Nat}{s:Bs}{L:List (gra.Nd × Value)}{nv ev cv:Value}{es:List gra.Ed}{g:Nat}{arr:Array Value}(h:GrR W B s L nv ev cv es)(hg:blk W g 31 arr)(c0 c1 c2 c3 c4:Value):GrR (((((W.setCell ⟨g,0,none⟩ c0).setCell ⟨g,1,none⟩ c1).setCell ⟨g,2,none⟩ c2).setCell ⟨g,3,none⟩ c3).setCell ⟨g,4,none⟩ c4) B s L nv ev cv es :=
 ((((h.set hg c0).set (blk_set (o:=0) hg c0) c1).set (blk_set (o:=1) (blk_set (o:=0) hg c0) c1) c2).set (blk_set (o:=2) (blk_set (o:=1) (blk_set (o:=0) hg c0) c1) c2) c3).set (blk_set (o:=3) (blk_set (o:=2) (blk_set (o:=1) (blk_set (o:=0) hg c0) c1) c2) c3) c4
theorem GrR.below {W W':World}{B:Nat}{s:Bs}{L:List (gra.Nd × Value)}{nv ev cv:Value}{es:List gra.Ed}(h:GrR W B s L nv ev cv es)(hb:Below W.heap.size W W'):GrR W' B s L nv ev cv es :=
 ⟨row_below h.fr hb,row_below h.er hb,row_below h.cr hb,fun y hy=>posT_keep (h.pv y hy) hb⟩
theorem GrR.graph {W:World}{B:Nat}{s:Bs}{L:List (gra.Nd × Value)}{nv ev cv:Value}{es:List gra.Ed}{nm:Nm}{d:Bool}(h:GrR W B s L nv ev cv es)(hn:nm.length≤maxLen)(hL:L.map (·.1)=ndC' s)(h1:∀ x∈ndC' s,WfN x)(h2:∀ e∈es,WfD e)(h3:∀ x∈s.cs,x.1.length≤16∧Sml x.2):gra.GrV W (.agg #[.string (bb nm),.bool d,nv,ev,cv]) ⟨nm,d,ndC' s,es,s.cs⟩:=by
 refine ⟨nv,ev,cv,rfl,hn,?_,drow_eds h.er h2,crow_cls h.cr h3⟩
 have:=frow_nds h.fr h.pv (by rw [hL];exact h1)
 rw [hL] at this
 exact this
def BldOut (G:gra.Gr)(E:Int)(w:World)(e:Ending)(w':World):Prop:=∃ gv,e=.returned (.tuple #[gv,.int .i64 E])∧gra.GrV w' gv G∧Below w.heap.size w w'
set_option maxRecDepth 100000 in
set_option maxHeartbeats 2000000 in
theorem build_of (v:Value)(T:Tr)(G:gra.Gr)(E:Int)(w:World)(hM:Hid (Mx w))(h:Hid (TrV w v T))(hn:cnt T.body≤2000000000000)(hok:Hid (okL T.body))(hG:Hid (buildC T=(G,E))) :
    Calls Tryz.prog 10 #[v] w (BldOut G E w):=by
 obtain ⟨bv,rfl,hnm,hs⟩:=h.out
 obtain ⟨vo,tc,rfl,-,-,-⟩:=id hs
 obtain ⟨R,hR⟩:∃ R,validT T=R:=⟨_,rfl⟩
 have hb1:=al2 w (.cells #[.string (bb T.name),.bool T.dir,.slice vo T.body.length tc] 24) (.cells #[.string ⟨#[]⟩,.bool false,.slice none 0 0,.slice none 0 0,.slice none 0 0] 31)
 have HT1:=Lh (h.out.keep hb1)
 have HS1:=Lh (hs.keep hb1)
 have HB1:=Lh hb1
 have HR:=Lh hR
 have HTB:Hid (blk ((w.alloc (.cells #[.string (bb T.name),.bool T.dir,.slice vo T.body.length tc] 24)).alloc (.cells #[.string ⟨#[]⟩,.bool false,.slice none 0 0,.slice none 0 0,.slice none 0 0] 31)) w.heap.size 24 #[.string (bb T.name),.bool T.dir,.slice vo T.body.length tc]):=Lh (by
  have h:=al1 (w.alloc (.cells #[.string (bb T.name),.bool T.dir,.slice vo T.body.length tc] 24)) (.cells #[.string ⟨#[]⟩,.bool false,.slice none 0 0,.slice none 0 0,.slice none 0 0] 31)
  unfold att.blk
  rw [h.block _ (by simp)]
  exact blk_new w #[.string (bb T.name),.bool T.dir,.slice vo T.body.length tc] 24)
 have HGB:Hid (gbx ((w.alloc (.cells #[.string (bb T.name),.bool T.dir,.slice vo T.body.length tc] 24)).alloc (.cells #[.string ⟨#[]⟩,.bool false,.slice none 0 0,.slice none 0 0,.slice none 0 0] 31)) (w.heap.size+1)):=Lh (by
  have h:=blk_new (w.alloc (.cells #[.string (bb T.name),.bool T.dir,.slice vo T.body.length tc] 24)) #[.string ⟨#[]⟩,.bool false,.slice none 0 0,.slice none 0 0,.slice none 0 0] 31
  rwa [World.size_alloc] at h)
 have HNM:=Lh hnm
 have hb:=hG.out
 unfold buildC at hb
 rw [hR] at hb
 have HB:=Lh hb
 have HMx:=hM
 have x0:((w.alloc (.cells #[.string (bb T.name),.bool T.dir,.slice vo T.body.length tc] 24)).alloc (.cells #[.string ⟨#[]⟩,.bool false,.slice none 0 0,.slice none 0 0,.slice none 0 0] 31)).cell? ⟨w.heap.size,0,none⟩=some (.string (bb T.name)):=by rw [blk_cell HTB.out];rfl
 have x1:((w.alloc (.cells #[.string (bb T.name),.bool T.dir,.slice vo T.body.length tc] 24)).alloc (.cells #[.string ⟨#[]⟩,.bool false,.slice none 0 0,.slice none 0 0,.slice none 0 0] 31)).cell? ⟨w.heap.size,1,none⟩=some (.bool T.dir):=by rw [blk_cell HTB.out];rfl
 have x2:((w.alloc (.cells #[.string (bb T.name),.bool T.dir,.slice vo T.body.length tc] 24)).alloc (.cells #[.string ⟨#[]⟩,.bool false,.slice none 0 0,.slice none 0 0,.slice none 0 0] 31)).cell? ⟨w.heap.size,2,none⟩=some (.slice vo T.body.length tc):=by rw [blk_cell HTB.out];rfl
 clear hb1 hs h hR hb hG hnm hM
 go_enter Tryz.func10,Tryz.ntmps10
 go_wp2_with fail
 generalize (w.alloc (.cells #[.string (bb T.name),.bool T.dir,.slice vo T.body.length tc] 24)).alloc (.cells #[.string ⟨#[]⟩,.bool false,.slice none 0 0,.slice none 0 0,.slice none 0 0] 31)=w1 at *
 clear x0 x1 x2
 refine (valid_of _ T R w1 HT1 hn HR).mono ?_
 rintro e w2 ⟨rfl,hb2⟩
 have HS2:=Lh (HS1.out.keep hb2)
 have HB2:=Lh (below_keep hb2 HB1.out)
 have HTB2:=Lh (blk_below HTB.out hb2)
 have HGB2:=Lh (blk_below HGB.out hb2)
 have g0:w2.cell? ⟨w.heap.size+1,0,none⟩=some (.string ⟨#[]⟩):=by rw [blk_cell HGB2.out];rfl
 have g1:w2.cell? ⟨w.heap.size+1,1,none⟩=some (.bool false):=by rw [blk_cell HGB2.out];rfl
 have g2:w2.cell? ⟨w.heap.size+1,2,none⟩=some (.slice none 0 0):=by rw [blk_cell HGB2.out];rfl
 have g3:w2.cell? ⟨w.heap.size+1,3,none⟩=some (.slice none 0 0):=by rw [blk_cell HGB2.out];rfl
 have g4:w2.cell? ⟨w.heap.size+1,4,none⟩=some (.slice none 0 0):=by rw [blk_cell HGB2.out];rfl
 have f0:=blk_open HGB2.out 0
 have f1:=blk_open HGB2.out 1
 have f2:=blk_open HGB2.out 2
 have f3:=blk_open HGB2.out 3
 have f4:=blk_open HGB2.out 4
 have HMX2:=mxh HMx HB2.out
 clear hb2 HT1 HS1 HTB HGB
 by_cases hz:R=0
 case neg =>
  have bR:(R != 0)=true:=by rw [bne_iff_ne];exact hz
  have HE:Hid (G=emG∧E=R):=Lh (by have h:=HB.out;rw [if_pos hz] at h;exact ⟨(Prod.mk.inj h).1.symm,(Prod.mk.inj h).2.symm⟩)
  clear hz
  go_wp2
  have hgx:=gbx_set HGB2.out (.string ⟨#[]⟩) (.bool false) (.slice none 0 0) (.slice none 0 0) (.slice none 0 0)
  obtain ⟨r0,r1,r2,r3,r4⟩:=gcl hgx
  refine bodyPost_ret (v:=.tuple #[.agg #[.string ⟨#[]⟩,.bool false,.slice none 0 0,.slice none 0 0,.slice none 0 0],.int .i64 R]) (by simp [results,Tryz.results10,go_sem,r0,r1,r2,r3,r4]) rfl ?_
  obtain ⟨rfl,rfl⟩:=HE.out
  exact ⟨_,rfl,em_grv _,below_set5 HB2.out (by omega) _ _ _ _ _⟩
 subst hz
 have hv0:validT T=0:=HR.out
 have HG2:Hid ((if (blkC T.body pl0 bs0).2≠0 then (emG,(blkC T.body pl0 bs0).2) else if (addC (endN (ndC' (blkC T.body pl0 bs0).1) 0 em0) (blkC T.body pl0 bs0).1.ch []).2=false then (emG,5) else if gra.validE (finC T.name T.dir (blkC T.body pl0 bs0).1)≠0 then (emG,gra.validE (finC T.name T.dir (blkC T.body pl0 bs0).1)) else (finC T.name T.dir (blkC T.body pl0 bs0).1,0))=(G,E)):=Lh (by have h:=HB.out;rw [if_neg (by simp)] at h;exact h)
 have hoB:okB T.body:=okB_of hv0 hok.out
 have hcnt:cnt T.body≤512:=((valid_iff T).1 hv0).2.1
 have hsz0:sz bs0+42*cnt T.body≤100000:=by unfold sz bs0;simp only [List.length_nil];omega
 obtain ⟨S',hS'⟩:∃ S',(blkC T.body pl0 bs0).1=S':=⟨_,rfl⟩
 obtain ⟨E',hE'⟩:∃ E',(blkC T.body pl0 bs0).2=E':=⟨_,rfl⟩
 have hBC:blkC T.body pl0 bs0=(S',E'):=by rw [← hS',← hE']
 have HBC:=Lh hBC
 have hga0:GaS bs0:=⟨fun a ha=>(by cases ha),fun c hc=>(by cases hc)⟩
 have hgp0:GaP pl0:=⟨Ga.nil 1,Ga.nil 2⟩
 have HGA:Hid (GaS S'):=Lh (by rw [← hS'];exact blk_Ga.2 T.body pl0 bs0 hoB hgp0 hga0)
 have HNMS:Hid (NmS S'):=Lh (by rw [← hS'];exact blk_NmS.2 T.body pl0 bs0 hoB ⟨fun a ha=>(by cases ha),fun c hc=>(by cases hc)⟩)
 have HWF:Hid (WfS S'):=Lh (by rw [← hS'];exact blk_WfS.2 T.body pl0 bs0 hoB hsz0 ⟨by decide,by decide⟩ ⟨fun a ha=>(by cases ha),fun c hc=>(by cases hc)⟩)
 have HLEN:Hid (S'.ns.length=S'.ats.length):=Lh (by rw [← hS'];exact blkC_len.2 T.body pl0 bs0 rfl)
 have hszS:sz S'≤100000:=by have:=blk_sz.2 T.body pl0 bs0 hoB;rw [hS'] at this;omega
 have hnsl:S'.ns.length≤100000:=by unfold sz at hszS;omega
 have hchl:S'.ch.length≤100000:=by unfold sz at hszS;omega
 rw [hBC] at HG2
 simp only at HG2
 have HOB:=Lh hoB
 have HSZ0:=Lh hsz0
 have HGP0:=Lh hgp0
 have HGA0:=Lh hga0
 clear hS' hE' hBC hoB hsz0 hgp0 hga0 hszS hv0 HB HR g0 g1 g2 g3 g4 f0 f1 f2 f3 f4 hcnt
 have y0:w2.cell? ⟨w.heap.size,0,none⟩=some (.string (bb T.name)):=by rw [blk_cell HTB2.out];rfl
 have y1:w2.cell? ⟨w.heap.size,1,none⟩=some (.bool T.dir):=by rw [blk_cell HTB2.out];rfl
 have hb3:=al3 w2 (.map #[] 0) (.map #[] 0) (.cells #[.string (bb T.name),.bool T.dir,.slice none 0 0,.slice none 0 0,.slice none 0 0,.slice none 0 0,.map (some w2.heap.size),.map (some (w2.heap.size+1)),.slice none 0 0] 67)
 have hmm:=@run_makeMap Tryz.prog
 have HBD:Hid (BdG w2 (((w2.alloc (.map #[] 0)).alloc (.map #[] 0)).alloc (.cells #[.string (bb T.name),.bool T.dir,.slice none 0 0,.slice none 0 0,.slice none 0 0,.slice none 0 0,.map (some w2.heap.size),.map (some (w2.heap.size+1)),.slice none 0 0] 67)) (w2.heap.size+1+1) T.name T.dir bs0.g ⟨.slice none 0 0,.slice none 0 0,.slice none 0 0,.slice none 0 0,w2.heap.size,w2.heap.size+1,[],[]⟩):=Lh (by
  refine ⟨by omega,hb3,?_,World.ownsRow_nil ..,World.ownsRow_nil ..,World.ownsRow_nil ..,World.ownsRow_nil ..,rfl,fun i hi=>absurd hi (by simp),rfl,fun i hi=>absurd hi (by simp),?_,?_,Nat.le_refl _,by simp only;omega,by simp only;omega⟩
  ·have h:=blk_new ((w2.alloc (.map #[] 0)).alloc (.map #[] 0)) #[.string (bb T.name),.bool T.dir,.slice none 0 0,.slice none 0 0,.slice none 0 0,.slice none 0 0,.map (some w2.heap.size),.map (some (w2.heap.size+1)),.slice none 0 0] 67
   rw [World.size_alloc,World.size_alloc] at h
   exact h
  ·refine ⟨.map [],?_⟩
   have h:=((mAt_made (.int .i64 0) w2).keep (al1 _ (.map #[] 0))).keep (al1 _ (.cells #[.string (bb T.name),.bool T.dir,.slice none 0 0,.slice none 0 0,.slice none 0 0,.slice none 0 0,.map (some w2.heap.size),.map (some (w2.heap.size+1)),.slice none 0 0] 67))
   exact h
  ·refine ⟨.map [],?_⟩
   have h:=(mAt_made (.bool false) (w2.alloc (.map #[] 0))).keep (al1 _ (.cells #[.string (bb T.name),.bool T.dir,.slice none 0 0,.slice none 0 0,.slice none 0 0,.slice none 0 0,.map (some w2.heap.size),.map (some (w2.heap.size+1)),.slice none 0 0] 67))
   rw [World.size_alloc] at h
   exact h)
 have HB3:=Lh (below_keep hb3 HB2.out)
 have HGB3:=Lh (blk_below HGB2.out hb3)
 have z2:(((w2.alloc (.map #[] 0)).alloc (.map #[] 0)).alloc (.cells #[.string (bb T.name),.bool T.dir,.slice none 0 0,.slice none 0 0,.slice none 0 0,.slice none 0 0,.map (some w2.heap.size),.map (some (w2.heap.size+1)),.slice none 0 0] 67)).cell? ⟨w.heap.size,2,none⟩=some (.slice vo T.body.length tc):=by rw [blk_cell (blk_below HTB2.out hb3)];rfl
 have hsw:w.heap.size+1 < w2.heap.size:=heap_lt HGB2.out
 have HB2X:=HB2
 clear hb3
 go_wp2_with fail
 clear hmm y0 y1 z2
 generalize ((w2.alloc (.map #[] 0)).alloc (.map #[] 0)).alloc (.cells #[.string (bb T.name),.bool T.dir,.slice none 0 0,.slice none 0 0,.slice none 0 0,.slice none 0 0,.map (some w2.heap.size),.map (some (w2.heap.size+1)),.slice none 0 0] 67)=w3 at *
 obtain ⟨b,hbq⟩:∃ b,w2.heap.size+1+1=b:=⟨_,rfl⟩
 have hbl:w2.heap.size≤b:=by omega
 rw [hbq] at HBD
 simp only [hbq]
 clear hbq
 refine (BlkOk.use (Lh (blk_ok T.body)) w2 b T.name T.dir bs0 _ _ pl0 _ _ S' E' w3 HMX2 HBD (Lh (prsT_nil _)) (Lh (prsT_nil _)) HS2 HOB HSZ0 (Lh rfl) HGA0 HGP0 HBC).mono ?_
 rintro e w4 ⟨rfl,hst4,hold4,hx4⟩
 have HOLD4:=Lh hold4
 have HX4:=Lh hx4
 have HB4:=Lh (HB2.out.trans (hold4.mono HB2.out.size))
 have HGB4:=Lh (blk_below HGB2.out hold4)
 clear hst4 hold4 hx4 HBD HB3 HGB3 HB2 HTB2 HS2
 have g0:w4.cell? ⟨w.heap.size+1,0,none⟩=some (.string ⟨#[]⟩):=by rw [blk_cell HGB4.out];rfl
 have g1:w4.cell? ⟨w.heap.size+1,1,none⟩=some (.bool false):=by rw [blk_cell HGB4.out];rfl
 have g2:w4.cell? ⟨w.heap.size+1,2,none⟩=some (.slice none 0 0):=by rw [blk_cell HGB4.out];rfl
 have g3:w4.cell? ⟨w.heap.size+1,3,none⟩=some (.slice none 0 0):=by rw [blk_cell HGB4.out];rfl
 have g4:w4.cell? ⟨w.heap.size+1,4,none⟩=some (.slice none 0 0):=by rw [blk_cell HGB4.out];rfl
 have f0:=blk_open HGB4.out 0
 have f1:=blk_open HGB4.out 1
 have f2:=blk_open HGB4.out 2
 have f3:=blk_open HGB4.out 3
 have f4:=blk_open HGB4.out 4
 by_cases hz:E'=0
 case neg =>
  have bR:(E' != 0)=true:=by rw [bne_iff_ne];exact hz
  have HE:Hid (G=emG∧E=E'):=Lh (by have h:=HG2.out;rw [if_pos hz] at h;exact ⟨(Prod.mk.inj h).1.symm,(Prod.mk.inj h).2.symm⟩)
  clear hz
  go_wp2
  have hgx:=gbx_set HGB4.out (.string ⟨#[]⟩) (.bool false) (.slice none 0 0) (.slice none 0 0) (.slice none 0 0)
  obtain ⟨r0,r1,r2,r3,r4⟩:=gcl hgx
  refine bodyPost_ret (v:=.tuple #[.agg #[.string ⟨#[]⟩,.bool false,.slice none 0 0,.slice none 0 0,.slice none 0 0],.int .i64 E']) (by simp [results,Tryz.results10,go_sem,r0,r1,r2,r3,r4]) rfl ?_
  obtain ⟨rfl,rfl⟩:=HE.out
  exact ⟨_,rfl,em_grv _,below_set5 HB4.out (by omega) _ _ _ _ _⟩
 subst hz
 obtain ⟨x4,hbd4⟩:=HX4.out rfl
 have HF4:=Lh hbd4.fin
 clear hbd4 HX4 g0 g1 g2 g3 g4 f0 f1 f2 f3 f4
 go_wp2_with fail
 refine (setnodes_of w2 b T.name T.dir S' x4 w4 HMX2 HF4 hnsl HLEN HGA).mono ?_
 rintro e w5 ⟨rfl,L,hf5,hL⟩
 have HF5:=Lh hf5
 have HL:=Lh hL
 have HB5:=Lh ((below_keep (Below.refl _ _) HB2X.out).trans (hf5.old.mono HB2X.out.size))
 clear hf5 hL HF4
 obtain ⟨RS,hRS⟩:∃ RS,addC (endN (ndC' S') 0 em0) S'.ch []=RS:=⟨_,rfl⟩
 have HRS:=Lh hRS
 have hndl:(ndC' S').length≤100000:=by rw [nd_len S' HLEN.out];exact hnsl
 have hLl:L.length≤100000:=by rw [← List.length_map (f:=fun y:gra.Nd × Value=>y.1),HL.out];exact hndl
 have HSH:Hid (ShN (ndC' S')):=Lh (nd_small HNMS.out)
 have HWE:Hid (∀ e∈RS.1,WfD e):=Lh (by
  rw [← hRS]
  exact add_wf (WfE.ns _ 0 _ WfE.zero (by omega) fun x hx=>(nd_small HNMS.out x hx).2.1) S'.ch [] HGA.out.2 (fun e he=>by cases he))
 have HWN:Hid (∀ x∈ndC' S',WfN x):=Lh (nd_wf HNMS.out HWF.out HGA.out)
 have hfc:finC T.name T.dir S'=⟨T.name,T.dir,ndC' S',RS.1,S'.cs⟩:=by unfold finC;rw [hRS]
 have HG3:Hid ((if RS.2=false then (emG,5) else if gra.validE ⟨T.name,T.dir,ndC' S',RS.1,S'.cs⟩≠0 then (emG,gra.validE ⟨T.name,T.dir,ndC' S',RS.1,S'.cs⟩) else (⟨T.name,T.dir,ndC' S',RS.1,S'.cs⟩,0))=(G,E)):=Lh (by have h:=HG2.out;rw [if_neg (by simp),hRS,hfc] at h;exact h)
 clear hRS hndl hfc HG2
 go_wp2_with fail
 refine (addedges_of w2 b T.name T.dir S' L x4 (ndC' S') _ RS w5 HF5 HL HSH hLl hchl (Lh rfl) HNMS HGA HRS).mono ?_
 rintro e w6 ⟨rfl,hold6,hx6⟩
 have HB6:=Lh (HB2X.out.trans (hold6.mono HB2X.out.size))
 have HGB6:=Lh (blk_below HGB2.out hold6)
 have HX6:=Lh hx6
 clear hold6 hx6 HF5 HB5
 have g0:w6.cell? ⟨w.heap.size+1,0,none⟩=some (.string ⟨#[]⟩):=by rw [blk_cell HGB6.out];rfl
 have g1:w6.cell? ⟨w.heap.size+1,1,none⟩=some (.bool false):=by rw [blk_cell HGB6.out];rfl
 have g2:w6.cell? ⟨w.heap.size+1,2,none⟩=some (.slice none 0 0):=by rw [blk_cell HGB6.out];rfl
 have g3:w6.cell? ⟨w.heap.size+1,3,none⟩=some (.slice none 0 0):=by rw [blk_cell HGB6.out];rfl
 have g4:w6.cell? ⟨w.heap.size+1,4,none⟩=some (.slice none 0 0):=by rw [blk_cell HGB6.out];rfl
 have f0:=blk_open HGB6.out 0
 have f1:=blk_open HGB6.out 1
 have f2:=blk_open HGB6.out 2
 have f3:=blk_open HGB6.out 3
 have f4:=blk_open HGB6.out 4
 obtain ⟨es,rb⟩:=RS
 cases rb
 case false =>
  have HE:Hid (G=emG∧E=5):=Lh (by have h:=HG3.out;rw [if_pos rfl] at h;exact ⟨(Prod.mk.inj h).1.symm,(Prod.mk.inj h).2.symm⟩)
  go_wp2
  have hgx:=gbx_set HGB6.out (.string ⟨#[]⟩) (.bool false) (.slice none 0 0) (.slice none 0 0) (.slice none 0 0)
  obtain ⟨r0,r1,r2,r3,r4⟩:=gcl hgx
  refine bodyPost_ret (v:=.tuple #[.agg #[.string ⟨#[]⟩,.bool false,.slice none 0 0,.slice none 0 0,.slice none 0 0],.int .i64 5]) (by simp [results,Tryz.results10,go_sem,r0,r1,r2,r3,r4]) rfl ?_
  obtain ⟨rfl,rfl⟩:=HE.out
  exact ⟨_,rfl,em_grv _,below_set5 HB6.out (by omega) _ _ _ _ _⟩
 obtain ⟨ev,hf6⟩:=HX6.out rfl
 simp only at hf6
 obtain ⟨nv,cv,av,hv,mb,kb',avs,hvs⟩:=x4
 obtain ⟨no,nc,hnv,-,-⟩:=own_form hf6.fr
 obtain ⟨eo,ec,hev,-,-⟩:=own_form hf6.er
 obtain ⟨co,cc,hcv,-,-⟩:=own_form hf6.cr
 simp only at hnv hcv
 subst hnv hev hcv
 have k0:w6.cell? ⟨b,0,none⟩=some (.string (bb T.name)):=by rw [blk_cell hf6.box];rfl
 have k1:w6.cell? ⟨b,1,none⟩=some (.bool T.dir):=by rw [blk_cell hf6.box];rfl
 have k2:w6.cell? ⟨b,2,none⟩=some (.slice no L.length nc):=by rw [blk_cell hf6.box];rfl
 have k3:w6.cell? ⟨b,3,none⟩=some (.slice eo es.length ec):=by rw [blk_cell hf6.box];rfl
 have k4:w6.cell? ⟨b,4,none⟩=some (.slice co S'.cs.length cc):=by rw [blk_cell hf6.box];rfl
 have hgr6:GrR w6 w2.heap.size S' L (.slice no L.length nc) (.slice eo es.length ec) (.slice co S'.cs.length cc) es:=⟨hf6.fr,hf6.er,hf6.cr,hf6.pv⟩
 have HGR6:=Lh hgr6
 have HGV:Hid (gra.GrV w6 (.agg #[.string (bb T.name),.bool T.dir,.slice no L.length nc,.slice eo es.length ec,.slice co S'.cs.length cc]) ⟨T.name,T.dir,ndC' S',es,S'.cs⟩):=Lh (hgr6.graph HNM.out HL.out HWN.out HWE.out HWF.out.2)
 have HBOX6:=Lh hf6.box
 obtain ⟨V,hV⟩:∃ V,gra.validE ⟨T.name,T.dir,ndC' S',es,S'.cs⟩=V:=⟨_,rfl⟩
 have HV:=Lh hV
 have HG4:Hid ((if V≠0 then (emG,V) else (⟨T.name,T.dir,ndC' S',es,S'.cs⟩,0))=(G,E)):=Lh (by have h:=HG3.out;rw [if_neg (by simp)] at h;rw [← hV];exact h)
 clear hgr6 hf6 HX6 hV HG3 g0 g1 g2 g3 g4 f0 f1 f2 f3 f4
 go_wp2_with fail
 refine (gra.cvalid_of _ _ V w6 HGV HV).mono ?_
 rintro e w7 ⟨rfl,hb7⟩
 have HB7:=Lh (below_keep hb7 HB6.out)
 have HGB7:=Lh (blk_below HGB6.out hb7)
 have HGR7:=Lh (HGR6.out.below hb7)
 replace k0:=cell_keep hb7 k0
 replace k1:=cell_keep hb7 k1
 replace k2:=cell_keep hb7 k2
 replace k3:=cell_keep hb7 k3
 replace k4:=cell_keep hb7 k4
 clear hb7 HGV HGR6 HB6 HGB6
 have g0:w7.cell? ⟨w.heap.size+1,0,none⟩=some (.string ⟨#[]⟩):=by rw [blk_cell HGB7.out];rfl
 have g1:w7.cell? ⟨w.heap.size+1,1,none⟩=some (.bool false):=by rw [blk_cell HGB7.out];rfl
 have g2:w7.cell? ⟨w.heap.size+1,2,none⟩=some (.slice none 0 0):=by rw [blk_cell HGB7.out];rfl
 have g3:w7.cell? ⟨w.heap.size+1,3,none⟩=some (.slice none 0 0):=by rw [blk_cell HGB7.out];rfl
 have g4:w7.cell? ⟨w.heap.size+1,4,none⟩=some (.slice none 0 0):=by rw [blk_cell HGB7.out];rfl
 have f0:=blk_open HGB7.out 0
 have f1:=blk_open HGB7.out 1
 have f2:=blk_open HGB7.out 2
 have f3:=blk_open HGB7.out 3
 have f4:=blk_open HGB7.out 4
 by_cases hz:V=0
 case neg =>
  have bR:(V != 0)=true:=by rw [bne_iff_ne];exact hz
  have HE:Hid (G=emG∧E=V):=Lh (by have h:=HG4.out;rw [if_pos hz] at h;exact ⟨(Prod.mk.inj h).1.symm,(Prod.mk.inj h).2.symm⟩)
  clear hz k0 k1 k2 k3 k4
  go_wp2
  have hgx:=gbx_set HGB7.out (.string ⟨#[]⟩) (.bool false) (.slice none 0 0) (.slice none 0 0) (.slice none 0 0)
  obtain ⟨r0,r1,r2,r3,r4⟩:=gcl hgx
  refine bodyPost_ret (v:=.tuple #[.agg #[.string ⟨#[]⟩,.bool false,.slice none 0 0,.slice none 0 0,.slice none 0 0],.int .i64 V]) (by simp [results,Tryz.results10,go_sem,r0,r1,r2,r3,r4]) rfl ?_
  obtain ⟨rfl,rfl⟩:=HE.out
  exact ⟨_,rfl,em_grv _,below_set5 HB7.out (by omega) _ _ _ _ _⟩
 subst hz
 have HE:Hid (G=⟨T.name,T.dir,ndC' S',es,S'.cs⟩∧E=0):=Lh (by have h:=HG4.out;rw [if_neg (by simp)] at h;exact ⟨(Prod.mk.inj h).1.symm,(Prod.mk.inj h).2.symm⟩)
 go_wp2
 have hgx:=gbx_set HGB7.out (.string (bb T.name)) (.bool T.dir) (.slice no L.length nc) (.slice eo es.length ec) (.slice co S'.cs.length cc)
 have hgr:=HGR7.out.set5 HGB7.out (.string (bb T.name)) (.bool T.dir) (.slice no L.length nc) (.slice eo es.length ec) (.slice co S'.cs.length cc)
 obtain ⟨r0,r1,r2,r3,r4⟩:=gcl hgx
 refine bodyPost_ret (v:=.tuple #[.agg #[.string (bb T.name),.bool T.dir,.slice no L.length nc,.slice eo es.length ec,.slice co S'.cs.length cc],.int .i64 0]) (by simp [results,Tryz.results10,go_sem,r0,r1,r2,r3,r4]) rfl ?_
 obtain ⟨rfl,rfl⟩:=HE.out
 exact ⟨_,rfl,hgr.graph HNM.out HL.out HWN.out HWE.out HWF.out.2,below_set5 HB7.out (by omega) _ _ _ _ _⟩
end Go.Proofs.YtcdoicgbjoikkaaGreatDoor.nor
