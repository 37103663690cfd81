/-
  Contracts and plain facts of the layers below; conditions as each theorem states them.
-/
import Derived.Test.YtgmidodmmlmmeaaGreatDoorMnf
namespace Go.Proofs.YtgmidodmmlmmeaaGreatDoor.nor
open Go.RowKit lex tre att
def gbk (W:World)(B:Nat):Prop:=∃ (s:ByteArray) (b:Bool) (o1 o2 o3:Option Addr) (n1 c1 n2 c2 n3 c3:Nat),blk W B 26 #[.string s,.bool b,.slice o1 n1 c1,.slice o2 n2 c2,.slice o3 n3 c3]
theorem yjd {W:World}{B o:Nat}{n:Int}(h:gbk W B)(hc:W.cell? ⟨B,o,none⟩=some (.int .i64 n)):False:=by
 obtain⟨s,b,o1,o2,o3,n1,c1,n2,c2,n3,c3,h⟩:=h;rw[yd h] at hc
 match o,hc with
 | 0,hc=>simp at hc
 | 1,hc=>simp at hc
 | 2,hc=>simp at hc
 | 3,hc=>simp at hc
 | 4,hc=>simp at hc
 | (k+5),hc=>simp at hc
theorem ya1 {W:World}{A:Addr}{B o:Nat}{u:Value}(h:A.block≠B):(W.setCell ⟨B,o,none⟩ u).cell? A=W.cell? A:=by
 unfold World.cell?;rw[Below.heap_setCell _ _ _ _ (show A.block≠B from h)]
theorem ytU {W:World}{A:Addr}{r:gra.Pt}{B:Nat}(hB:gbk W B)(h:gra.ptAt W A r):A.block≠B:=by
 rintro rfl;obtain⟨h0,h1,-⟩:=h;exact yjd hB h1
theorem ytV {W:World}{A:Addr}{x:gra.Nd}{B:Nat}(hB:gbk W B)(h:gra.ndAt W A x):A.block≠B:=by
 rintro rfl;obtain⟨h0,h1,h2,-⟩:=h;exact yjd hB h2
theorem ytW {W:World}{A:Addr}{x:gra.Ed}{B:Nat}(hB:gbk W B)(h:gra.edAt W A x):A.block≠B:=by
 rintro rfl;obtain⟨h0,h1,-⟩:=h;exact yjd hB h1
theorem ykz {α:Type}{c:Nat}{P:World->Addr->α->Prop}{W W':World}(hP:∀ A x,P W A x->P W' A x){v:Value}{l:List α}(h:gra.Rw c P W v l):gra.Rw c P W' v l:=by
 obtain⟨ao,cap,rfl,hc,hm,hA⟩:=h;exact⟨ao,cap,rfl,hc,hm,fun hn=>by obtain⟨A,rfl,h2⟩:=hA hn;exact⟨A,rfl,fun i hi=>hP _ _ (h2 i hi)⟩⟩
theorem yfE {W:World}{B o:Nat}{u gv:Value}{G:gra.Gr}(hB:gbk W B)(h:gra.GrV W gv G):gra.GrV (W.setCell ⟨B,o,none⟩ u) gv G:=by
 obtain⟨nv,ev,cv,rfl,hm,h1,h2,h3⟩:=h
 have hpt:∀ A r,gra.ptAt W A r->gra.ptAt (W.setCell ⟨B,o,none⟩ u) A r:=fun A r h=>by
  have hf:=ytU hB h;obtain⟨q0,q1,q2⟩:=h;exact⟨by rw[ya1 hf];exact q0,by rw[ya1 (A:=⟨A.block,A.off+1,none⟩) hf];exact q1,q2⟩
 refine⟨nv,ev,cv,rfl,hm,ykz (fun A x h=>?_) h1,ykz (fun A x h=>?_) h2,ykz hpt h3⟩
 ·have hf:=ytV hB h
  obtain⟨q0,q1,q2,q3,q4,⟨pv,q5,q6⟩,q7⟩:=h;exact⟨by rw[ya1 hf];exact q0,by rw[ya1 (A:=⟨A.block,A.off+1,none⟩) hf];exact q1,by rw[ya1 (A:=⟨A.block,A.off+2,none⟩) hf];exact q2,by rw[ya1 (A:=⟨A.block,A.off+3,none⟩) hf];exact q3,by rw[ya1 (A:=⟨A.block,A.off+4,none⟩) hf];exact q4,⟨pv,by rw[ya1 (A:=⟨A.block,A.off+5,none⟩) hf];exact q5,ykz hpt q6⟩,q7⟩
 ·have hf:=ytW hB h
  obtain⟨q0,q1,q2,q3,q4,q5,q6,q7⟩:=h;exact⟨by rw[ya1 hf];exact q0,by rw[ya1 (A:=⟨A.block,A.off+1,none⟩) hf];exact q1,by rw[ya1 (A:=⟨A.block,A.off+2,none⟩) hf];exact q2,by rw[ya1 (A:=⟨A.block,A.off+3,none⟩) hf];exact q3,by rw[ya1 (A:=⟨A.block,A.off+4,none⟩) hf];exact q4,by rw[ya1 (A:=⟨A.block,A.off+5,none⟩) hf];exact q5,by rw[ya1 (A:=⟨A.block,A.off+6,none⟩) hf];exact q6,q7⟩
theorem ynA {W:World}{B:Nat}{nm:ByteArray}{d:Bool}{o1 o2 o3:Option Addr}{n1 c1 n2 c2 n3 c3:Nat}{gv:Value}{G:gra.Gr}(h:gbx W B)(hg:gra.GrV W gv G) :
    gra.GrV (((((W.setCell ⟨B,0,none⟩ (.string nm)).setCell ⟨B,1,none⟩ (.bool d)).setCell ⟨B,2,none⟩ (.slice o1 n1 c1)).setCell ⟨B,3,none⟩ (.slice o2 n2 c2)).setCell ⟨B,4,none⟩ (.slice o3 n3 c3)) gv G /\
    gra.gat (((((W.setCell ⟨B,0,none⟩ (.string nm)).setCell ⟨B,1,none⟩ (.bool d)).setCell ⟨B,2,none⟩ (.slice o1 n1 c1)).setCell ⟨B,3,none⟩ (.slice o2 n2 c2)).setCell ⟨B,4,none⟩ (.slice o3 n3 c3)) B nm d (.slice o1 n1 c1) (.slice o2 n2 c2) (.slice o3 n3 c3):=by
 have h0:blk (W.setCell ⟨B,0,none⟩ (.string nm)) B 26 #[.string nm,.bool false,.slice none 0 0,.slice none 0 0,.slice none 0 0]:=yg (o:=0) h (.string nm);have h1:blk ((W.setCell ⟨B,0,none⟩ (.string nm)).setCell ⟨B,1,none⟩ (.bool d)) B 26 #[.string nm,.bool d,.slice none 0 0,.slice none 0 0,.slice none 0 0]:=yg (o:=1) h0 (.bool d);have h2:blk (((W.setCell ⟨B,0,none⟩ (.string nm)).setCell ⟨B,1,none⟩ (.bool d)).setCell ⟨B,2,none⟩ (.slice o1 n1 c1)) B 26 #[.string nm,.bool d,.slice o1 n1 c1,.slice none 0 0,.slice none 0 0]:=yg (o:=2) h1 (.slice o1 n1 c1);have h3:blk ((((W.setCell ⟨B,0,none⟩ (.string nm)).setCell ⟨B,1,none⟩ (.bool d)).setCell ⟨B,2,none⟩ (.slice o1 n1 c1)).setCell ⟨B,3,none⟩ (.slice o2 n2 c2)) B 26 #[.string nm,.bool d,.slice o1 n1 c1,.slice o2 n2 c2,.slice none 0 0]:=yg (o:=3) h2 (.slice o2 n2 c2);have h4:=ycO h (.string nm) (.bool d) (.slice o1 n1 c1) (.slice o2 n2 c2) (.slice o3 n3 c3);refine⟨yfE ⟨_,_,_,_,_,_,_,_,_,_,_,h3⟩ (yfE ⟨_,_,_,_,_,_,_,_,_,_,_,h2⟩ (yfE ⟨_,_,_,_,_,_,_,_,_,_,_,h1⟩ (yfE ⟨_,_,_,_,_,_,_,_,_,_,_,h0⟩ (yfE ⟨_,_,_,_,_,_,_,_,_,_,_,h⟩ hg)))),?_,?_,?_,?_,?_⟩
 ·rw[yd h4];rfl
 ·rw[yd h4];rfl
 ·rw[yd h4];rfl
 ·rw[yd h4];rfl
 ·rw[yd h4];rfl
end Go.Proofs.YtgmidodmmlmmeaaGreatDoor.nor
namespace Go.Proofs.YtgmidodmmlmmeaaGreatDoor.nor
open Go.RowKit lex tre att _root_.Go.Proofs.Tryz
set_option maxRecDepth 100000 in
set_option maxHeartbeats 4000000 in
theorem ygy (v:Value)(T:Tr)(G:gra.Gr)(E:Int)(w:World)(h:Hid (TrV w v T))(hn:cnt T.body<=1000000000000)(hok:Hid (yab T=0->wl T.body<=2900000))(hG:Hid (yb2 T=(G,E))) :
    Calls Tryz.prog 17 #[v] w (ynx G E w):=by
 obtain⟨bv,rfl,hnm,hs⟩:=h.out;obtain⟨vo,tc,rfl,-,-,-⟩:=id hs;obtain⟨V,hV⟩:∃ V,yab T=V:=⟨_,rfl⟩
 have hb1:=al2 w (.cells #[.string (bb T.name),.bool T.dir,.slice vo T.body.length tc] 33) (.cells #[.string ⟨#[]⟩,.bool false,.slice none 0 0,.slice none 0 0,.slice none 0 0] 26);have HT1:=Lh (h.out.keep hb1);have HS:=Lh hs;have HB1:=Lh hb1;have HV:=Lh hV;have HTB:Hid (blk ((w.alloc (.cells #[.string (bb T.name),.bool T.dir,.slice vo T.body.length tc] 33)).alloc (.cells #[.string ⟨#[]⟩,.bool false,.slice none 0 0,.slice none 0 0,.slice none 0 0] 26)) w.heap.size 33 #[.string (bb T.name),.bool T.dir,.slice vo T.body.length tc]):=Lh (ym (yl w #[.string (bb T.name),.bool T.dir,.slice vo T.body.length tc] 33) (al1 ..))
 have HGB:Hid (gbx ((w.alloc (.cells #[.string (bb T.name),.bool T.dir,.slice vo T.body.length tc] 33)).alloc (.cells #[.string ⟨#[]⟩,.bool false,.slice none 0 0,.slice none 0 0,.slice none 0 0] 26)) (w.heap.size+1)):=Lh (by
  have h:=yl (w.alloc (.cells #[.string (bb T.name),.bool T.dir,.slice vo T.body.length tc] 33)) #[.string ⟨#[]⟩,.bool false,.slice none 0 0,.slice none 0 0,.slice none 0 0] 26
  rwa [World.size_alloc] at h)
 have HNM:=Lh hnm;have hb:=hG.out;unfold yb2 at hb;rw[hV] at hb;have HB:=Lh hb;obtain⟨x0,x1,x2⟩:=b3c HTB.out;clear hb1 hs h hV hb hG hnm;go_enter func17,ntmps17;go_wp2_with fail
 generalize (w.alloc (.cells #[.string (bb T.name),.bool T.dir,.slice vo T.body.length tc] 33)).alloc (.cells #[.string ⟨#[]⟩,.bool false,.slice none 0 0,.slice none 0 0,.slice none 0 0] 26)=w1 at *;clear x0 x1 x2;refine(yfo _ T V w1 HT1 hn HV).mono ?_;rintro e w2 ⟨rfl,hb2⟩;have HB2:=Lh (ya hb2 HB1.out);have HTB2:=Lh (ym HTB.out hb2);have HGB2:=Lh (ym HGB.out hb2);clear hb2 HT1 HTB HGB;obtain⟨g0,g1,g2,g3,g4⟩:=b5c HGB2.out;have f0:=yi HGB2.out 0;have f1:=yi HGB2.out 1;have f2:=yi HGB2.out 2;have f3:=yi HGB2.out 3;have f4:=yi HGB2.out 4
 by_cases hz:V=0
 case neg =>
  have bR:(V != 0)=true:=by rw[bne_iff_ne];exact hz
  have HE:Hid (G=emG/\E=V):=Lh (by have h:=HB.out;rw[if_pos hz] at h;exact⟨(Prod.mk.inj h).1.symm,(Prod.mk.inj h).2.symm⟩);clear hz;go_wp2;have hgx:=ycO HGB2.out (.string ⟨#[]⟩) (.bool false) (.slice none 0 0) (.slice none 0 0) (.slice none 0 0);obtain⟨r0,r1,r2,r3,r4⟩:=gcl hgx;refine bodyPost_ret (v:=.tuple #[.agg #[.string ⟨#[]⟩,.bool false,.slice none 0 0,.slice none 0 0,.slice none 0 0],.int .i64 V]) (by simp[results,results17,go_sem,r0,r1,r2,r3,r4]) rfl ?_;obtain⟨rfl,rfl⟩:=HE.out;exact⟨_,rfl,yiC _,yaq HB2.out (by omega) _ _ _ _ _⟩
 subst hz;have hv0:yab T=0:=HV.out;have HV0:=Lh hv0;have hoB:=Lh (yqq hv0);have hcnt:cnt T.body<=512:=((yaO T).1 hv0).2.1;have hwl:=hok.out hv0;have HRM:Hid (Room st0 (wl T.body)):=Lh (by unfold Room st0;simp only[List.length_nil];omega);have HG2:Hid ((if (yX T.body pl0 st0).e≠0 then (emG,(yX T.body pl0 st0).e) else if yeT (yeS T.name T.dir (yX T.body pl0 st0))=true then (emG,5) else if gra.validE (yeS T.name T.dir (yX T.body pl0 st0))≠0 then (emG,gra.validE (yeS T.name T.dir (yX T.body pl0 st0))) else (yeS T.name T.dir (yX T.body pl0 st0),0))=(G,E)):=Lh (by have h:=HB.out;rw[if_neg (by simp)] at h;exact h);have HFO:Hid ((yX T.body pl0 st0).e=0->FinOk (yX T.body pl0 st0) (List.zipWith ygJ (yX T.body pl0 st0).ns (yX T.body pl0 st0).ats)):=Lh (fun he=>ytS hv0 hwl he);obtain⟨S',hS'⟩:∃ S',yX T.body pl0 st0=S':=⟨_,rfl⟩
 have HSS:=Lh hS';rw[hS'] at HG2 HFO;obtain⟨y0,y1⟩:=b2c HTB2.out;have hb3:=al1 w2 (.cells #[.string (bb T.name),.bool T.dir,.slice none 0 0,.slice none 0 0,.slice none 0 0,.slice none 0 0,.slice none 0 0,.int .i64 0] 101);have hbx:=yl w2 #[.string (bb T.name),.bool T.dir,.slice none 0 0,.slice none 0 0,.slice none 0 0,.slice none 0 0,.slice none 0 0,.int .i64 0] 101;have hsz:w.heap.size+1<w2.heap.size:=yax HGB2.out;have HBD:Hid (StB (w2.alloc (.cells #[.string (bb T.name),.bool T.dir,.slice none 0 0,.slice none 0 0,.slice none 0 0,.slice none 0 0,.slice none 0 0,.int .i64 0] 101)) w.heap.size w2.heap.size T.name T.dir st0 ⟨.slice none 0 0,.slice none 0 0,.slice none 0 0,.slice none 0 0,[],[]⟩):=Lh ⟨by omega,hbx,World.ownsRow_nil ..,World.ownsRow_nil ..,World.ownsRow_nil ..,World.ownsRow_nil ..,rfl,fun i hi=>absurd hi (by simp),rfl,fun y hy=>(by cases hy)⟩;have HB3:=Lh (ya hb3 HB2.out);have HTB3:=Lh (ym HTB2.out hb3);have HGB3:=Lh (ym HGB2.out hb3);have y2:=bc 2 HTB3.out;clear hS' hb3 hbx hv0 hcnt hwl HB HTB2 HGB2 g0 g1 g2 g3 g4 f0 f1 f2 f3 f4;go_wp2_with fail
 obtain⟨b,hb⟩:∃ b,w2.heap.size=b:=⟨_,rfl⟩
 rw[hb] at HBD hsz;simp only[hb];generalize w2.alloc (.cells #[.string (bb T.name),.bool T.dir,.slice none 0 0,.slice none 0 0,.slice none 0 0,.slice none 0 0,.slice none 0 0,.int .i64 0] 101)=w3 at *;clear y0 y1 y2 hb;refine(BlkR.use (Lh (ysu T.body)) w b T.name T.dir st0 _ _ pl0 _ _ S' w3 HBD HB3 (Lh rfl) (Lh (ykx w3)) (Lh (ykx w3)) HS hoB HRM (Lh ⟨fun a ha=>(by cases ha),fun c hc=>(by cases hc)⟩) (Lh ⟨Ga.nil 1,Ga.nil 2⟩) HSS).mono ?_;rintro e w4 ⟨rfl,x4,hs4,ht4,hb4⟩;have HS4:=Lh hs4;have HB4:=Lh (HB3.out.trans hb4);have HGB4:=Lh (ht4.blk HGB3.out rfl);have c7:w4.cell? ⟨b,7,none⟩=some (.int .i64 S'.e):=hs4.box.read.2.2.2.2;have hRb:w.heap.size+1≠b:=by omega
 clear hs4 ht4 hb4 HBD HB3 HTB3 HGB3 HSS HRM
 by_cases he:S'.e=0
 case neg =>
  have bE:(S'.e != 0)=true:=by rw[bne_iff_ne];exact he
  have HE:Hid (G=emG/\E=S'.e):=Lh (by have h:=HG2.out;rw[if_pos he] at h;exact⟨(Prod.mk.inj h).1.symm,(Prod.mk.inj h).2.symm⟩);clear he;obtain⟨E1,hE1⟩:∃ E1,S'.e=E1:=⟨_,rfl⟩
  rw[hE1] at c7 bE HE;clear hE1;go_wp2_with fail
  obtain⟨g0,g1,g2,g3,g4⟩:=b5c HGB4.out;have f0:=yi HGB4.out 0;have f1:=yi HGB4.out 1;have f2:=yi HGB4.out 2;have f3:=yi HGB4.out 3;have f4:=yi HGB4.out 4;refine wp_region_held_drew (S:=(fun W:World=>W.cell? ⟨b,7,none⟩=some (.int .i64 E1))) (by kernel_rfl) (yf c7) (fun hHeld=>?_);refine tk 0 29 (.agg #[.string ⟨#[]⟩,.bool false,.slice none 0 0,.slice none 0 0,.slice none 0 0]) ?_;refine tk 1 30 (.pointer (some ⟨b,0,none⟩)) ?_;refine tk 2 31 (.pointer (some ⟨b,0,none⟩)) ?_;refine tk 3 32 (.pointer (some ⟨b,7,none⟩)) ?_;refine tk 4 33 (.int .i64 E1) ?_
  try simp only[sA,sB,sC]
  refine wpAnyH_ready (rs:=[5]) (by kernel_rfl) (by simp) ?_;refine AllReadyH.cons rfl (fun K hK=>?_) AllReadyH.nil;go_simp;refine hK.out _ _ (yC (by simp only;omega) (yC (by simp only;omega) (yC (by simp only;omega) (yC (by simp only;omega) (yC (by simp only;omega) (yf c7)))))) (fun hHeld=>?_);clear hK K
  try simp only[sA,sB,sC]
  refine tk 6 3 (.int .i64 E1) ?_
  try simp only[sA,sB,sC]
  refine wpAnyH_done (by kernel_rfl) ?_ _;go_wp2;obtain⟨rfl,rfl⟩:=HE.out;have hgx:=ycO HGB4.out (.string ⟨#[]⟩) (.bool false) (.slice none 0 0) (.slice none 0 0) (.slice none 0 0);have r0:=yf (show (((((w4.setCell ⟨w.heap.size+1,0,none⟩ (.string ⟨#[]⟩)).setCell ⟨w.heap.size+1,1,none⟩ (.bool false)).setCell ⟨w.heap.size+1,2,none⟩ (.slice none 0 0)).setCell ⟨w.heap.size+1,3,none⟩ (.slice none 0 0)).setCell ⟨w.heap.size+1,4,none⟩ (.slice none 0 0)).cell? ⟨w.heap.size+1,0,none⟩=some (.string ⟨#[]⟩) by rw[yd hgx];rfl);have r1:=yf (show (((((w4.setCell ⟨w.heap.size+1,0,none⟩ (.string ⟨#[]⟩)).setCell ⟨w.heap.size+1,1,none⟩ (.bool false)).setCell ⟨w.heap.size+1,2,none⟩ (.slice none 0 0)).setCell ⟨w.heap.size+1,3,none⟩ (.slice none 0 0)).setCell ⟨w.heap.size+1,4,none⟩ (.slice none 0 0)).cell? ⟨w.heap.size+1,1,none⟩=some (.bool false) by rw[yd hgx];rfl);have r2:=yf (show (((((w4.setCell ⟨w.heap.size+1,0,none⟩ (.string ⟨#[]⟩)).setCell ⟨w.heap.size+1,1,none⟩ (.bool false)).setCell ⟨w.heap.size+1,2,none⟩ (.slice none 0 0)).setCell ⟨w.heap.size+1,3,none⟩ (.slice none 0 0)).setCell ⟨w.heap.size+1,4,none⟩ (.slice none 0 0)).cell? ⟨w.heap.size+1,2,none⟩=some (.slice none 0 0) by rw[yd hgx];rfl);have r3:=yf (show (((((w4.setCell ⟨w.heap.size+1,0,none⟩ (.string ⟨#[]⟩)).setCell ⟨w.heap.size+1,1,none⟩ (.bool false)).setCell ⟨w.heap.size+1,2,none⟩ (.slice none 0 0)).setCell ⟨w.heap.size+1,3,none⟩ (.slice none 0 0)).setCell ⟨w.heap.size+1,4,none⟩ (.slice none 0 0)).cell? ⟨w.heap.size+1,3,none⟩=some (.slice none 0 0) by rw[yd hgx];rfl)
  have r4:=yf (show (((((w4.setCell ⟨w.heap.size+1,0,none⟩ (.string ⟨#[]⟩)).setCell ⟨w.heap.size+1,1,none⟩ (.bool false)).setCell ⟨w.heap.size+1,2,none⟩ (.slice none 0 0)).setCell ⟨w.heap.size+1,3,none⟩ (.slice none 0 0)).setCell ⟨w.heap.size+1,4,none⟩ (.slice none 0 0)).cell? ⟨w.heap.size+1,4,none⟩=some (.slice none 0 0) by rw[yd hgx];rfl);refine bodyPost_ret (v:=.tuple #[.agg #[.string ⟨#[]⟩,.bool false,.slice none 0 0,.slice none 0 0,.slice none 0 0],.int .i64 E]) (by simp[results,results17,go_sem,r0,r1,r2,r3,r4]) rfl ?_;exact⟨_,rfl,yiC _,(yaq HB4.out (by omega) _ _ _ _ _).drew⟩
 have bE:(S'.e != 0)=false:=by rw[he];rfl
 have HR4:Hid ((if yeT (yeS T.name T.dir S')=true then (emG,5) else if gra.validE (yeS T.name T.dir S')≠0 then (emG,gra.validE (yeS T.name T.dir S')) else (yeS T.name T.dir S',0))=(G,E)):=Lh (by have h:=HG2.out;rw[if_neg (by simpa using he)] at h;exact h);have HFO4:=Lh (HFO.out he);clear he HFO HG2;go_wp2_with fail
 clear c7;refine(ynz w.heap.size b T.name T.dir S' x4 _ (G,E) w4 HS4 HFO4 HNM HR4).mono ?_;rintro e w5 ⟨gv,rfl,hgv,hb5⟩;obtain⟨nv,ev,cv,rfl,-,hr1,hr2,hr3⟩:=id hgv;obtain⟨no,nc,rfl,-,-,-⟩:=id hr1;obtain⟨eo,ec,rfl,-,-,-⟩:=id hr2;obtain⟨co,cc,rfl,-,-,-⟩:=id hr3;simp only at hgv |-;have HGV:=Lh hgv;have HB5:=Lh (ya hb5 HB4.out);have HGB5:=Lh (ym HGB4.out hb5);clear hgv hb5 hr1 hr2 hr3 HS4 HB4 HGB4;obtain⟨g0,g1,g2,g3,g4⟩:=b5c HGB5.out;have f0:=yi HGB5.out 0;have f1:=yi HGB5.out 1;have f2:=yi HGB5.out 2;have f3:=yi HGB5.out 3;have f4:=yi HGB5.out 4;go_wp2;have hgx:=ycO HGB5.out (.string (bb G.nm)) (.bool G.dir) (.slice no G.ns.length nc) (.slice eo G.es.length ec) (.slice co G.cs.length cc);obtain⟨r0,r1,r2,r3,r4⟩:=gcl hgx;refine bodyPost_ret (v:=.tuple #[.agg #[.string (bb G.nm),.bool G.dir,.slice no G.ns.length nc,.slice eo G.es.length ec,.slice co G.cs.length cc],.int .i64 E]) (by simp[results,results17,go_sem,r0,r1,r2,r3,r4]) rfl ?_;exact⟨_,rfl,(ynA HGB5.out HGV.out).1,yaq HB5.out (by omega) _ _ _ _ _⟩
theorem ynB (v:Value)(T:Tr)(G:gra.Gr)(E:Int)(w:World)(h:Hid (TrV w v T))(hn:cnt T.body<=1000000000000)(hok:Hid (okL T.body))(hG:Hid (yb2 T=(G,E))) :
    Calls Tryz.prog 17 #[v] w (ynx G E w) :=
 ygy v T G E w h hn (Lh fun hv=>by have h1:=wl_le hok.out;have h2:=((yaO T).1 hv).2.1;omega) hG
end Go.Proofs.YtgmidodmmlmmeaaGreatDoor.nor
