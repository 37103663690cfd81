/-
  Contracts and plain facts of the layers below; conditions as each theorem states them.
-/
import Derived.Test.YtgmidodmmlmmeaaGreatDoorMee
import Derived.Test.YtgmidodmmlmmeaaGreatDoorMtd
namespace Go.Proofs.YtgmidodmmlmmeaaGreatDoor.xpt
open Go.RowKit Go.Sort lex tre att nor _root_.Go.Proofs.Tryz
theorem ycn {W W':World}{tb:Nat}{A:Addr}{v:Value}(h:W.cell? A=some v)(hA:A.block≠tb)(hW:∀ q,q≠tb->W'.heap[q]?=W.heap[q]?):W'.cell? A=some v:=by
 unfold World.cell? at h |-;rw[hW _ hA];exact h
theorem ysk {W:World}{tb:Nat}{t:TypeId}{x:ByteArray}{d:Bool}{a:Option Addr}{n c:Nat}(hk:blk W tb t #[.string x,.bool d,.slice a n c]){A:Addr}{k:Int}(h:W.cell? A=some (.int .i64 k)):A.block≠tb:=by
 intro e;obtain⟨b,of,sp⟩:=A;simp only at e;subst e;unfold xpt.blk at hk;simp only[World.cell?,hk] at h
 split at h
 ·cases h
 ·rcases of with _ | _ | _ | of <;> simp at h
theorem ysl {W:World}{tb:Nat}{t:TypeId}{x:ByteArray}{d:Bool}{a:Option Addr}{n c:Nat}(hk:blk W tb t #[.string x,.bool d,.slice a n c]){A:Addr}{k l:ByteArray}(h:W.cell? A=some (.string k))(h2:W.cell? ⟨A.block,A.off+1,none⟩=some (.string l)):A.block≠tb:=by
 intro e;obtain⟨b,of,sp⟩:=A;simp only at e h2;subst e;unfold xpt.blk at hk;simp only[World.cell?,hk] at h h2
 split at h
 ·cases h
 ·rcases of with _ | _ | _ | of <;> simp at h h2
theorem ym8 {W W':World}{tb:Nat}{t:TypeId}{x:ByteArray}{d:Bool}{a:Option Addr}{n c:Nat}{v:Value}{l:List Pr}(h:Prs W v l)(hk:blk W tb t #[.string x,.bool d,.slice a n c])(hW:∀ q,q≠tb->W'.heap[q]?=W.heap[q]?):Prs W' v l:=by
 obtain⟨ao,cap,rfl,hc,hm,hA⟩:=h;refine⟨ao,cap,rfl,hc,hm,fun hn=>?_⟩;obtain⟨A,rfl,h2⟩:=hA hn;refine⟨A,rfl,fun i hi=>?_⟩;obtain⟨q1,q2,q3⟩:=h2 i hi;have:=ysl hk q1 q2;exact⟨ycn q1 this hW,ycn q2 this hW,q3⟩
theorem ytA {W W':World}{tb:Nat}{t:TypeId}{x:ByteArray}{d:Bool}{a:Option Addr}{n c:Nat}(hk:blk W tb t #[.string x,.bool d,.slice a n c])(hW:∀ q,q≠tb->W'.heap[q]?=W.heap[q]?):(∀ s A,yhM W s A->yhM W' s A)/\∀ l A i,ygM W l A i->ygM W' l A i:=by
 refine ya2 (fun k n r a b hB A h=>?_) (fun _ _ h=>h) (fun s t hs ht A i h=>⟨hs _ h.1,ht _ _ h.2⟩);obtain⟨h1,h2,h3,⟨rv,h4,h4'⟩,⟨av,h5,h5'⟩,ao,cap,h6,h7,h8,h9⟩:=h;have hA:=ysk hk h1
 exact⟨ycn h1 hA hW,ycn h2 hA hW,h3,⟨rv,ycn h4 hA hW,ym8 h4' hk hW⟩,⟨av,ycn h5 hA hW,ym8 h5' hk hW⟩,ao,cap,ycn h6 hA hW,h7,h8,fun hn=>by
  obtain⟨B,rfl,h10⟩:=h9 hn;exact⟨B,rfl,hB _ _ h10⟩⟩
theorem ybj {W W':World}{tb:Nat}{t:TypeId}{x:ByteArray}{d:Bool}{a:Option Addr}{n c:Nat}{v:Value}{l:List St}(h:Sts W v l)(hk:blk W tb t #[.string x,.bool d,.slice a n c])(hW:∀ q,q≠tb->W'.heap[q]?=W.heap[q]?):Sts W' v l:=by
 obtain⟨ao,cap,rfl,hc,hm,hA⟩:=h;exact⟨ao,cap,rfl,hc,hm,fun hn=>by obtain⟨A,rfl,h2⟩:=hA hn;exact⟨A,rfl,(ytA hk hW).2 _ _ _ h2⟩⟩
theorem yk3 {W:World}{g:Nat}(c0 c1 c2:Value):∀ q,q≠g->(((W.setCell ⟨g,0,none⟩ c0).setCell ⟨g,1,none⟩ c1).setCell ⟨g,2,none⟩ c2).heap[q]?=W.heap[q]?:=fun q h=>by
 rw[Below.heap_setCell _ _ _ _ (show q≠g from h),Below.heap_setCell _ _ _ _ (show q≠g from h),Below.heap_setCell _ _ _ _ (show q≠g from h)]
theorem RC.form2 {B:Nat}{W:World}{v:Value}{D:List Sv}(h:RC B W v D):∃ ao cap,v=.slice ao D.length cap/\D.length<=cap/\cap<=maxLen:=by
 obtain⟨⟨ao,cap,e,h1,h2,-⟩,-⟩:=h;exact⟨ao,cap,e,h1,h2⟩
def A47 (a:Act)(n0 tb:Nat):Prop:=a=⟨#[a.tmps.getD 0 undef,a.tmps.getD 1 undef,.pointer (some ⟨n0,0,none⟩),.pointer (some ⟨n0+1,0,none⟩),.pointer (some ⟨n0+2,0,none⟩),.int .i64 0,a.tmps.getD 6 undef,a.tmps.getD 7 undef,.pointer (some ⟨tb,0,none⟩),a.tmps.getD 9 undef,a.tmps.getD 10 undef,a.tmps.getD 11 undef,a.tmps.getD 12 undef,a.tmps.getD 13 undef,a.tmps.getD 14 undef,a.tmps.getD 15 undef,a.tmps.getD 16 undef,a.tmps.getD 17 undef,a.tmps.getD 18 undef,a.tmps.getD 19 undef,a.tmps.getD 20 undef,a.tmps.getD 21 undef,a.tmps.getD 22 undef,a.tmps.getD 23 undef,a.tmps.getD 24 undef,a.tmps.getD 25 undef,a.tmps.getD 26 undef,a.tmps.getD 27 undef,a.tmps.getD 28 undef,a.tmps.getD 29 undef,a.tmps.getD 30 undef,a.tmps.getD 31 undef,a.tmps.getD 32 undef,a.tmps.getD 33 undef,a.tmps.getD 34 undef,a.tmps.getD 35 undef,a.tmps.getD 36 undef,a.tmps.getD 37 undef,a.tmps.getD 38 undef,a.tmps.getD 39 undef,a.tmps.getD 40 undef,a.tmps.getD 41 undef,a.tmps.getD 42 undef,a.tmps.getD 43 undef,a.tmps.getD 44 undef,a.tmps.getD 45 undef,a.tmps.getD 46 undef],[]⟩
theorem A47.use {a:Act}{n0 tb:Nat}(h:A47 a n0 tb):∃ f:Nat->Value,a=⟨#[f 0,f 1,.pointer (some ⟨n0,0,none⟩),.pointer (some ⟨n0+1,0,none⟩),.pointer (some ⟨n0+2,0,none⟩),.int .i64 0,f 6,f 7,.pointer (some ⟨tb,0,none⟩),f 9,f 10,f 11,f 12,f 13,f 14,f 15,f 16,f 17,f 18,f 19,f 20,f 21,f 22,f 23,f 24,f 25,f 26,f 27,f 28,f 29,f 30,f 31,f 32,f 33,f 34,f 35,f 36,f 37,f 38,f 39,f 40,f 41,f 42,f 43,f 44,f 45,f 46],[]⟩:=⟨fun i=>a.tmps.getD i undef,h⟩
def CvM (w:World)(n0:Nat)(Gn:ByteArray)(d:Bool)(l:List St)(a:Act)(W:World):Prop:=∃ tb ao n c,A47 a n0 tb/\n0+3<=tb/\Below n0 w W/\blk W (n0+2) 33 #[.string ⟨#[]⟩,.bool false,.slice none 0 0]/\blk W tb 33 #[.string Gn,.bool d,.slice ao n c]/\Sts W (.slice ao n c) l
theorem CvM.box (w:World)(n0:Nat)(Gn:ByteArray)(d:Bool)(l:List St):∃ M:Act->World->Prop,Hid (∀ a W,M a W↔CvM w n0 Gn d l a W):=⟨CvM w n0 Gn d l,Lh fun _ _=>Iff.rfl⟩
set_option maxRecDepth 100000 in
set_option maxHeartbeats 32000000 in
theorem ybQ (g:gra.Gr)(o:Op')(gv:Value)(T:Tr)(E:Int)(w:World)(h:Hid (gra.GrV w gv g))(htb:Hid (Tab w))(hr:Hid (ybK g o=(T,E))) :
    Calls Tryz.prog 10 #[gv,opV o] w (TroO T E w):=by
 have hmx:Tryz.prog.follows .mixedOrders=true:=by kernel_rfl
 obtain⟨nv,ev,cv,rfl,hgn,hns,hes,hcs⟩:=id h.out;obtain⟨no,nc,rfl,-,hnm,-⟩:=id hns;obtain⟨eo,ec,rfl,-,-,-⟩:=id hes;obtain⟨co,cc,rfl,-,-,-⟩:=id hcs;clear hns hes hcs;obtain⟨Gn,hGn⟩:∃ X,bb g.nm=X:=⟨_,rfl⟩
 have HGN:=Lh hGn;have HGL:=Lh hgn;have HG:=Lh (show gra.GrV w (.agg #[.string Gn,.bool g.dir,.slice no g.ns.length nc,.slice eo g.es.length ec,.slice co g.cs.length cc]) g by rw[<- hGn];exact h.out);rw[show gra.bb g.nm=Gn from hGn];clear h hGn hgn;unfold opV;obtain⟨ve,hve⟩:∃ ve,gra.validE g=ve:=⟨_,rfl⟩
 obtain⟨ob,hob⟩:∃ ob,okO o=ob:=⟨_,rfl⟩
 have HVE:=Lh hve;have HOB:=Lh hob;clear hve hob;have k1:=yl w #[.string Gn,.bool g.dir,.slice no g.ns.length nc,.slice eo g.es.length ec,.slice co g.cs.length cc] 26;have b1:=al1 w (.cells #[.string Gn,.bool g.dir,.slice no g.ns.length nc,.slice eo g.es.length ec,.slice co g.cs.length cc] 26);have q1:(w.alloc (.cells #[.string Gn,.bool g.dir,.slice no g.ns.length nc,.slice eo g.es.length ec,.slice co g.cs.length cc] 26)).heap.size=w.heap.size+1:=by simp
 have HK1:=Lh k1;have HB1:=Lh b1;have HQ1:=Lh q1;clear k1 b1 q1;go_enter func10,ntmps10;go_wp2_with fail
 generalize w.alloc (.cells #[.string Gn,.bool g.dir,.slice no g.ns.length nc,.slice eo g.es.length ec,.slice co g.cs.length cc] 26)=wa at HK1 HB1 HQ1 |-;have hq1:=HQ1.out;have b2:=al1 wa (.cells #[.int .i64 o.mode,.int .i64 o.ns,.int .i64 o.rs,.int .i64 o.mg,.int .i64 o.rd] 28);have k2:=yl wa #[.int .i64 o.mode,.int .i64 o.ns,.int .i64 o.rs,.int .i64 o.mg,.int .i64 o.rd] 28;have q2:(wa.alloc (.cells #[.int .i64 o.mode,.int .i64 o.ns,.int .i64 o.rs,.int .i64 o.mg,.int .i64 o.rd] 28)).heap.size=w.heap.size+2:=by simp;omega
 generalize wa.alloc (.cells #[.int .i64 o.mode,.int .i64 o.ns,.int .i64 o.rs,.int .i64 o.mg,.int .i64 o.rd] 28)=wb at b2 k2 q2 |-;have b3:=al1 wb (.cells #[.string ⟨#[]⟩,.bool false,.slice none 0 0] 33);have k3:=yl wb #[.string ⟨#[]⟩,.bool false,.slice none 0 0] 33;have q3:(wb.alloc (.cells #[.string ⟨#[]⟩,.bool false,.slice none 0 0] 33)).heap.size=w.heap.size+3:=by simp;omega
 generalize wb.alloc (.cells #[.string ⟨#[]⟩,.bool false,.slice none 0 0] 33)=w1 at b3 k3 q3 |-;rw[q2] at k3;rw[hq1] at k2;have hk1:=yj b3 (yj b2 HK1.out);have hk2:=yj b3 k2;have hb1:=ya b3 (ya b2 HB1.out);clear b2 b3 k2 HK1 HB1 HQ1 hq1 q2;obtain⟨n0,hn0⟩:∃ n0,w.heap.size=n0:=⟨_,rfl⟩
 rw[hn0] at hk1 hk2 hb1 k3 q3;simp only[hn0];have HN0:=Lh hn0;clear hn0;have HB1:=Lh hb1;refine(gra.cvalid_of _ g ve w1 (Lh (HG.out.keep (show Below w.heap.size w w1 by rw[HN0.out];exact hb1))) HVE).mono ?_;rintro e w2 ⟨rfl,hb2⟩;have HK1:=Lh (yj hb2 hk1);have HK2:=Lh (yj hb2 hk2);have HK3:=Lh (yj hb2 k3);have HB2:=Lh (hb1.trans (hb2.mono (by omega)));clear hb1 hb2 hk1 hk2 k3 HB1
 by_cases v0:ve=0
 case neg =>
  have bv:(ve != 0)=true:=by rw[bne_iff_ne];exact v0
  have HE:Hid (T=emT/\E=1):=Lh (by have:=hr.out;unfold ybK at this;rw[if_pos (Or.inl (by rw[HVE.out];exact v0))] at this;exact⟨(Prod.mk.inj this).1.symm,(Prod.mk.inj this).2.symm⟩);clear v0;have f0:w2.frozen? ⟨n0+2,0,none⟩=false:=yk HK3.out;have f1:w2.frozen? ⟨n0+2,1,none⟩=false:=yk HK3.out;have f2:w2.frozen? ⟨n0+2,2,none⟩=false:=yk HK3.out;obtain⟨z0,z1,z2⟩:=b3c HK3.out;go_wp2;obtain⟨rfl,rfl⟩:=HE.out;have hbx:=yag (HK3.out) (.string ⟨#[]⟩) (.bool false) (.slice none 0 0);have r0:=yd (o:=0) hbx;have r1:=yd (o:=1) hbx;have r2:=yd (o:=2) hbx;refine bodyPost_ret (v:=.tuple #[.agg #[.string ⟨#[]⟩,.bool false,.slice none 0 0],.int .i64 1]) (by simp[results,results10,go_sem,r0,r1,r2]) rfl ?_;exact⟨_,rfl,yj4 _,by rw[HN0.out];exact yA (HB2.out) (by omega) _ _ _⟩
 have bv:(ve != 0)=false:=by rw[v0];rfl
 obtain⟨o0,o1,o2,o3,o4⟩:=b5c HK2.out;go_wp2_with fail
 refine(ymU o ob w2 HOB).mono ?_;rintro e w3 ⟨rfl,hb3⟩;have HK1':=Lh (yj hb3 HK1.out);have HK2':=Lh (yj hb3 HK2.out);have HK3':=Lh (yj hb3 HK3.out);have HB3:=Lh (HB2.out.trans (hb3.mono (Nat.le_of_lt (yP HK1.out))));clear hb3 HK1 HK2 HK3 HB2 o0 o1 o2 o3 o4;cases ob
 case false =>
  have HE:Hid (T=emT/\E=1):=Lh (by have:=hr.out;unfold ybK at this;rw[if_pos (Or.inr HOB.out)] at this;exact⟨(Prod.mk.inj this).1.symm,(Prod.mk.inj this).2.symm⟩);have f0:w3.frozen? ⟨n0+2,0,none⟩=false:=yk HK3'.out;have f1:w3.frozen? ⟨n0+2,1,none⟩=false:=yk HK3'.out;have f2:w3.frozen? ⟨n0+2,2,none⟩=false:=yk HK3'.out;obtain⟨z0,z1,z2⟩:=b3c HK3'.out;go_wp2;obtain⟨rfl,rfl⟩:=HE.out;have hbx:=yag (HK3'.out) (.string ⟨#[]⟩) (.bool false) (.slice none 0 0);have r0:=yd (o:=0) hbx;have r1:=yd (o:=1) hbx;have r2:=yd (o:=2) hbx;refine bodyPost_ret (v:=.tuple #[.agg #[.string ⟨#[]⟩,.bool false,.slice none 0 0],.int .i64 1]) (by simp[results,results10,go_sem,r0,r1,r2]) rfl ?_;exact⟨_,rfl,yj4 _,by rw[HN0.out];exact yA (HB3.out) (by omega) _ _ _⟩
 have HV:Hid (gra.validE g=0):=Lh (by rw[HVE.out];exact v0);have HGV:=Lh (ykK HV.out);have HR:Hid ((if (ybI g).2.1<g.ns.length\/(ybI g).2.2<g.cs.length then (emT,1) else if yab (yZ g o)≠0 then (emT,yab (yZ g o)) else (yZ g o,0))=(T,E)):=Lh (by have:=hr.out;unfold ybK at this;rw[if_neg (fun q=>q.elim (fun e=>e HV.out) (fun e=>by rw[HOB.out] at e;cases e))] at this;exact this);have HOP:=Lh HOB.out;clear HVE v0 bv hr HOB;obtain⟨bd,hbd⟩:∃ b,(decide ((ybI g).2.1=g.ns.length)&&decide ((ybI g).2.2=g.cs.length))=b:=⟨_,rfl⟩
 have HBD:=Lh hbd;clear hbd;obtain⟨c0,c1,c2,c3,c4⟩:=b5c HK1'.out;go_wp2_with fail
 refine(ypv g _ bd w3 (Lh (HG.out.keep (show Below w.heap.size w w3 by rw[HN0.out];exact HB3.out))) HV (Lh (yt htb.out (show Below w.heap.size w w3 by rw[HN0.out];exact HB3.out))) HBD).mono ?_;rintro e w4 ⟨⟨a2,D2,rfl,hrc2,hD2⟩,hb4⟩;have hz3:=yP HK3'.out;have HK1:=Lh (yj hb4 HK1'.out);have HK2:=Lh (yj hb4 HK2'.out);have HK3:=Lh (yj hb4 HK3'.out);have HB4:=Lh (HB3.out.trans (hb4.mono (by omega)));have HRC2:=Lh (hrc2.lower (B:=n0+3) (by omega));have HD2:=Lh hD2;have hz4:=yP HK3.out;clear hb4 hrc2 hD2 HK1' HK2' HK3' HB3 c0 c1 c2 c3 c4;cases bd
 case false =>
  have HE:Hid (T=emT/\E=1):=Lh (by
   have h1:=HBD.out;have h2:=ych g (g.ns.length+g.cs.length+1) (-1) 0 0 (Nat.zero_le _) (Nat.zero_le _);have h3:(ybI g).2.1<=g.ns.length/\(ybI g).2.2<=g.cs.length:=⟨h2.1,h2.2⟩
   have h4:(ybI g).2.1<g.ns.length\/(ybI g).2.2<g.cs.length:=by
    by_cases e1:(ybI g).2.1=g.ns.length
    ·by_cases e2:(ybI g).2.2=g.cs.length
     ·rw[decide_eq_true e1,decide_eq_true e2] at h1;cases h1
     ·right;omega
    ·left;omega
   have:=HR.out
   rw[if_pos h4] at this;exact⟨(Prod.mk.inj this).1.symm,(Prod.mk.inj this).2.symm⟩)
  have f0:w4.frozen? ⟨n0+2,0,none⟩=false:=yk HK3.out;have f1:w4.frozen? ⟨n0+2,1,none⟩=false:=yk HK3.out;have f2:w4.frozen? ⟨n0+2,2,none⟩=false:=yk HK3.out;obtain⟨z0,z1,z2⟩:=b3c HK3.out;go_wp2;obtain⟨rfl,rfl⟩:=HE.out;have hbx:=yag (HK3.out) (.string ⟨#[]⟩) (.bool false) (.slice none 0 0);have r0:=yd (o:=0) hbx;have r1:=yd (o:=1) hbx;have r2:=yd (o:=2) hbx;refine bodyPost_ret (v:=.tuple #[.agg #[.string ⟨#[]⟩,.bool false,.slice none 0 0],.int .i64 1]) (by simp[results,results10,go_sem,r0,r1,r2]) rfl ?_;exact⟨_,rfl,yj4 _,by rw[HN0.out];exact yA (HB4.out) (by omega) _ _ _⟩
 have HR2:Hid ((if yab (yZ g o)≠0 then (emT,yab (yZ g o)) else (yZ g o,0))=(T,E)):=Lh (by
  have h1:=HBD.out;rw[Bool.and_eq_true,decide_eq_true_eq,decide_eq_true_eq] at h1;have:=HR.out
  rw[if_neg (by omega)] at this;exact this)
 have HCN:=Lh (yhc g o HGV.out)
 have HD2L:Hid (D2.length<=400):=Lh (by
  have h3:D2.length<=cnt (yZ g o).body:=by
   rw[<- List.length_map (f:=Sv.s),HD2.out]
   show _<=cnt (yfF o++((ybI g).1++g.es.map (ya8 g.ns)))
   rw[ybE,ybE];have e1:=yci (ybI g).1;omega
  have:=HCN.out
  omega)
 clear HR HBD;go_wp2_with fail
 obtain⟨M,HM⟩:=CvM.box w n0 Gn g.dir (yZ g o).body;refine yem M ?_ ?_
 ·
  obtain⟨c0,c1,c2,c3,c4⟩:=b5c HK1.out;obtain⟨o0,o1,o2,o3,o4⟩:=b5c HK2.out;refine ycH (fun W:World=>W.cell? ⟨n0,0,none⟩=some (.string Gn)/\W.cell? ⟨n0,1,none⟩=some (.bool g.dir)/\W.cell? ⟨n0,2,none⟩=some (.slice no g.ns.length nc)/\W.cell? ⟨n0,3,none⟩=some (.slice eo g.es.length ec)/\W.cell? ⟨n0,4,none⟩=some (.slice co g.cs.length cc)/\W.cell? ⟨n0+1,0,none⟩=some (.int .i64 o.mode)/\W.cell? ⟨n0+1,1,none⟩=some (.int .i64 o.ns)/\W.cell? ⟨n0+1,2,none⟩=some (.int .i64 o.rs)/\W.cell? ⟨n0+1,3,none⟩=some (.int .i64 o.mg)/\W.cell? ⟨n0+1,4,none⟩=some (.int .i64 o.rd)) 14 (by kernel_rfl) ⟨yf (c0),yf (c1),yf (c2),yf (c3),yf (c4),yf (o0),yf (o1),yf (o2),yf (o3),yf (o4)⟩ (fun hHeld=>?_);have hb:=yat w4;replace hHeld:((fun W:World=>W.cell? ⟨n0,0,none⟩=some (.string Gn)/\W.cell? ⟨n0,1,none⟩=some (.bool g.dir)/\W.cell? ⟨n0,2,none⟩=some (.slice no g.ns.length nc)/\W.cell? ⟨n0,3,none⟩=some (.slice eo g.es.length ec)/\W.cell? ⟨n0,4,none⟩=some (.slice co g.cs.length cc)/\W.cell? ⟨n0+1,0,none⟩=some (.int .i64 o.mode)/\W.cell? ⟨n0+1,1,none⟩=some (.int .i64 o.ns)/\W.cell? ⟨n0+1,2,none⟩=some (.int .i64 o.rs)/\W.cell? ⟨n0+1,3,none⟩=some (.int .i64 o.mg)/\W.cell? ⟨n0+1,4,none⟩=some (.int .i64 o.rd))) w4.drew:=hHeld;generalize w4.drew=y0 at hHeld hb |-;refine ton 0 27 (.pointer (some ⟨n0,0,none⟩)) ?_;refine ton 1 28 (.string Gn) ?_;refine ton 2 29 (.pointer (some ⟨n0,1,none⟩)) ?_;refine ton 3 30 (.bool g.dir) ?_;refine ton 4 31 (.agg #[.int .i64 o.mode,.int .i64 o.ns,.int .i64 o.rs,.int .i64 o.mg,.int .i64 o.rd]) ?_
  refine ton 6 33 (.slice a2 D2.length D2.length) ?_;refine ton 7 34 (.agg #[.string Gn,.bool g.dir,.slice no g.ns.length nc,.slice eo g.es.length ec,.slice co g.cs.length cc]) ?_
  try simp only[sA,sB,sC]
  clear c0 c1 c2 c3 c4 o0 o1 o2 o3 o4;have h2:=HRC2.out.below hb;refine ynZ (i:=5) (j:=13) (by kernel_rfl) rfl rfl (fun K hK=>?_) (fun K hK=>?_)
  ·
   have hlc:w4.heap.size<=y0.heap.size:=hb.size;go_simp;refine(yj5 o y0 HOP (Lh (yt htb.out (show Below w.heap.size w y0 by rw[HN0.out];exact HB4.out.trans (hb.mono (by omega)))))).mono ?_;rintro e y1 ⟨⟨v1,D1,rfl,hrs,hD1⟩,hb'⟩;refine hK.out _ _ (fun _=>(by have k:=hHeld;repeat first | exact yb hb' k | (refine⟨yb hb' k.1,?_⟩;replace k:=k.2))) (fun hHeld=>?_);replace hHeld:=hHeld (by decide);clear hK K
   try simp only[sA,sB,sC]
   replace h2:=h2.below hb';have h1:=hrs.rc.lower (B:=n0+3) (by omega);clear hrs;obtain⟨a1,k1,rfl⟩:=h1.form;replace hb:=ya hb' hb;clear hb' hlc;refine ynZ (i:=8) (j:=13) (by kernel_rfl) rfl rfl (fun K hK=>?_) (fun K hK=>?_)
   ·
    have hlc:w4.heap.size<=y1.heap.size:=hb.size;go_simp;refine(yfv g _ y1 (Lh (HG.out.keep (show Below w.heap.size w y1 by rw[HN0.out];exact HB4.out.trans (hb.mono (by omega))))) HGV (Lh (yt htb.out (show Below w.heap.size w y1 by rw[HN0.out];exact HB4.out.trans (hb.mono (by omega)))))).mono ?_;rintro e y2 ⟨⟨v3,D3,rfl,hrs,hD3⟩,hb'⟩;refine hK.out _ _ (fun _=>(by have k:=hHeld;repeat first | exact yb hb' k | (refine⟨yb hb' k.1,?_⟩;replace k:=k.2))) (fun hHeld=>?_);replace hHeld:=hHeld (by decide);clear hK K
    try simp only[sA,sB,sC]
    replace h2:=h2.below hb';replace h1:=h1.below hb';have h3:=hrs.rc.lower (B:=n0+3) (by omega);clear hrs;obtain⟨a3,k3,rfl⟩:=h3.form;replace hb:=ya hb' hb;clear hb' hlc;refine ynZ (i:=9) (j:=13) (by kernel_rfl) rfl rfl (fun K hK=>?_) (fun K hK=>?_)
    ·
     have hlc:w4.heap.size<=y2.heap.size:=hb.size;go_simp;have hga:=yl y2 #[.slice a1 D1.length k1,.slice a2 D2.length D2.length,.slice a3 D3.length k3] 31;have hb':=al1 y2 (.cells #[.slice a1 D1.length k1,.slice a2 D2.length D2.length,.slice a3 D3.length k3] 31);refine hK.out _ _ (fun _=>(by have k:=hHeld;repeat first | exact yh k | (refine⟨yh k.1,?_⟩;replace k:=k.2))) (fun hHeld=>?_);replace hHeld:=hHeld (by decide);clear hK K
     try simp only[sA,sB,sC]
     replace h2:=h2.below hb';replace h1:=h1.below hb';replace h3:=h3.below hb';obtain⟨ga,hga0⟩:∃ s,y2.heap.size=s:=⟨_,rfl⟩
     rw[hga0] at hga hlc;simp only[hga0];replace hb:=ya hb' hb;generalize y2.alloc (.cells #[.slice a1 D1.length k1,.slice a2 D2.length D2.length,.slice a3 D3.length k3] 31)=y3 at hga hb hHeld h1 h2 h3 |-;clear hb' hga0 hlc;refine ynZ (i:=10) (j:=13) (by kernel_rfl) rfl rfl (fun K hK=>?_) (fun K hK=>?_)
     ·
      have hlc:w4.heap.size<=y3.heap.size:=hb.size;go_simp;have l1:D1.length<=400:=by rw[<- List.length_map (f:=Sv.s),hD1];exact Nat.le_trans (yci _) (by have:=HCN.out;rw[show (yZ g o).body=yfF o++((ybI g).1++g.es.map (ya8 g.ns)) from rfl,ybE] at this;omega)
      have l3:D3.length<=400:=by rw[<- List.length_map (f:=Sv.s),hD3,List.length_map];have:=HGV.out.el;omega
      refine(ydG (.slice a1 D1.length k1) (.slice a2 D2.length D2.length) (.slice a3 D3.length k3) D1 D2 D3 (n0+3) ga y3 (Lh h1) (Lh h2) (Lh h3) (by omega) (by have:=HD2L.out;omega) (by omega) (Lh hga) (by omega)).mono ?_;rintro e y4 ⟨⟨v,rfl,hv⟩,hb'⟩;refine hK.out _ _ (fun _=>(by have k:=hHeld;repeat first | exact yb hb' k | (refine⟨yb hb' k.1,?_⟩;replace k:=k.2))) (fun hHeld=>?_);replace hHeld:=hHeld (by decide);clear hK K
      try simp only[sA,sB,sC]
      have hDD:(D1++D2++D3).map Sv.s=(yZ g o).body:=by rw[List.map_append,List.map_append,hD1,HD2.out,hD3,List.append_assoc];rfl
      obtain⟨D,hD⟩:∃ D,D1++D2++D3=D:=⟨_,rfl⟩
      rw[hD] at hv hDD;obtain⟨ao,cap,rfl,qc1,qc2⟩:=hv.form2;replace hb:=ya hb' hb;clear hb' hlc h1 h2 h3 hga hD1 hD3 l1 l3 hD;refine ynZ (i:=11) (j:=13) (by kernel_rfl) rfl rfl (fun K hK=>?_) (fun K hK=>?_)
      ·
       have hlc:w4.heap.size<=y4.heap.size:=hb.size;go_simp;refine(ycl ao D.length cap y4 qc1 qc2).mono ?_;rintro e y5 ⟨rfl,rfl⟩;refine hK.out _ _ (fun _=>(by have k:=hHeld;repeat first | exact k | (refine⟨k.1,?_⟩;replace k:=k.2))) (fun hHeld=>?_);replace hHeld:=hHeld (by decide);clear hK K
       try simp only[sA,sB,sC]
       refine ton 12 39 (.agg #[.string Gn,.bool g.dir,.slice ao D.length D.length]) ?_
       try simp only[sA,sB,sC]
       refine tgo (i:=13) (by kernel_rfl) rfl (fun K hK=>?_);have hs:=yl y4 #[.string ⟨#[]⟩,.bool false,.slice none 0 0] 33;have hb':=al1 y4 (.cells #[.string ⟨#[]⟩,.bool false,.slice none 0 0] 33);go_simp;refine hK.out _ _ (fun _=>(by have k:=hHeld;repeat first | exact yh k | (refine⟨yh k.1,?_⟩;replace k:=k.2))) (fun hHeld=>?_);replace hHeld:=hHeld (by decide);clear hK K
       try simp only[sA,sB,sC]
       replace hv:=hv.below hb';have hls:w4.heap.size<=y4.heap.size:=hb.size;obtain⟨tb,hss⟩:∃ s,y4.heap.size=s:=⟨_,rfl⟩
       rw[hss] at hs hls;simp only[hss];replace hb:=ya hb' hb;generalize y4.alloc (.cells #[.string ⟨#[]⟩,.bool false,.slice none 0 0] 33)=z5 at hs hb hHeld hv |-;clear hb' hss;have f0:z5.frozen? ⟨tb,0,none⟩=false:=yk hs;have e0:=bc 0 hs;have f1:z5.frozen? ⟨tb,1,none⟩=false:=yk hs;have e1:=bc 1 hs;have f2:z5.frozen? ⟨tb,2,none⟩=false:=yk hs;have e2:=bc 2 hs;refine tgo (i:=14) (by kernel_rfl) rfl (fun K hK=>?_);go_simp;refine hK.out _ _ (fun h=>absurd rfl h) (fun hHeld=>?_);clear hK K hHeld
       try simp only[sA,sB,sC]
       refine yb3 (by kernel_rfl) ?_ _;have hst:Sts z5 (.slice ao D.length D.length) (yZ g o).body:=by rw[<- hDD];exact hv.cut.selfL _ (agree.self _ _ _)
       have hbt:=HB4.out.trans (hb.mono (by omega));exact⟨rfl,(HM.out _ _).2 ⟨tb,ao,D.length,D.length,rfl,by omega,yA hbt (by omega) _ _ _,ycV (yj hb HK3.out) (by omega) _ _ _,yag hs _ _ _,ybj hst hs (yk3 _ _ _)⟩⟩
      ·
       have hs:=yl y4 #[.string ⟨#[]⟩,.bool false,.slice none 0 0] 33;have hb':=al1 y4 (.cells #[.string ⟨#[]⟩,.bool false,.slice none 0 0] 33);go_simp;refine hK.out _ _ (fun _=>(by have k:=hHeld;repeat first | exact yh k | (refine⟨yh k.1,?_⟩;replace k:=k.2))) (fun hHeld=>?_);replace hHeld:=hHeld (by decide);clear hK K
       try simp only[sA,sB,sC]
       replace hv:=hv.below hb';have hls:w4.heap.size<=y4.heap.size:=hb.size;obtain⟨tb,hss⟩:∃ s,y4.heap.size=s:=⟨_,rfl⟩
       rw[hss] at hs hls;simp only[hss];replace hb:=ya hb' hb;generalize y4.alloc (.cells #[.string ⟨#[]⟩,.bool false,.slice none 0 0] 33)=z4 at hs hb hHeld hv |-;clear hb' hss;refine tgo (i:=11) (by kernel_rfl) rfl (fun K hK=>?_);have hlc:w4.heap.size<=z4.heap.size:=hb.size;go_simp;refine(ycl ao D.length cap z4 qc1 qc2).mono ?_;rintro e x5 ⟨rfl,rfl⟩;refine hK.out _ _ (fun _=>(by have k:=hHeld;repeat first | exact k | (refine⟨k.1,?_⟩;replace k:=k.2))) (fun hHeld=>?_);replace hHeld:=hHeld (by decide);clear hK K
       try simp only[sA,sB,sC]
       refine ton 12 39 (.agg #[.string Gn,.bool g.dir,.slice ao D.length D.length]) ?_
       try simp only[sA,sB,sC]
       have f0:z4.frozen? ⟨tb,0,none⟩=false:=yk hs;have e0:=bc 0 hs;have f1:z4.frozen? ⟨tb,1,none⟩=false:=yk hs;have e1:=bc 1 hs;have f2:z4.frozen? ⟨tb,2,none⟩=false:=yk hs;have e2:=bc 2 hs;refine tgo (i:=14) (by kernel_rfl) rfl (fun K hK=>?_);go_simp;refine hK.out _ _ (fun h=>absurd rfl h) (fun hHeld=>?_);clear hK K hHeld
       try simp only[sA,sB,sC]
       refine yb3 (by kernel_rfl) ?_ _;have hst:Sts z4 (.slice ao D.length D.length) (yZ g o).body:=by rw[<- hDD];exact hv.cut.selfL _ (agree.self _ _ _)
       have hbt:=HB4.out.trans (hb.mono (by omega));exact⟨rfl,(HM.out _ _).2 ⟨tb,ao,D.length,D.length,rfl,by omega,yA hbt (by omega) _ _ _,ycV (yj hb HK3.out) (by omega) _ _ _,yag hs _ _ _,ybj hst hs (yk3 _ _ _)⟩⟩
     ·
      have hs:=yl y3 #[.string ⟨#[]⟩,.bool false,.slice none 0 0] 33;have hb':=al1 y3 (.cells #[.string ⟨#[]⟩,.bool false,.slice none 0 0] 33);go_simp;refine hK.out _ _ (fun _=>(by have k:=hHeld;repeat first | exact yh k | (refine⟨yh k.1,?_⟩;replace k:=k.2))) (fun hHeld=>?_);replace hHeld:=hHeld (by decide);clear hK K
      try simp only[sA,sB,sC]
      replace h2:=h2.below hb';replace h1:=h1.below hb';replace h3:=h3.below hb';replace hga:=yj hb' hga;have hls:w4.heap.size<=y3.heap.size:=hb.size;obtain⟨tb,hss⟩:∃ s,y3.heap.size=s:=⟨_,rfl⟩
      rw[hss] at hs hls;simp only[hss];replace hb:=ya hb' hb;generalize y3.alloc (.cells #[.string ⟨#[]⟩,.bool false,.slice none 0 0] 33)=z3 at hs hb hHeld h2 h1 h3 hga |-;clear hb' hss;refine tgo (i:=10) (by kernel_rfl) rfl (fun K hK=>?_);have hlc:w4.heap.size<=z3.heap.size:=hb.size;go_simp;have l1:D1.length<=400:=by rw[<- List.length_map (f:=Sv.s),hD1];exact Nat.le_trans (yci _) (by have:=HCN.out;rw[show (yZ g o).body=yfF o++((ybI g).1++g.es.map (ya8 g.ns)) from rfl,ybE] at this;omega)
      have l3:D3.length<=400:=by rw[<- List.length_map (f:=Sv.s),hD3,List.length_map];have:=HGV.out.el;omega
      refine(ydG (.slice a1 D1.length k1) (.slice a2 D2.length D2.length) (.slice a3 D3.length k3) D1 D2 D3 (n0+3) ga z3 (Lh h1) (Lh h2) (Lh h3) (by omega) (by have:=HD2L.out;omega) (by omega) (Lh hga) (by omega)).mono ?_;rintro e x4 ⟨⟨v,rfl,hv⟩,hb'⟩;refine hK.out _ _ (fun _=>(by have k:=hHeld;repeat first | exact yb hb' k | (refine⟨yb hb' k.1,?_⟩;replace k:=k.2))) (fun hHeld=>?_);replace hHeld:=hHeld (by decide);clear hK K
      try simp only[sA,sB,sC]
      replace hs:=yj hb' hs;have hDD:(D1++D2++D3).map Sv.s=(yZ g o).body:=by rw[List.map_append,List.map_append,hD1,HD2.out,hD3,List.append_assoc];rfl
      obtain⟨D,hD⟩:∃ D,D1++D2++D3=D:=⟨_,rfl⟩
      rw[hD] at hv hDD;obtain⟨ao,cap,rfl,qc1,qc2⟩:=hv.form2;replace hb:=ya hb' hb;clear hb' hlc h1 h2 h3 hga hD1 hD3 l1 l3 hD;refine tgo (i:=11) (by kernel_rfl) rfl (fun K hK=>?_);have hlc:w4.heap.size<=x4.heap.size:=hb.size;go_simp;refine(ycl ao D.length cap x4 qc1 qc2).mono ?_;rintro e x5 ⟨rfl,rfl⟩;refine hK.out _ _ (fun _=>(by have k:=hHeld;repeat first | exact k | (refine⟨k.1,?_⟩;replace k:=k.2))) (fun hHeld=>?_);replace hHeld:=hHeld (by decide);clear hK K
      try simp only[sA,sB,sC]
      refine ton 12 39 (.agg #[.string Gn,.bool g.dir,.slice ao D.length D.length]) ?_
      try simp only[sA,sB,sC]
      have f0:x4.frozen? ⟨tb,0,none⟩=false:=yk hs;have e0:=bc 0 hs;have f1:x4.frozen? ⟨tb,1,none⟩=false:=yk hs;have e1:=bc 1 hs;have f2:x4.frozen? ⟨tb,2,none⟩=false:=yk hs;have e2:=bc 2 hs;refine tgo (i:=14) (by kernel_rfl) rfl (fun K hK=>?_);go_simp;refine hK.out _ _ (fun h=>absurd rfl h) (fun hHeld=>?_);clear hK K hHeld
      try simp only[sA,sB,sC]
      refine yb3 (by kernel_rfl) ?_ _;have hst:Sts x4 (.slice ao D.length D.length) (yZ g o).body:=by rw[<- hDD];exact hv.cut.selfL _ (agree.self _ _ _)
      have hbt:=HB4.out.trans (hb.mono (by omega));exact⟨rfl,(HM.out _ _).2 ⟨tb,ao,D.length,D.length,rfl,by omega,yA hbt (by omega) _ _ _,ycV (yj hb HK3.out) (by omega) _ _ _,yag hs _ _ _,ybj hst hs (yk3 _ _ _)⟩⟩
    ·
     have hs:=yl y2 #[.string ⟨#[]⟩,.bool false,.slice none 0 0] 33;have hb':=al1 y2 (.cells #[.string ⟨#[]⟩,.bool false,.slice none 0 0] 33);go_simp;refine hK.out _ _ (fun _=>(by have k:=hHeld;repeat first | exact yh k | (refine⟨yh k.1,?_⟩;replace k:=k.2))) (fun hHeld=>?_);replace hHeld:=hHeld (by decide);clear hK K
     try simp only[sA,sB,sC]
     replace h2:=h2.below hb';replace h1:=h1.below hb';replace h3:=h3.below hb';have hls:w4.heap.size<=y2.heap.size:=hb.size;obtain⟨tb,hss⟩:∃ s,y2.heap.size=s:=⟨_,rfl⟩
     rw[hss] at hs hls;simp only[hss];replace hb:=ya hb' hb;generalize y2.alloc (.cells #[.string ⟨#[]⟩,.bool false,.slice none 0 0] 33)=z2 at hs hb hHeld h2 h1 h3 |-;clear hb' hss;refine tgo (i:=9) (by kernel_rfl) rfl (fun K hK=>?_);have hlc:w4.heap.size<=z2.heap.size:=hb.size;go_simp;have hga:=yl z2 #[.slice a1 D1.length k1,.slice a2 D2.length D2.length,.slice a3 D3.length k3] 31;have hb':=al1 z2 (.cells #[.slice a1 D1.length k1,.slice a2 D2.length D2.length,.slice a3 D3.length k3] 31);refine hK.out _ _ (fun _=>(by have k:=hHeld;repeat first | exact yh k | (refine⟨yh k.1,?_⟩;replace k:=k.2))) (fun hHeld=>?_);replace hHeld:=hHeld (by decide);clear hK K
     try simp only[sA,sB,sC]
     replace h2:=h2.below hb';replace h1:=h1.below hb';replace h3:=h3.below hb';replace hs:=yj hb' hs;obtain⟨ga,hga0⟩:∃ s,z2.heap.size=s:=⟨_,rfl⟩
     rw[hga0] at hga hlc;simp only[hga0];replace hb:=ya hb' hb;generalize z2.alloc (.cells #[.slice a1 D1.length k1,.slice a2 D2.length D2.length,.slice a3 D3.length k3] 31)=x3 at hga hb hHeld h1 h2 h3 hs |-;clear hb' hga0 hlc;refine tgo (i:=10) (by kernel_rfl) rfl (fun K hK=>?_);have hlc:w4.heap.size<=x3.heap.size:=hb.size;go_simp;have l1:D1.length<=400:=by rw[<- List.length_map (f:=Sv.s),hD1];exact Nat.le_trans (yci _) (by have:=HCN.out;rw[show (yZ g o).body=yfF o++((ybI g).1++g.es.map (ya8 g.ns)) from rfl,ybE] at this;omega)
     have l3:D3.length<=400:=by rw[<- List.length_map (f:=Sv.s),hD3,List.length_map];have:=HGV.out.el;omega
     refine(ydG (.slice a1 D1.length k1) (.slice a2 D2.length D2.length) (.slice a3 D3.length k3) D1 D2 D3 (n0+3) ga x3 (Lh h1) (Lh h2) (Lh h3) (by omega) (by have:=HD2L.out;omega) (by omega) (Lh hga) (by omega)).mono ?_;rintro e x4 ⟨⟨v,rfl,hv⟩,hb'⟩;refine hK.out _ _ (fun _=>(by have k:=hHeld;repeat first | exact yb hb' k | (refine⟨yb hb' k.1,?_⟩;replace k:=k.2))) (fun hHeld=>?_);replace hHeld:=hHeld (by decide);clear hK K
     try simp only[sA,sB,sC]
     replace hs:=yj hb' hs;have hDD:(D1++D2++D3).map Sv.s=(yZ g o).body:=by rw[List.map_append,List.map_append,hD1,HD2.out,hD3,List.append_assoc];rfl
     obtain⟨D,hD⟩:∃ D,D1++D2++D3=D:=⟨_,rfl⟩
     rw[hD] at hv hDD;obtain⟨ao,cap,rfl,qc1,qc2⟩:=hv.form2;replace hb:=ya hb' hb;clear hb' hlc h1 h2 h3 hga hD1 hD3 l1 l3 hD;refine tgo (i:=11) (by kernel_rfl) rfl (fun K hK=>?_);have hlc:w4.heap.size<=x4.heap.size:=hb.size;go_simp;refine(ycl ao D.length cap x4 qc1 qc2).mono ?_;rintro e x5 ⟨rfl,rfl⟩;refine hK.out _ _ (fun _=>(by have k:=hHeld;repeat first | exact k | (refine⟨k.1,?_⟩;replace k:=k.2))) (fun hHeld=>?_);replace hHeld:=hHeld (by decide);clear hK K
     try simp only[sA,sB,sC]
     refine ton 12 39 (.agg #[.string Gn,.bool g.dir,.slice ao D.length D.length]) ?_
     try simp only[sA,sB,sC]
     have f0:x4.frozen? ⟨tb,0,none⟩=false:=yk hs;have e0:=bc 0 hs;have f1:x4.frozen? ⟨tb,1,none⟩=false:=yk hs;have e1:=bc 1 hs;have f2:x4.frozen? ⟨tb,2,none⟩=false:=yk hs;have e2:=bc 2 hs;refine tgo (i:=14) (by kernel_rfl) rfl (fun K hK=>?_);go_simp;refine hK.out _ _ (fun h=>absurd rfl h) (fun hHeld=>?_);clear hK K hHeld
     try simp only[sA,sB,sC]
     refine yb3 (by kernel_rfl) ?_ _;have hst:Sts x4 (.slice ao D.length D.length) (yZ g o).body:=by rw[<- hDD];exact hv.cut.selfL _ (agree.self _ _ _)
     have hbt:=HB4.out.trans (hb.mono (by omega));exact⟨rfl,(HM.out _ _).2 ⟨tb,ao,D.length,D.length,rfl,by omega,yA hbt (by omega) _ _ _,ycV (yj hb HK3.out) (by omega) _ _ _,yag hs _ _ _,ybj hst hs (yk3 _ _ _)⟩⟩
   ·
    have hs:=yl y1 #[.string ⟨#[]⟩,.bool false,.slice none 0 0] 33;have hb':=al1 y1 (.cells #[.string ⟨#[]⟩,.bool false,.slice none 0 0] 33);go_simp;refine hK.out _ _ (fun _=>(by have k:=hHeld;repeat first | exact yh k | (refine⟨yh k.1,?_⟩;replace k:=k.2))) (fun hHeld=>?_);replace hHeld:=hHeld (by decide);clear hK K
    try simp only[sA,sB,sC]
    replace h2:=h2.below hb';replace h1:=h1.below hb';have hls:w4.heap.size<=y1.heap.size:=hb.size;obtain⟨tb,hss⟩:∃ s,y1.heap.size=s:=⟨_,rfl⟩
    rw[hss] at hs hls;simp only[hss];replace hb:=ya hb' hb;generalize y1.alloc (.cells #[.string ⟨#[]⟩,.bool false,.slice none 0 0] 33)=z1 at hs hb hHeld h2 h1 |-;clear hb' hss;refine tgo (i:=8) (by kernel_rfl) rfl (fun K hK=>?_);have hlc:w4.heap.size<=z1.heap.size:=hb.size;go_simp;refine(yfv g _ z1 (Lh (HG.out.keep (show Below w.heap.size w z1 by rw[HN0.out];exact HB4.out.trans (hb.mono (by omega))))) HGV (Lh (yt htb.out (show Below w.heap.size w z1 by rw[HN0.out];exact HB4.out.trans (hb.mono (by omega)))))).mono ?_;rintro e x2 ⟨⟨v3,D3,rfl,hrs,hD3⟩,hb'⟩;refine hK.out _ _ (fun _=>(by have k:=hHeld;repeat first | exact yb hb' k | (refine⟨yb hb' k.1,?_⟩;replace k:=k.2))) (fun hHeld=>?_);replace hHeld:=hHeld (by decide);clear hK K
    try simp only[sA,sB,sC]
    replace h2:=h2.below hb';replace h1:=h1.below hb';replace hs:=yj hb' hs;have h3:=hrs.rc.lower (B:=n0+3) (by omega);clear hrs;obtain⟨a3,k3,rfl⟩:=h3.form;replace hb:=ya hb' hb;clear hb' hlc;refine tgo (i:=9) (by kernel_rfl) rfl (fun K hK=>?_);have hlc:w4.heap.size<=x2.heap.size:=hb.size;go_simp;have hga:=yl x2 #[.slice a1 D1.length k1,.slice a2 D2.length D2.length,.slice a3 D3.length k3] 31;have hb':=al1 x2 (.cells #[.slice a1 D1.length k1,.slice a2 D2.length D2.length,.slice a3 D3.length k3] 31);refine hK.out _ _ (fun _=>(by have k:=hHeld;repeat first | exact yh k | (refine⟨yh k.1,?_⟩;replace k:=k.2))) (fun hHeld=>?_);replace hHeld:=hHeld (by decide);clear hK K
    try simp only[sA,sB,sC]
    replace h2:=h2.below hb';replace h1:=h1.below hb';replace h3:=h3.below hb';replace hs:=yj hb' hs;obtain⟨ga,hga0⟩:∃ s,x2.heap.size=s:=⟨_,rfl⟩
    rw[hga0] at hga hlc;simp only[hga0];replace hb:=ya hb' hb;generalize x2.alloc (.cells #[.slice a1 D1.length k1,.slice a2 D2.length D2.length,.slice a3 D3.length k3] 31)=x3 at hga hb hHeld h1 h2 h3 hs |-;clear hb' hga0 hlc;refine tgo (i:=10) (by kernel_rfl) rfl (fun K hK=>?_);have hlc:w4.heap.size<=x3.heap.size:=hb.size;go_simp;have l1:D1.length<=400:=by rw[<- List.length_map (f:=Sv.s),hD1];exact Nat.le_trans (yci _) (by have:=HCN.out;rw[show (yZ g o).body=yfF o++((ybI g).1++g.es.map (ya8 g.ns)) from rfl,ybE] at this;omega)
    have l3:D3.length<=400:=by rw[<- List.length_map (f:=Sv.s),hD3,List.length_map];have:=HGV.out.el;omega
    refine(ydG (.slice a1 D1.length k1) (.slice a2 D2.length D2.length) (.slice a3 D3.length k3) D1 D2 D3 (n0+3) ga x3 (Lh h1) (Lh h2) (Lh h3) (by omega) (by have:=HD2L.out;omega) (by omega) (Lh hga) (by omega)).mono ?_;rintro e x4 ⟨⟨v,rfl,hv⟩,hb'⟩;refine hK.out _ _ (fun _=>(by have k:=hHeld;repeat first | exact yb hb' k | (refine⟨yb hb' k.1,?_⟩;replace k:=k.2))) (fun hHeld=>?_);replace hHeld:=hHeld (by decide);clear hK K
    try simp only[sA,sB,sC]
    replace hs:=yj hb' hs;have hDD:(D1++D2++D3).map Sv.s=(yZ g o).body:=by rw[List.map_append,List.map_append,hD1,HD2.out,hD3,List.append_assoc];rfl
    obtain⟨D,hD⟩:∃ D,D1++D2++D3=D:=⟨_,rfl⟩
    rw[hD] at hv hDD;obtain⟨ao,cap,rfl,qc1,qc2⟩:=hv.form2;replace hb:=ya hb' hb;clear hb' hlc h1 h2 h3 hga hD1 hD3 l1 l3 hD;refine tgo (i:=11) (by kernel_rfl) rfl (fun K hK=>?_);have hlc:w4.heap.size<=x4.heap.size:=hb.size;go_simp;refine(ycl ao D.length cap x4 qc1 qc2).mono ?_;rintro e x5 ⟨rfl,rfl⟩;refine hK.out _ _ (fun _=>(by have k:=hHeld;repeat first | exact k | (refine⟨k.1,?_⟩;replace k:=k.2))) (fun hHeld=>?_);replace hHeld:=hHeld (by decide);clear hK K
    try simp only[sA,sB,sC]
    refine ton 12 39 (.agg #[.string Gn,.bool g.dir,.slice ao D.length D.length]) ?_
    try simp only[sA,sB,sC]
    have f0:x4.frozen? ⟨tb,0,none⟩=false:=yk hs;have e0:=bc 0 hs;have f1:x4.frozen? ⟨tb,1,none⟩=false:=yk hs;have e1:=bc 1 hs;have f2:x4.frozen? ⟨tb,2,none⟩=false:=yk hs;have e2:=bc 2 hs;refine tgo (i:=14) (by kernel_rfl) rfl (fun K hK=>?_);go_simp;refine hK.out _ _ (fun h=>absurd rfl h) (fun hHeld=>?_);clear hK K hHeld
    try simp only[sA,sB,sC]
    refine yb3 (by kernel_rfl) ?_ _;have hst:Sts x4 (.slice ao D.length D.length) (yZ g o).body:=by rw[<- hDD];exact hv.cut.selfL _ (agree.self _ _ _)
    have hbt:=HB4.out.trans (hb.mono (by omega));exact⟨rfl,(HM.out _ _).2 ⟨tb,ao,D.length,D.length,rfl,by omega,yA hbt (by omega) _ _ _,ycV (yj hb HK3.out) (by omega) _ _ _,yag hs _ _ _,ybj hst hs (yk3 _ _ _)⟩⟩
  ·
   have hs:=yl y0 #[.string ⟨#[]⟩,.bool false,.slice none 0 0] 33;have hb':=al1 y0 (.cells #[.string ⟨#[]⟩,.bool false,.slice none 0 0] 33);go_simp;refine hK.out _ _ (fun _=>(by have k:=hHeld;repeat first | exact yh k | (refine⟨yh k.1,?_⟩;replace k:=k.2))) (fun hHeld=>?_);replace hHeld:=hHeld (by decide);clear hK K
   try simp only[sA,sB,sC]
   replace h2:=h2.below hb';have hls:w4.heap.size<=y0.heap.size:=hb.size;obtain⟨tb,hss⟩:∃ s,y0.heap.size=s:=⟨_,rfl⟩
   rw[hss] at hs hls;simp only[hss];replace hb:=ya hb' hb;generalize y0.alloc (.cells #[.string ⟨#[]⟩,.bool false,.slice none 0 0] 33)=z0 at hs hb hHeld h2 |-;clear hb' hss;refine tgo (i:=5) (by kernel_rfl) rfl (fun K hK=>?_);have hlc:w4.heap.size<=z0.heap.size:=hb.size;go_simp;refine(yj5 o z0 HOP (Lh (yt htb.out (show Below w.heap.size w z0 by rw[HN0.out];exact HB4.out.trans (hb.mono (by omega)))))).mono ?_;rintro e x1 ⟨⟨v1,D1,rfl,hrs,hD1⟩,hb'⟩;refine hK.out _ _ (fun _=>(by have k:=hHeld;repeat first | exact yb hb' k | (refine⟨yb hb' k.1,?_⟩;replace k:=k.2))) (fun hHeld=>?_);replace hHeld:=hHeld (by decide);clear hK K
   try simp only[sA,sB,sC]
   replace h2:=h2.below hb';replace hs:=yj hb' hs;have h1:=hrs.rc.lower (B:=n0+3) (by omega);clear hrs;obtain⟨a1,k1,rfl⟩:=h1.form;replace hb:=ya hb' hb;clear hb' hlc;refine tgo (i:=8) (by kernel_rfl) rfl (fun K hK=>?_);have hlc:w4.heap.size<=x1.heap.size:=hb.size;go_simp;refine(yfv g _ x1 (Lh (HG.out.keep (show Below w.heap.size w x1 by rw[HN0.out];exact HB4.out.trans (hb.mono (by omega))))) HGV (Lh (yt htb.out (show Below w.heap.size w x1 by rw[HN0.out];exact HB4.out.trans (hb.mono (by omega)))))).mono ?_;rintro e x2 ⟨⟨v3,D3,rfl,hrs,hD3⟩,hb'⟩;refine hK.out _ _ (fun _=>(by have k:=hHeld;repeat first | exact yb hb' k | (refine⟨yb hb' k.1,?_⟩;replace k:=k.2))) (fun hHeld=>?_);replace hHeld:=hHeld (by decide);clear hK K
   try simp only[sA,sB,sC]
   replace h2:=h2.below hb';replace h1:=h1.below hb';replace hs:=yj hb' hs;have h3:=hrs.rc.lower (B:=n0+3) (by omega);clear hrs;obtain⟨a3,k3,rfl⟩:=h3.form;replace hb:=ya hb' hb;clear hb' hlc;refine tgo (i:=9) (by kernel_rfl) rfl (fun K hK=>?_);have hlc:w4.heap.size<=x2.heap.size:=hb.size;go_simp;have hga:=yl x2 #[.slice a1 D1.length k1,.slice a2 D2.length D2.length,.slice a3 D3.length k3] 31;have hb':=al1 x2 (.cells #[.slice a1 D1.length k1,.slice a2 D2.length D2.length,.slice a3 D3.length k3] 31);refine hK.out _ _ (fun _=>(by have k:=hHeld;repeat first | exact yh k | (refine⟨yh k.1,?_⟩;replace k:=k.2))) (fun hHeld=>?_);replace hHeld:=hHeld (by decide);clear hK K
   try simp only[sA,sB,sC]
   replace h2:=h2.below hb';replace h1:=h1.below hb';replace h3:=h3.below hb';replace hs:=yj hb' hs;obtain⟨ga,hga0⟩:∃ s,x2.heap.size=s:=⟨_,rfl⟩
   rw[hga0] at hga hlc;simp only[hga0];replace hb:=ya hb' hb;generalize x2.alloc (.cells #[.slice a1 D1.length k1,.slice a2 D2.length D2.length,.slice a3 D3.length k3] 31)=x3 at hga hb hHeld h1 h2 h3 hs |-;clear hb' hga0 hlc;refine tgo (i:=10) (by kernel_rfl) rfl (fun K hK=>?_);have hlc:w4.heap.size<=x3.heap.size:=hb.size;go_simp;have l1:D1.length<=400:=by rw[<- List.length_map (f:=Sv.s),hD1];exact Nat.le_trans (yci _) (by have:=HCN.out;rw[show (yZ g o).body=yfF o++((ybI g).1++g.es.map (ya8 g.ns)) from rfl,ybE] at this;omega)
   have l3:D3.length<=400:=by rw[<- List.length_map (f:=Sv.s),hD3,List.length_map];have:=HGV.out.el;omega
   refine(ydG (.slice a1 D1.length k1) (.slice a2 D2.length D2.length) (.slice a3 D3.length k3) D1 D2 D3 (n0+3) ga x3 (Lh h1) (Lh h2) (Lh h3) (by omega) (by have:=HD2L.out;omega) (by omega) (Lh hga) (by omega)).mono ?_;rintro e x4 ⟨⟨v,rfl,hv⟩,hb'⟩;refine hK.out _ _ (fun _=>(by have k:=hHeld;repeat first | exact yb hb' k | (refine⟨yb hb' k.1,?_⟩;replace k:=k.2))) (fun hHeld=>?_);replace hHeld:=hHeld (by decide);clear hK K
   try simp only[sA,sB,sC]
   replace hs:=yj hb' hs;have hDD:(D1++D2++D3).map Sv.s=(yZ g o).body:=by rw[List.map_append,List.map_append,hD1,HD2.out,hD3,List.append_assoc];rfl
   obtain⟨D,hD⟩:∃ D,D1++D2++D3=D:=⟨_,rfl⟩
   rw[hD] at hv hDD;obtain⟨ao,cap,rfl,qc1,qc2⟩:=hv.form2;replace hb:=ya hb' hb;clear hb' hlc h1 h2 h3 hga hD1 hD3 l1 l3 hD;refine tgo (i:=11) (by kernel_rfl) rfl (fun K hK=>?_);have hlc:w4.heap.size<=x4.heap.size:=hb.size;go_simp;refine(ycl ao D.length cap x4 qc1 qc2).mono ?_;rintro e x5 ⟨rfl,rfl⟩;refine hK.out _ _ (fun _=>(by have k:=hHeld;repeat first | exact k | (refine⟨k.1,?_⟩;replace k:=k.2))) (fun hHeld=>?_);replace hHeld:=hHeld (by decide);clear hK K
   try simp only[sA,sB,sC]
   refine ton 12 39 (.agg #[.string Gn,.bool g.dir,.slice ao D.length D.length]) ?_
   try simp only[sA,sB,sC]
   have f0:x4.frozen? ⟨tb,0,none⟩=false:=yk hs;have e0:=bc 0 hs;have f1:x4.frozen? ⟨tb,1,none⟩=false:=yk hs;have e1:=bc 1 hs;have f2:x4.frozen? ⟨tb,2,none⟩=false:=yk hs;have e2:=bc 2 hs;refine tgo (i:=14) (by kernel_rfl) rfl (fun K hK=>?_);go_simp;refine hK.out _ _ (fun h=>absurd rfl h) (fun hHeld=>?_);clear hK K hHeld
   try simp only[sA,sB,sC]
   refine yb3 (by kernel_rfl) ?_ _;have hst:Sts x4 (.slice ao D.length D.length) (yZ g o).body:=by rw[<- hDD];exact hv.cut.selfL _ (agree.self _ _ _)
   have hbt:=HB4.out.trans (hb.mono (by omega));exact⟨rfl,(HM.out _ _).2 ⟨tb,ao,D.length,D.length,rfl,by omega,yA hbt (by omega) _ _ _,ycV (yj hb HK3.out) (by omega) _ _ _,yag hs _ _ _,ybj hst hs (yk3 _ _ _)⟩⟩
 intro a5 w5 hm;obtain⟨tb,ao,n,c,ha,htl,hb5,hk3,hk5,hst⟩:=(HM.out _ _).1 hm;obtain⟨f,rfl⟩:=ha.use;clear HM hm M ha HK1 HK2 HK3 HB4 HRC2 HD2;obtain⟨d0,d1,d2⟩:=b3c hk5;obtain⟨R,hR⟩:∃ R,yab (yZ g o)=R:=⟨_,rfl⟩
 have HRR:=Lh hR;have HK3:=Lh hk3;have HK5:=Lh hk5;have HB5:=Lh hb5;have HST:=Lh hst;have HTV:Hid (TrV w5 (.agg #[.string Gn,.bool g.dir,.slice ao n c]) (yZ g o)):=Lh ⟨_,by rw[<- HGN.out];rfl,HGL.out,hst⟩;clear hR hk3 hk5 hb5 hst;go_wp2_with fail
 refine(yho _ (yZ g o) R w5 HTV (Nat.le_trans HCN.out (by decide)) HRR).mono ?_;rintro e w6 ⟨rfl,hb6⟩;have HK3':=Lh (yj hb6 HK3.out);have HK5':=Lh (yj hb6 HK5.out);have HST':=Lh (HST.out.keep hb6);have HB6:=Lh (HB5.out.trans (hb6.mono (by have:=HB5.out.size;have:=HN0.out;omega)));clear hb6 HK3 HK5 HST HB5 HTV d0 d1 d2;have hz6:=yP HK5'.out
 by_cases r0:R=0
 case neg =>
  have bv:(R != 0)=true:=by rw[bne_iff_ne];exact r0
  have HE:Hid (T=emT/\E=R):=Lh (by have:=HR2.out;rw[HRR.out,if_pos r0] at this;exact⟨(Prod.mk.inj this).1.symm,(Prod.mk.inj this).2.symm⟩);clear r0;have f0:w6.frozen? ⟨n0+2,0,none⟩=false:=yk HK3'.out;have f1:w6.frozen? ⟨n0+2,1,none⟩=false:=yk HK3'.out;have f2:w6.frozen? ⟨n0+2,2,none⟩=false:=yk HK3'.out;obtain⟨z0,z1,z2⟩:=b3c HK3'.out;go_wp2;obtain⟨rfl,rfl⟩:=HE.out;have hbx:=yag (HK3'.out) (.string ⟨#[]⟩) (.bool false) (.slice none 0 0);have r0:=yd (o:=0) hbx;have r1:=yd (o:=1) hbx;have r2:=yd (o:=2) hbx;refine bodyPost_ret (v:=.tuple #[.agg #[.string ⟨#[]⟩,.bool false,.slice none 0 0],.int .i64 E]) (by simp[results,results10,go_sem,r0,r1,r2]) rfl ?_;exact⟨_,rfl,yj4 _,by rw[HN0.out];exact yA (HB6.out) (by omega) _ _ _⟩
 have bv:(R != 0)=false:=by rw[r0];rfl
 have HE:Hid (T=yZ g o/\E=0):=Lh (by have:=HR2.out;rw[HRR.out,if_neg (fun e=>e r0)] at this;exact⟨(Prod.mk.inj this).1.symm,(Prod.mk.inj this).2.symm⟩);clear r0;obtain⟨d0,d1,d2⟩:=b3c HK5'.out;have f0:w6.frozen? ⟨n0+2,0,none⟩=false:=yk HK3'.out;have f1:w6.frozen? ⟨n0+2,1,none⟩=false:=yk HK3'.out;have f2:w6.frozen? ⟨n0+2,2,none⟩=false:=yk HK3'.out;obtain⟨z0,z1,z2⟩:=b3c HK3'.out;go_wp2;obtain⟨rfl,rfl⟩:=HE.out;have hbx:=yag HK3'.out (.string Gn) (.bool g.dir) (.slice ao n c);have r0:=yd (o:=0) hbx;have r1:=yd (o:=1) hbx;have r2:=yd (o:=2) hbx;refine bodyPost_ret (v:=.tuple #[.agg #[.string Gn,.bool g.dir,.slice ao n c],.int .i64 0]) (by simp[results,results10,go_sem,r0,r1,r2]) rfl ?_;exact⟨_,rfl,⟨_,by rw[<- HGN.out];rfl,HGL.out,ybj HST'.out HK3'.out (yk3 _ _ _)⟩,by rw[HN0.out];exact yA HB6.out (by omega) _ _ _⟩
end Go.Proofs.YtgmidodmmlmmeaaGreatDoor.xpt
namespace Go.Proofs.YtgmidodmmlmmeaaGreatDoor.xpt
open Go.RowKit lex tre att nor prt
def Few (s:St):Prop:=s.refs.length<=2/\s.attrs.length<=4
def FewL (l:List St):Prop:=∀ lv,∀ y∈ybt l lv,Few y.1
theorem FewL.nil:FewL []:=fun lv y hy=>by rw[yef] at hy;cases hy
theorem FewL.cons {x:St}{t:List St}(h:Few x)(hb:FewL x.body)(ht:FewL t):FewL (x::t):=fun lv y hy=>by
 rw[yH,y6] at hy
 rcases List.mem_append.1 hy with q | q
 ·rcases List.mem_cons.1 q with rfl | q
  ·exact h
  ·exact hb _ y q
 ·exact ht lv y q
theorem FewL.app {a b:List St}(ha:FewL a)(hb:FewL b):FewL (a++b):=fun lv y hy=>by
 rw[yba] at hy
 rcases List.mem_append.1 hy with q | q
 ·exact ha lv y q
 ·exact hb lv y q
theorem yiv {P:Prop}[Decidable P]{k v:List UInt8}:FewL (if P then [] else [yfL k v]):=by
 by_cases h:P
 ·rw[if_pos h];exact FewL.nil
 ·rw[if_neg h];exact FewL.cons ⟨Nat.zero_le _,by show 1<=4;decide⟩ FewL.nil FewL.nil
theorem ypE (o:Op'):FewL (yfF o):=by
 unfold yfF;exact yiv.app (yiv.app (yiv.app (yiv.app yiv)))
theorem ytB (P:Prop)[Decidable P](a:Pr):(if P then [] else [a]:List Pr).length<=1:=by split <;> simp
theorem yiw (ns:List gra.Nd):∀ t:List gra.Ed,FewL (t.map (ya8 ns))
 | []=>FewL.nil
 | e::t=>FewL.cons ⟨by unfold ya8;exact Nat.le_refl _,by
    show (ybC e).length<=4
    unfold ybC;have:=ytB;simp only[List.length_append]
    repeat (first | omega | (split <;> simp only[List.length_cons,List.length_nil] at *))⟩ FewL.nil (yiw ns t)
theorem ypF (x:gra.Nd):Few (ybp x):=⟨Nat.zero_le _,by
 show (ybd x).length<=4
 unfold ybd;simp only[List.length_append]
 repeat (first | omega | (split <;> simp only[List.length_cons,List.length_nil] at *))⟩
theorem yhp (g:gra.Gr):∀ (f:Nat) (c:Int) (n k:Nat),FewL (yR g f c n k).1
 | 0,c,n,k=>by rw[yR];exact FewL.nil
 | f+1,c,n,k=>by
  have nd:∀ y:gra.Nd,g.ns[n]?=some y->FewL (ybp y::(yR g f c (n+1) k).1):=fun y _ =>
   FewL.cons (ypF y) FewL.nil (yhp g f c (n+1) k)
  rw[yR]
  cases h1:g.cs[k]? with
  | none =>
   cases h2:g.ns[n]? with
   | none=>exact FewL.nil
   | some y =>
    simp only
    split
    ·exact nd y h2
    ·exact FewL.nil
  | some x =>
   simp only
   split
   ·exact FewL.cons ⟨Nat.zero_le _,Nat.zero_le _⟩ (yhp g f k n (k+1)) (yhp g f c _ _)
   ·cases h2:g.ns[n]? with
    | none=>exact FewL.nil
    | some y =>
     simp only
     split
     ·exact nd y h2
     ·exact FewL.nil
theorem yhq (g:gra.Gr)(o:Op'):FewL (yZ g o).body:=(ypE o).app ((yhp g _ _ _ _).app (yiw g.ns _))
theorem FewL.ok {l:List St}(h:FewL l):okL l:=fun x hx=>⟨Nat.le_trans (h 0 x hx).1 (by decide),Nat.le_trans (h 0 x hx).2 (by decide)⟩
theorem ypG (d:Bool)(M:Nat):(∀ s:St,∀ (m:Nat) (lv:Int),0<=lv->(∀ x∈ykD s lv,ybs x.1 x.2=0)->(∀ x∈ykD s lv,Few x.1)->m+4*(6-lv).toNat<=M->(stS prL d m s).length<=(1+cnt s.body)*(2*M+600)) /\
    ∀ l:List St,∀ (m:Nat) (lv:Int),0<=lv->(∀ x∈ybt l lv,ybs x.1 x.2=0)->(∀ x∈ybt l lv,Few x.1)->m+4*(6-lv).toNat<=M->(stL prL d m l).length<=cnt l*(2*M+600):=by
 refine ya2 (fun k n r a b hb m lv h0 hs hf0 hm=>?_) (fun m lv _ _ _ _=>by simp[stL]) (fun s t hs ht m lv h0 h1 h2 hm=>?_)
 ·have hv:vS (St.mk k n r a b):=⟨lv,hs⟩
  have hatt:=hv.att;have hvals:=hv.vals;have ho:r.length<=2/\a.length<=4:=(hf0 (St.mk k n r a b,lv) (by rw[y6];exact List.mem_cons_self ..):Few (St.mk k n r a b))
  have one:∀ x:Nat,x<=m+590->x<=(1+cnt ([]:List St))*(2*M+600):=fun x hx=>by
   have e:1+cnt ([]:List St)=1:=rfl;rw[e,Nat.one_mul];omega
  have hh:=hs (St.mk k n r a b,lv) (by rw[y6];exact List.mem_cons_self ..);have hf:=hv.form;generalize hS:St.mk k n r a b=S at hf hv hatt hvals hh |-
  cases hf with
  | node n' a' hn hk =>
   cases hS
   have h1:=ydi hn;have h2:=yhj (hatt (by show (1:Int)≠4;decide));simp only[St.attrs] at h2;refine one _ ?_;simp only[stS,if_true,List.length_append,List.length_replicate,List.length_cons,List.length_nil];omega
  | edge r1 r2 t' a' hr hk =>
   cases hS
   have h1:=yki d (l:=r1::r2::t') hr;have h2:=yhj (hatt (by show (2:Int)≠4;decide));simp only[St.attrs] at h2;have h4:=ho.1;refine one _ ?_;have e:stS prL d m (.mk 2 [] (r1::r2::t') a [])=List.replicate m 32++(ymH d (r1::r2::t')++(aft prL a++[59,10])):=by simp[stS]
   rw[e];simp only[List.length_append,List.length_replicate,List.length_cons,List.length_nil] at h1 h4 |-;omega
  | dflt n' a' hn hk =>
   cases hS
   have h1:n.length=4:=by rcases hn with rfl | rfl <;> rfl
   have h2:=yev (hatt (by show (3:Int)≠4;decide));simp only[St.attrs] at h2;refine one _ ?_;have e:stS prL d m (.mk 3 n [] a [])=List.replicate m 32++(n++32::((if a.isEmpty then [91,93] else ymF prL a)++[59,10])):=by simp[stS]
   have h5:(if a.isEmpty then [91,93] else ymF prL a:List UInt8).length<=400:=by
    split
    ·simp
    ·omega
   rw[e];simp only[List.length_append,List.length_replicate,List.length_cons,List.length_nil];omega
  | sset n' v hn =>
   cases hS
   have h1:=ydi hn;have h2:(yiD prL v).length<=66:=yhi (hvals ([],v) (by simp[St.attrs])).1;refine one _ ?_;have e:stS prL d m (.mk 4 n [] [([],v)] [])=List.replicate m 32++(yrV++32::(n++32::61::32::(yiD prL v++[59,10]))):=by simp[stS]
   have h3:yrV.length=3:=rfl;rw[e];simp only[List.length_append,List.length_replicate,List.length_cons,List.length_nil];omega
  | clus n' b' hn =>
   cases hS
   have h1:=ydi hn
   have hlv:¬ (6:Int)<=lv:=fun e=>by
    unfold ybs at hh
    by_cases q:ydL (St.mk 5 n [] [] b)≠0
    ·rw[if_pos q] at hh;exact q hh
    ·rw[if_neg q,if_pos ⟨rfl,e⟩] at hh;cases hh
   have hp:ykD (.mk 5 n [] [] b) lv=(.mk 5 n [] [] b,lv)::ybt b (lv+1):=by rw[y6];rfl
   have h2:=hb (m+4) (lv+1) (by omega) (fun x hx=>hs x (by rw[hp];exact List.mem_cons_of_mem _ hx)) (fun x hx=>hf0 x (by rw[hp];exact List.mem_cons_of_mem _ hx)) (by omega);have e:stS prL d m (.mk 5 n [] [] b)=List.replicate m 32++(wClu++32::(n++32::123::10::(stL prL d (m+4) b++(List.replicate m 32++[125,10])))):=by simp[stS]
   have h3:wClu.length=7:=rfl
   show _<=(1+cnt b)*(2*M+600)
   rw[e,Nat.add_mul,Nat.one_mul];generalize cnt b*(2*M+600)=P at h2 |-;simp only[List.length_append,List.length_replicate,List.length_cons,List.length_nil];omega
 ·have k1:=hs m lv h0 (fun x hx=>h1 x (by rw[yH];exact List.mem_append_left _ hx)) (fun x hx=>h2 x (by rw[yH];exact List.mem_append_left _ hx)) hm
  have k2:=ht m lv h0 (fun x hx=>h1 x (by rw[yH];exact List.mem_append_right _ hx)) (fun x hx=>h2 x (by rw[yH];exact List.mem_append_right _ hx)) hm;rw[yaI];have e:(stL prL d m (s::t)).length=(stS prL d m s).length+(stL prL d m t).length:=by simp[stL]
  rw[e,Nat.add_mul (1+cnt s.body)];omega
theorem ypH (g:gra.Gr)(o:Op')(hg:GV g)(h:yab (yZ g o)=0):(yph prL (yZ g o)).length<=900000:=by
 have hv:=(yaO (yZ g o)).1 h;have h1:=ydi hv.1;have h2:=(ypG (yZ g o).dir 28).2 (yZ g o).body 4 0 (Int.le_refl _) hv.2.2 (yhq g o 0) (by decide);have h3:cnt (yZ g o).body*(2*28+600)<=400*(2*28+600):=Nat.mul_le_mul (yhc g o hg) (Nat.le_refl _);have h4:(yrW (yZ g o).dir).length<=7:=by unfold yrW;split <;> simp
 unfold yph;rw[if_pos h];unfold ytl;simp only[List.length_append,List.length_cons,List.length_nil];omega
end Go.Proofs.YtgmidodmmlmmeaaGreatDoor.xpt
