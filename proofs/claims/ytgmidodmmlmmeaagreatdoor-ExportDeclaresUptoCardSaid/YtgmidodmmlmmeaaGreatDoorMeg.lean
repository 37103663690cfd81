/-
  Contracts and plain facts of the layers below; conditions as each theorem states them.
-/
import Derived.Test.YtgmidodmmlmmeaaGreatDoorMef
import Derived.Test.YtgmidodmmlmmeaaGreatDoorMpd
import Derived.Test.YtgmidodmmlmmeaaGreatDoorMnb
set_option maxHeartbeats 32000000
set_option maxRecDepth 100000
namespace Go.Proofs.YtgmidodmmlmmeaaGreatDoor.xpt
open Go.RowKit Go.Sort lex tre att nor prt _root_.Go.Proofs.Tryz
def yk5 (g:gra.Gr)(o:Op'):List UInt8 × Int :=
 if (ybK g o).2≠0 then ([],(ybK g o).2) else if 16384<(yph prL (ybK g o).1).length then ([],2) else (yph prL (ybK g o).1,0)
theorem yne {g:gra.Gr}{o:Op'}{T:Tr}(h:ybK g o=(T,0)):T=yZ g o/\gra.validE g=0/\okO o=true/\yab (yZ g o)=0:=by
 unfold ybK at h
 split at h
 ·exact absurd (Prod.mk.inj h).2 (by decide)
 ·rename_i q
  split at h
  ·exact absurd (Prod.mk.inj h).2 (by decide)
  ·split at h
   ·rename_i q2
    exact absurd (Prod.mk.inj h).2 q2
   ·rename_i q2
    refine⟨(Prod.mk.inj h).1.symm,Decidable.byContradiction fun e=>q (Or.inl e),?_,Decidable.byContradiction fun e=>q2 e⟩
    cases e:okO o with
    | true=>rfl
    | false=>exact absurd (Or.inr e) q
theorem yk6 (g:gra.Gr)(o:Op')(gv:Value)(S:ByteArray)(s:List UInt8)(E:Int)(w:World)(h:Hid (gra.GrV w gv g))(htb:Hid (Tab w))(hr:Hid (yk5 g o=(s,E)))(hS:Hid (bb s=S)) :
    Calls Tryz.prog 13 #[gv,opV o] w fun e w'=>e=.returned (.tuple #[.string S,.int .i64 E])/\Below w.heap.size w w':=by
 have hmx:Tryz.prog.follows .mixedOrders=true:=by kernel_rfl
 obtain⟨nv,ev,cv,rfl,hgn,hns,hes,hcs⟩:=id h.out;obtain⟨no,nc,rfl,-,hnm,-⟩:=id hns;obtain⟨eo,ec,rfl,-,-,-⟩:=id hes;obtain⟨co,cc,rfl,-,-,-⟩:=id hcs;clear hns hes hcs hgn hnm;obtain⟨Gn,hGn⟩:∃ X,bb g.nm=X:=⟨_,rfl⟩
 have HG:=Lh (show gra.GrV w (.agg #[.string Gn,.bool g.dir,.slice no g.ns.length nc,.slice eo g.es.length ec,.slice co g.cs.length cc]) g by rw[<- hGn];exact h.out);rw[show gra.bb g.nm=Gn from hGn];clear h hGn;unfold opV;obtain⟨T,TE,hT⟩:∃ T TE,ybK g o=(T,TE):=⟨_,_,rfl⟩
 have HT:=Lh hT;clear hT;have HK1:=Lh (yl w #[.string Gn,.bool g.dir,.slice no g.ns.length nc,.slice eo g.es.length ec,.slice co g.cs.length cc] 26);have HB1:=Lh (al1 w (.cells #[.string Gn,.bool g.dir,.slice no g.ns.length nc,.slice eo g.es.length ec,.slice co g.cs.length cc] 26));have HQ1:Hid ((w.alloc (.cells #[.string Gn,.bool g.dir,.slice no g.ns.length nc,.slice eo g.es.length ec,.slice co g.cs.length cc] 26)).heap.size=w.heap.size+1):=Lh (by simp);go_enter func13,ntmps13;go_wp2_with fail
 generalize w.alloc (.cells #[.string Gn,.bool g.dir,.slice no g.ns.length nc,.slice eo g.es.length ec,.slice co g.cs.length cc] 26)=wa at HK1 HB1 HQ1 |-;have hq1:=HQ1.out;have b2:=al1 wa (.cells #[.int .i64 o.mode,.int .i64 o.ns,.int .i64 o.rs,.int .i64 o.mg,.int .i64 o.rd] 28);have q2:(wa.alloc (.cells #[.int .i64 o.mode,.int .i64 o.ns,.int .i64 o.rs,.int .i64 o.mg,.int .i64 o.rd] 28)).heap.size=w.heap.size+2:=by simp;omega
 generalize wa.alloc (.cells #[.int .i64 o.mode,.int .i64 o.ns,.int .i64 o.rs,.int .i64 o.mg,.int .i64 o.rd] 28)=w1 at b2 q2 |-;have hb1:=ya b2 HB1.out;clear b2 HK1 HB1 HQ1 hq1;obtain⟨n0,hn0⟩:∃ n0,w.heap.size=n0:=⟨_,rfl⟩
 rw[hn0] at hb1 q2
 try simp only[hn0]
 have HN0:=Lh hn0;clear hn0;refine(ybQ g o _ T TE w1 (Lh (HG.out.keep (show Below w.heap.size w w1 by rw[HN0.out];exact hb1))) (Lh (yt htb.out (show Below w.heap.size w w1 by rw[HN0.out];exact hb1))) HT).mono ?_;rintro e w2 ⟨tv,rfl,htv,hb2⟩;obtain⟨bv,rfl,htn,hst⟩:=id htv;obtain⟨ao,ac,rfl,-⟩:=id hst;have HTV:=Lh htv;have HB2:=Lh (hb1.trans (hb2.mono (by omega)));have hz2:=HB2.out.size;clear hb1 hb2 htv htn hst;obtain⟨TN,hTN⟩:∃ X,bb T.name=X:=⟨_,rfl⟩
 rw[hTN] at HTV |-;clear hTN;have HB3:=Lh (al1 w2 (.cells #[.string TN,.bool T.dir,.slice ao T.body.length ac] 33));have HK3:=Lh (yl w2 #[.string TN,.bool T.dir,.slice ao T.body.length ac] 33)
 by_cases e0:TE=0
 case neg =>
  have bv:(TE != 0)=true:=by rw[bne_iff_ne];exact e0
  have HE:Hid (s=[]/\E=TE):=Lh (by have:=hr.out;unfold yk5 at this;rw[HT.out,if_pos (show (T,TE).2≠0 from e0)] at this;exact⟨(Prod.mk.inj this).1.symm,(Prod.mk.inj this).2.symm⟩);have HSS:Hid ((⟨#[]⟩:ByteArray)=S):=Lh (by rw[<- hS.out,HE.out.1]);clear e0;go_wp2;obtain⟨rfl,rfl⟩:=HE.out;obtain rfl:=HSS.out;refine bodyPost_ret (v:=.tuple #[.string ⟨#[]⟩,.int .i64 E]) (by simp[results,results13,go_sem]) rfl ⟨rfl,by rw[HN0.out];exact HB2.out.trans (HB3.out.mono (by have:=HN0.out;omega))⟩
 have bv:(TE != 0)=false:=by rw[e0];rfl
 subst e0;obtain⟨hTT,hv,-,hvt⟩:=yne HT.out;have hgv:=ykK hv;have HC:Hid (cnt T.body<=600):=Lh (by rw[hTT];exact Nat.le_trans (yhc g o hgv) (by decide));have HO:Hid (okL T.body):=Lh (by rw[hTT];exact(yhq g o).ok);have hlen:(yph prL T).length<=900000:=by rw[hTT];exact ypH g o hgv hvt
 obtain⟨P,hP⟩:∃ P,yph prL T=P:=⟨_,rfl⟩
 have HR:Hid ((if 16384<P.length then ([],2) else (P,0))=(s,E)):=Lh (by have:=hr.out;unfold yk5 at this;rw[HT.out,if_neg (fun e=>e rfl)] at this;rw[<- hP];exact this);rw[hP] at hlen;obtain⟨Q,hQ⟩:∃ Q,bb P=Q:=⟨_,rfl⟩
 have hqs:Q.size=P.length:=by rw[<- hQ];show P.toArray.size=_;rw[List.size_toArray]
 have HP:Hid (yph prL T=Q.data.toList):=Lh (by rw[hP,<- hQ]);have HQ:=Lh hQ;clear hTT hv hvt hgv hP hQ hr HT;go_wp2_with fail
 refine(ynd T _ Q _ (Lh (HTV.out.keep HB3.out)) HC HO HP (by omega)).mono ?_;rintro e w4 ⟨rfl,hb4⟩;have HB4:=Lh ((HB2.out.trans (HB3.out.mono (by have:=HN0.out;omega))).trans (hb4.mono (by have:=HB3.out.size;have:=HN0.out;omega)));clear hb4 HB3 HK3 HTV
 by_cases hlt:16384<P.length
 case pos =>
  have HE:Hid (s=[]/\E=2):=Lh (by have:=HR.out;rw[if_pos hlt] at this;exact⟨(Prod.mk.inj this).1.symm,(Prod.mk.inj this).2.symm⟩);have HSS:Hid ((⟨#[]⟩:ByteArray)=S):=Lh (by rw[<- hS.out,HE.out.1]);have bg:decide ((16384:Int)<(P.length:Int))=true:=by rw[decide_eq_true_eq];omega
  clear hlt;go_wp2;obtain⟨rfl,rfl⟩:=HE.out;obtain rfl:=HSS.out;refine bodyPost_ret (v:=.tuple #[.string ⟨#[]⟩,.int .i64 2]) (by simp[results,results13,go_sem]) rfl ⟨rfl,by rw[HN0.out];exact HB4.out⟩
 have HE:Hid (s=P/\E=0):=Lh (by have:=HR.out;rw[if_neg hlt] at this;exact⟨(Prod.mk.inj this).1.symm,(Prod.mk.inj this).2.symm⟩);have HSS:Hid (Q=S):=Lh (by rw[<- hS.out,HE.out.1];exact HQ.out.symm);have bg:decide ((16384:Int)<(P.length:Int))=false:=by rw[decide_eq_false_iff_not];omega
 clear hlt;go_wp2;obtain⟨rfl,rfl⟩:=HE.out;obtain rfl:=HSS.out;refine bodyPost_ret (v:=.tuple #[.string Q,.int .i64 0]) (by simp[results,results13,go_sem]) rfl ⟨rfl,by rw[HN0.out];exact HB4.out⟩
end Go.Proofs.YtgmidodmmlmmeaaGreatDoor.xpt
namespace Go.Proofs.YtgmidodmmlmmeaaGreatDoor.xpt
open Go.RowKit lex tre att nor _root_.Go.Proofs.Tryz
def yfP:Op':=⟨0,10000,20000,5000,8⟩
theorem ycb (w:World):Calls Tryz.prog 24 #[] w fun e w'=>e=.returned (opV yfP)/\Below w.heap.size w w':=by
 go_enter func24,ntmps24;go_wp2;refine bodyPost_ret (v:=opV yfP) (by simp[results,results24,go_sem,opV,yfP]) rfl ⟨rfl,?_⟩;exact al1 w _
end Go.Proofs.YtgmidodmmlmmeaaGreatDoor.xpt
namespace Go.Proofs.YtgmidodmmlmmeaaGreatDoor.xpt
open Go.RowKit lex tre att nor prt
def exA:gra.Gr:=⟨[103],true,[⟨[97],[97],20000,10000,-1,[]⟩,⟨[98],[120],2000,10000,0,[]⟩],[⟨0,1,-1,-1,[],2,1⟩],[([99],-1)]⟩
def exN0:gra.Gr:=⟨[],false,[],[],[]⟩
def exB:List St:=[.mk 1 [97] [] [] [],.mk 5 [99] [] [] [.mk 1 [98] [] [([108,97,98,101,108],[120]),([119,105,100,116,104],[50])] []],.mk 2 [] [([97],[]),([98],[])] [([119,101,105,103,104,116],[50])] []]
theorem ypQ:ybK exA yfP=(⟨[103],true,exB⟩,0):=by kernel_rfl
theorem ypR:(yk5 exA yfP).2=0/\20<(yk5 exA yfP).1.length:=by decide +kernel
theorem ypS:ybK exN0 yfP=(emT,1):=by kernel_rfl
end Go.Proofs.YtgmidodmmlmmeaaGreatDoor.xpt
namespace Go.Proofs.YtgmidodmmlmmeaaGreatDoor.xpt
open Go.RowKit lex tre att nor prt _root_.Go.Proofs.Tryz
theorem yi9 {α:Type}{c:Nat}{P:World->Addr->α->Prop}{f:α->List Value}(hf:∀ x,(f x).length=c){w:World}{l:List α}(hP:∀ (b o:Nat) (x:α),x∈l->(∀ j,j<c->w.cell? ⟨b,o+j,none⟩=(f x)[j]?)->P w ⟨b,o,none⟩ x)
    {g:Nat} {t:TypeId} {arr:Array Value} (h:blk w g t arr) (ha:arr.toList=l.flatMap f) (hl:l.length<=maxLen):gra.Rw c P w (.slice (some ⟨g,0,none⟩) l.length l.length) l:=by
 refine⟨_,_,rfl,Nat.le_refl _,hl,fun _=>⟨_,rfl,fun i hi=>?_⟩⟩;rw[gra.add_at,Nat.zero_add];refine hP _ _ _ (List.getElem_mem hi) fun j hj=>?_
 rw[yd h,<- Array.getElem?_toList,ha,yac f c hf l i j hi hj]
def ndX (x:gra.Nd):List Value:=[.string (bb x.nm),.string (bb x.lb),.int .i64 x.w,.int .i64 x.h,.int .i64 x.cl,.slice none 0 0]
def edX (x:gra.Ed):List Value:=[.int .i64 x.fr,.int .i64 x.to,.int .i64 x.fp,.int .i64 x.tp,.string (bb x.lb),.int .i64 x.wt,.int .i64 x.ln]
def ptX (x:gra.Pt):List Value:=[.string (bb x.1),.int .i64 x.2]
def GVX (n0:Nat):Value:=.agg #[.string ⟨#[103]⟩,.bool true,.slice (some ⟨n0,0,none⟩) 2 2,.slice (some ⟨n0+1,0,none⟩) 1 1,.slice (some ⟨n0+1+1,0,none⟩) 1 1]
theorem ytL {W:World}{n0:Nat}(bn:blk W n0 59 #[.string ⟨#[97]⟩,.string ⟨#[97]⟩,.int .i64 20000,.int .i64 10000,.int .i64 (-1),.slice none 0 0,.string ⟨#[98]⟩,.string ⟨#[120]⟩,.int .i64 2000,.int .i64 10000,.int .i64 0,.slice none 0 0])(be:blk W (n0+1) 61 #[.int .i64 0,.int .i64 1,.int .i64 (-1),.int .i64 (-1),.string ⟨#[]⟩,.int .i64 2,.int .i64 1])(bq:blk W (n0+1+1) 63 #[.string ⟨#[99]⟩,.int .i64 (-1)]):gra.GrV W (GVX n0) exA:=by
 refine⟨_,_,_,rfl,by decide,?_,?_,?_⟩
 ·refine yi9 (f:=ndX) (l:=exA.ns) (fun _=>rfl) (fun b o x hx hj=>?_) bn rfl (by decide)
  have hps:x.ps=[]/\x.nm.length<=maxLen/\x.lb.length<=maxLen/\(Lit.int .i64 x.w).wf=true/\(Lit.int .i64 x.h).wf=true/\(Lit.int .i64 x.cl).wf=true:=by
   simp only[exA,List.mem_cons,List.not_mem_nil,or_false] at hx
   rcases hx with rfl | rfl <;> exact⟨rfl,by decide,by decide,by decide,by decide,by decide⟩
  exact⟨hj 0 (by decide),hj 1 (by decide),hj 2 (by decide),hj 3 (by decide),hj 4 (by decide),⟨_,hj 5 (by decide),by rw[hps.1];exact gra.Rw.nil ..⟩,hps.2⟩
 ·refine yi9 (f:=edX) (l:=exA.es) (fun _=>rfl) (fun b o x hx hj=>?_) be rfl (by decide)
  have hps:x.lb.length<=maxLen/\(Lit.int .i64 x.fr).wf=true/\(Lit.int .i64 x.to).wf=true/\(Lit.int .i64 x.fp).wf=true/\(Lit.int .i64 x.tp).wf=true/\(Lit.int .i64 x.wt).wf=true/\(Lit.int .i64 x.ln).wf=true:=by
   simp only[exA,List.mem_cons,List.not_mem_nil,or_false] at hx;subst hx;exact⟨by decide,by decide,by decide,by decide,by decide,by decide,by decide⟩
  exact⟨hj 0 (by decide),hj 1 (by decide),hj 2 (by decide),hj 3 (by decide),hj 4 (by decide),hj 5 (by decide),hj 6 (by decide),hps⟩
 ·refine yi9 (f:=ptX) (l:=exA.cs) (fun _=>rfl) (fun b o x hx hj=>?_) bq rfl (by decide)
  have hps:x.1.length<=maxLen/\(Lit.int .i64 x.2).wf=true:=by
   simp only[exA,List.mem_cons,List.not_mem_nil,or_false] at hx;subst hx;exact⟨by decide,by decide⟩
  exact⟨hj 0 (by decide),hj 1 (by decide),hps⟩
theorem yso (W:World):gra.GrV W (.agg #[.string ⟨#[]⟩,.bool false,.slice none 0 0,.slice none 0 0,.slice none 0 0]) exN0:=⟨_,_,_,rfl,by decide,gra.Rw.nil ..,gra.Rw.nil ..,gra.Rw.nil ..⟩
def ExC (W:World)(A B C:Addr)(bq tc ec:Nat)(eo:Option Addr):Prop :=
 W.cell? ⟨A.block,A.off+5,none⟩=some (.int .i64 5)/\W.cell? ⟨A.block,A.off+9,none⟩=some (.slice (some B) 1 bq)/\W.cell? ⟨B.block,B.off+3,none⟩=some (.slice (some C) 2 tc) /\
 W.cell? ⟨A.block,A.off+13,none⟩=some (.slice eo 1 ec)/\W.cell? ⟨C.block,C.off+2,none⟩=some (.string ⟨#[119,105,100,116,104]⟩)/\W.cell? ⟨C.block,C.off+3,none⟩=some (.string ⟨#[50]⟩)
theorem ykr {W:World}{ao:Option Addr}{c:Nat}(h:Sts W (.slice ao 3 c) exB):∃ A B C bq tc ec eo,ao=some A/\ExC W A B C bq tc ec eo:=by
 obtain⟨_,_,e,-,-,h3⟩:=h;cases e
 obtain⟨A,rfl,h4⟩:=h3 (by decide);have k1:=(yap _ _ _).1 (ycG h4 1 (by decide));have k2:=(yap _ _ _).1 (ycG h4 2 (by decide));obtain⟨p0,-,-,-,-,bv,p4,hb⟩:=k1;obtain⟨-,-,-,-,⟨av,p5,ha⟩,-⟩:=k2;obtain⟨eo,ec,rfl,-,-,-⟩:=ha;obtain⟨bo,bq,rfl,-,-,hb3⟩:=hb;obtain⟨B,rfl,hb4⟩:=hb3 (by decide);have k3:=(yap _ _ _).1 (ycG hb4 0 (by decide));obtain⟨-,-,-,-,⟨tv,p6,ht⟩,-⟩:=k3;obtain⟨tw,tc,rfl,-,-,ht3⟩:=ht;obtain⟨C,rfl,ht4⟩:=ht3 (by decide);obtain⟨p7,p8,-⟩:=ht4 1 (by decide);exact⟨A,B,C,bq,tc,ec,eo,rfl,p0,p4,p6,p5,p7,p8⟩
def AwA1 (a:Act)(n0 tb:Nat):Prop:=a=⟨#[.bool false,.pointer (some ⟨n0+1+1+1,0,none⟩),.pointer (some ⟨tb,0,none⟩),.int .i64 0,a.tmps.getD 4 undef,a.tmps.getD 5 undef,a.tmps.getD 6 undef,a.tmps.getD 7 undef,a.tmps.getD 8 undef,a.tmps.getD 9 undef,a.tmps.getD 10 undef,a.tmps.getD 11 undef,a.tmps.getD 12 undef,a.tmps.getD 13 undef,a.tmps.getD 14 undef,a.tmps.getD 15 undef,a.tmps.getD 16 undef,a.tmps.getD 17 undef,a.tmps.getD 18 undef,a.tmps.getD 19 undef,a.tmps.getD 20 undef,a.tmps.getD 21 undef,a.tmps.getD 22 undef,a.tmps.getD 23 undef,a.tmps.getD 24 undef,a.tmps.getD 25 undef,a.tmps.getD 26 undef,a.tmps.getD 27 undef,a.tmps.getD 28 undef,a.tmps.getD 29 undef,a.tmps.getD 30 undef,a.tmps.getD 31 undef,a.tmps.getD 32 undef,a.tmps.getD 33 undef,a.tmps.getD 34 undef,a.tmps.getD 35 undef,a.tmps.getD 36 undef,a.tmps.getD 37 undef,a.tmps.getD 38 undef,a.tmps.getD 39 undef,a.tmps.getD 40 undef,a.tmps.getD 41 undef,a.tmps.getD 42 undef,a.tmps.getD 43 undef,a.tmps.getD 44 undef,a.tmps.getD 45 undef,a.tmps.getD 46 undef,a.tmps.getD 47 undef,a.tmps.getD 48 undef,a.tmps.getD 49 undef,a.tmps.getD 50 undef,a.tmps.getD 51 undef,a.tmps.getD 52 undef,a.tmps.getD 53 undef,a.tmps.getD 54 undef,a.tmps.getD 55 undef,a.tmps.getD 56 undef,a.tmps.getD 57 undef,a.tmps.getD 58 undef,a.tmps.getD 59 undef,a.tmps.getD 60 undef,a.tmps.getD 61 undef,a.tmps.getD 62 undef,a.tmps.getD 63 undef,a.tmps.getD 64 undef,a.tmps.getD 65 undef,a.tmps.getD 66 undef,a.tmps.getD 67 undef,a.tmps.getD 68 undef,a.tmps.getD 69 undef,a.tmps.getD 70 undef,a.tmps.getD 71 undef,a.tmps.getD 72 undef,a.tmps.getD 73 undef,a.tmps.getD 74 undef,a.tmps.getD 75 undef,a.tmps.getD 76 undef,a.tmps.getD 77 undef,a.tmps.getD 78 undef,a.tmps.getD 79 undef,a.tmps.getD 80 undef,a.tmps.getD 81 undef,a.tmps.getD 82 undef,a.tmps.getD 83 undef,a.tmps.getD 84 undef,a.tmps.getD 85 undef,a.tmps.getD 86 undef,a.tmps.getD 87 undef,a.tmps.getD 88 undef,a.tmps.getD 89 undef,a.tmps.getD 90 undef,a.tmps.getD 91 undef,a.tmps.getD 92 undef,a.tmps.getD 93 undef,a.tmps.getD 94 undef,a.tmps.getD 95 undef,a.tmps.getD 96 undef,a.tmps.getD 97 undef,a.tmps.getD 98 undef,a.tmps.getD 99 undef,a.tmps.getD 100 undef,a.tmps.getD 101 undef,a.tmps.getD 102 undef,a.tmps.getD 103 undef,a.tmps.getD 104 undef],[]⟩
theorem AwA1.use {a:Act}{n0 tb:Nat}(h:AwA1 a n0 tb):∃ f:Nat->Value,a=⟨#[.bool false,.pointer (some ⟨n0+1+1+1,0,none⟩),.pointer (some ⟨tb,0,none⟩),.int .i64 0,f 4,f 5,f 6,f 7,f 8,f 9,f 10,f 11,f 12,f 13,f 14,f 15,f 16,f 17,f 18,f 19,f 20,f 21,f 22,f 23,f 24,f 25,f 26,f 27,f 28,f 29,f 30,f 31,f 32,f 33,f 34,f 35,f 36,f 37,f 38,f 39,f 40,f 41,f 42,f 43,f 44,f 45,f 46,f 47,f 48,f 49,f 50,f 51,f 52,f 53,f 54,f 55,f 56,f 57,f 58,f 59,f 60,f 61,f 62,f 63,f 64,f 65,f 66,f 67,f 68,f 69,f 70,f 71,f 72,f 73,f 74,f 75,f 76,f 77,f 78,f 79,f 80,f 81,f 82,f 83,f 84,f 85,f 86,f 87,f 88,f 89,f 90,f 91,f 92,f 93,f 94,f 95,f 96,f 97,f 98,f 99,f 100,f 101,f 102,f 103,f 104],[]⟩:=⟨fun i=>a.tmps.getD i undef,h⟩
structure AwI (w:World)(n0 tb:Nat)(W:World):Prop where
 bw:Below n0 w W
 lt:n0+4<=tb
 gx:blk W (n0+1+1+1) 26 #[.string ⟨#[103]⟩,.bool true,.slice (some ⟨n0,0,none⟩) 2 2,.slice (some ⟨n0+1,0,none⟩) 1 1,.slice (some ⟨n0+1+1,0,none⟩) 1 1]
 gr:gra.GrV W (GVX n0) exA
 tx:∃ TN TD ao c,blk W tb 33 #[.string TN,.bool TD,.slice ao 3 c]/\Sts W (.slice ao 3 c) exB
theorem AwI.below {w W W':World}{n0 tb:Nat}(h:AwI w n0 tb W)(hb:Below W.heap.size W W'):AwI w n0 tb W':=by
 obtain⟨h1,h2,h3,h4,TN,TD,ao,c,h5,h6⟩:=h;exact⟨h1.trans (hb.mono (by have:=yP h3;omega)),h2,yj hb h3,h4.keep hb,TN,TD,ao,c,yj hb h5,h6.keep hb⟩
def M1 (w:World)(n0:Nat)(a:Act)(W:World):Prop:=∃ tb,AwA1 a n0 tb/\AwI w n0 tb W
theorem M1.box (w:World)(n0:Nat):∃ M:Act->World->Prop,Hid (∀ a W,M a W↔M1 w n0 a W):=⟨M1 w n0,Lh fun _ _=>Iff.rfl⟩
theorem ycp (w:World)(htb:Hid (Tab w)):Calls Tryz.prog 9 #[] w fun e w'=>e=.returned (.bool true)/\Below w.heap.size w w':=by
 have hmx:Tryz.prog.follows .mixedOrders=true:=by kernel_rfl
 obtain⟨W1,hW1⟩:∃ W1,w.alloc (.cells #[.string ⟨#[97]⟩,.string ⟨#[97]⟩,.int .i64 20000,.int .i64 10000,.int .i64 (-1),.slice none 0 0,.string ⟨#[98]⟩,.string ⟨#[120]⟩,.int .i64 2000,.int .i64 10000,.int .i64 0,.slice none 0 0] 59)=W1:=⟨_,rfl⟩
 obtain⟨W2,hW2⟩:∃ W2,W1.alloc (.cells #[.int .i64 0,.int .i64 1,.int .i64 (-1),.int .i64 (-1),.string ⟨#[]⟩,.int .i64 2,.int .i64 1] 61)=W2:=⟨_,rfl⟩
 obtain⟨W3,hW3⟩:∃ W3,W2.alloc (.cells #[.string ⟨#[99]⟩,.int .i64 (-1)] 63)=W3:=⟨_,rfl⟩
 obtain⟨W4,hW4⟩:∃ W4,W3.alloc (.cells #[.string ⟨#[103]⟩,.bool true,.slice (some ⟨w.heap.size,0,none⟩) 2 2,.slice (some ⟨w.heap.size+1,0,none⟩) 1 1,.slice (some ⟨w.heap.size+1+1,0,none⟩) 1 1] 26)=W4:=⟨_,rfl⟩
 have s1:W1.heap.size=w.heap.size+1:=by rw[<- hW1];simp
 have s2:W2.heap.size=w.heap.size+1+1:=by rw[<- hW2,<- s1];simp
 have s3:W3.heap.size=w.heap.size+1+1+1:=by rw[<- hW3,<- s2];simp
 have b1:Below w.heap.size w W1:=by rw[<- hW1];exact al1 ..
 have b2:Below W1.heap.size W1 W2:=by rw[<- hW2];exact al1 ..
 have b3:Below W2.heap.size W2 W3:=by rw[<- hW3];exact al1 ..
 have b4:Below W3.heap.size W3 W4:=by rw[<- hW4];exact al1 ..
 have bn:blk W4 w.heap.size 59 #[.string ⟨#[97]⟩,.string ⟨#[97]⟩,.int .i64 20000,.int .i64 10000,.int .i64 (-1),.slice none 0 0,.string ⟨#[98]⟩,.string ⟨#[120]⟩,.int .i64 2000,.int .i64 10000,.int .i64 0,.slice none 0 0]:=yj b4 (yj b3 (yj b2 (by rw[<- hW1];exact yl ..)));have be:blk W4 (w.heap.size+1) 61 #[.int .i64 0,.int .i64 1,.int .i64 (-1),.int .i64 (-1),.string ⟨#[]⟩,.int .i64 2,.int .i64 1]:=yj b4 (yj b3 (by rw[<- hW2,<- s1];exact yl ..));have bq:blk W4 (w.heap.size+1+1) 63 #[.string ⟨#[99]⟩,.int .i64 (-1)]:=yj b4 (by rw[<- hW3,<- s2];exact yl ..);have bg:blk W4 (w.heap.size+1+1+1) 26 #[.string ⟨#[103]⟩,.bool true,.slice (some ⟨w.heap.size,0,none⟩) 2 2,.slice (some ⟨w.heap.size+1,0,none⟩) 1 1,.slice (some ⟨w.heap.size+1+1,0,none⟩) 1 1]:=by rw[<- hW4,<- s3];exact yl ..
 have hgv:=ytL bn be bq;have hb4:Below w.heap.size w W4:=ya b4 (ya b3 (ya b2 b1));have HW1:=Lh hW1;have HW2:=Lh hW2;have HW3:=Lh hW3;have HW4:=Lh hW4;have HG4:=Lh bg;have HV4:=Lh hgv;have HB4:=Lh hb4;clear s1 s2 s3 b1 b2 b3 b4 bn be bq bg hgv hb4 hW1 hW2 hW3 hW4;go_enter func9,ntmps9;go_wp2_with fail
 rw[HW1.out,HW2.out,HW3.out,HW4.out];obtain⟨n0,hn0⟩:∃ n0,w.heap.size=n0:=⟨_,rfl⟩
 have HN0:=Lh hn0;rw[hn0] at HG4 HV4 HB4;simp only[hn0];clear hn0 HW1 HW2 HW3 HW4;clear W1 W2 W3;obtain⟨TA,hTA⟩:∃ T,(⟨[103],true,exB⟩:Tr)=T:=⟨_,rfl⟩
 have HTA:=Lh hTA;have HTR:Hid (ybK exA yfP=(TA,0)):=Lh (by rw[<- hTA];exact ypQ);have hL:TA.body.length=3:=by rw[<- hTA];rfl
 have HL:=Lh hL;clear hTA hL;obtain⟨M,HM⟩:=M1.box w n0;refine yem M ?_ ?_
 ·
  obtain⟨c0,c1,c2,c3,c4⟩:=b5c HG4.out;refine ycH (fun W:World=>W.cell? ⟨n0+1+1+1,0,none⟩=some (.string ⟨#[103]⟩)/\W.cell? ⟨n0+1+1+1,1,none⟩=some (.bool true)/\W.cell? ⟨n0+1+1+1,2,none⟩=some (.slice (some ⟨n0,0,none⟩) 2 2)/\W.cell? ⟨n0+1+1+1,3,none⟩=some (.slice (some ⟨n0+1,0,none⟩) 1 1)/\W.cell? ⟨n0+1+1+1,4,none⟩=some (.slice (some ⟨n0+1+1,0,none⟩) 1 1)) 8 (by kernel_rfl) ⟨yf (c0),yf (c1),yf (c2),yf (c3),yf (c4)⟩ (fun hHeld=>?_);have hb:=yat W4;replace hHeld:((fun W:World=>W.cell? ⟨n0+1+1+1,0,none⟩=some (.string ⟨#[103]⟩)/\W.cell? ⟨n0+1+1+1,1,none⟩=some (.bool true)/\W.cell? ⟨n0+1+1+1,2,none⟩=some (.slice (some ⟨n0,0,none⟩) 2 2)/\W.cell? ⟨n0+1+1+1,3,none⟩=some (.slice (some ⟨n0+1,0,none⟩) 1 1)/\W.cell? ⟨n0+1+1+1,4,none⟩=some (.slice (some ⟨n0+1+1,0,none⟩) 1 1))) W4.drew:=hHeld;generalize W4.drew=y0 at hHeld hb |-;refine ton 0 17 (.agg #[.string ⟨#[103]⟩,.bool true,.slice (some ⟨n0,0,none⟩) 2 2,.slice (some ⟨n0+1,0,none⟩) 1 1,.slice (some ⟨n0+1+1,0,none⟩) 1 1]) ?_
  try simp only[sA,sB,sC]
  clear c0 c1 c2 c3 c4;have hz4:=yP HG4.out;refine ynZ (i:=1) (j:=6) (by kernel_rfl) rfl rfl (fun K hK=>?_) (fun K hK=>?_)
  ·
   have hlc:W4.heap.size<=y0.heap.size:=hb.size;go_simp;refine(ycb y0).mono ?_;rintro e y1 ⟨rfl,hb'⟩;refine hK.out _ _ (fun _=>(by have k:=hHeld;repeat first | exact yb hb' k | (refine⟨yb hb' k.1,?_⟩;replace k:=k.2))) (fun hHeld=>?_);replace hHeld:=hHeld (by decide);clear hK K
   try simp only[sA,sB,sC]
   replace hb:=ya hb' hb;clear hb' hlc;refine ynZ (i:=2) (j:=6) (by kernel_rfl) rfl rfl (fun K hK=>?_) (fun K hK=>?_)
   ·
    have hlc:W4.heap.size<=y1.heap.size:=hb.size;go_simp;refine(ybQ exA yfP (GVX n0) TA 0 y1 (Lh (HV4.out.keep hb)) (Lh (yt htb.out (show Below w.heap.size w y1 by rw[HN0.out];exact HB4.out.trans (hb.mono (by omega))))) HTR).mono ?_;rintro e y2 ⟨tv,rfl,htv,hb'⟩;obtain⟨bv,rfl,-,hst⟩:=htv;obtain⟨ao,c,rfl,-⟩:=id hst;rw[HL.out] at hst;rw[HL.out];obtain⟨TN,hTN⟩:∃ X,bb TA.name=X:=⟨_,rfl⟩
    obtain⟨TD,hTD⟩:∃ X,TA.dir=X:=⟨_,rfl⟩
    rw[hTN,hTD];clear hTN hTD;refine hK.out _ _ (fun _=>(by have k:=hHeld;repeat first | exact yb hb' k | (refine⟨yb hb' k.1,?_⟩;replace k:=k.2))) (fun hHeld=>?_);replace hHeld:=hHeld (by decide);clear hK K
    try simp only[sA,sB,sC]
    replace hb:=ya hb' hb;clear hb' hlc;refine ton 3 16 (.tuple #[(.agg #[.string TN,.bool TD,.slice ao 3 c]),.int .i64 0]) ?_;refine ton 4 20 (.agg #[.string TN,.bool TD,.slice ao 3 c]) ?_;refine ton 5 21 (.int .i64 0) ?_
    try simp only[sA,sB,sC]
    refine tgo (i:=6) (by kernel_rfl) rfl (fun K hK=>?_);have hs:=yl y2 #[.string ⟨#[]⟩,.bool false,.slice none 0 0] 33;have hb':=al1 y2 (.cells #[.string ⟨#[]⟩,.bool false,.slice none 0 0] 33);go_simp;refine hK.out _ _ (fun _=>(by have k:=hHeld;repeat first | exact yh k | (refine⟨yh k.1,?_⟩;replace k:=k.2))) (fun hHeld=>?_);replace hHeld:=hHeld (by decide);clear hK K
    try simp only[sA,sB,sC]
    replace hst:=hst.keep hb';have hls:W4.heap.size<=y2.heap.size:=hb.size;obtain⟨tb,hss⟩:∃ s,y2.heap.size=s:=⟨_,rfl⟩
    rw[hss] at hs hls;simp only[hss];replace hb:=ya hb' hb;generalize y2.alloc (.cells #[.string ⟨#[]⟩,.bool false,.slice none 0 0] 33)=z2 at hs hb hHeld hst |-;clear hb' hss;have f0:z2.frozen? ⟨tb,0,none⟩=false:=yk hs;have e0:=bc 0 hs;have f1:z2.frozen? ⟨tb,1,none⟩=false:=yk hs;have e1:=bc 1 hs;have f2:z2.frozen? ⟨tb,2,none⟩=false:=yk hs;have e2:=bc 2 hs;refine tgo (i:=7) (by kernel_rfl) rfl (fun K hK=>?_);go_simp;refine hK.out _ _ (fun _=>(by have k:=hHeld;repeat first | exact yC (by simp only;omega) (yC (by simp only;omega) (yC (by simp only;omega) k)) | (refine⟨yC (by simp only;omega) (yC (by simp only;omega) (yC (by simp only;omega) k.1)),?_⟩;replace k:=k.2))) (fun hHeld=>?_);replace hHeld:=hHeld (by decide);clear hK K
    try simp only[sA,sB,sC]
    have hI:AwI w n0 tb (((z2.setCell ⟨tb,0,none⟩ (.string TN)).setCell ⟨tb,1,none⟩ (.bool TD)).setCell ⟨tb,2,none⟩ (.slice ao 3 c)):=by
     have hbt:=HB4.out.trans (hb.mono (by omega));have hstB:Sts z2 (.slice ao 3 c) exB:=by rw[<- HTA.out] at hst;exact hst
     have hbs:Below W4.heap.size W4 (((z2.setCell ⟨tb,0,none⟩ (.string TN)).setCell ⟨tb,1,none⟩ (.bool TD)).setCell ⟨tb,2,none⟩ (.slice ao 3 c)):=yA hb (by omega) _ _ _;exact⟨yA hbt (by omega) _ _ _,by omega,yj hbs HG4.out,HV4.out.keep hbs,TN,TD,ao,c,yag hs _ _ _,ybj hstB hs (yk3 _ _ _)⟩
    refine tgo (i:=8) (by kernel_rfl) rfl (fun K hK=>?_);go_simp;refine hK.out _ _ (fun h=>absurd rfl h) (fun hHeld=>?_);clear hK K hHeld
    try simp only[sA,sB,sC]
    refine yb3 (by kernel_rfl) ?_ _;exact⟨rfl,(HM.out _ _).2 ⟨tb,rfl,hI⟩⟩
   ·
    have hs:=yl y1 #[.string ⟨#[]⟩,.bool false,.slice none 0 0] 33;have hb':=al1 y1 (.cells #[.string ⟨#[]⟩,.bool false,.slice none 0 0] 33);go_simp;refine hK.out _ _ (fun _=>(by have k:=hHeld;repeat first | exact yh k | (refine⟨yh k.1,?_⟩;replace k:=k.2))) (fun hHeld=>?_);replace hHeld:=hHeld (by decide);clear hK K
    try simp only[sA,sB,sC]
    have hls:W4.heap.size<=y1.heap.size:=hb.size;obtain⟨tb,hss⟩:∃ s,y1.heap.size=s:=⟨_,rfl⟩
    rw[hss] at hs hls;simp only[hss];replace hb:=ya hb' hb;generalize y1.alloc (.cells #[.string ⟨#[]⟩,.bool false,.slice none 0 0] 33)=z1 at hs hb hHeld |-;clear hb' hss;refine tgo (i:=2) (by kernel_rfl) rfl (fun K hK=>?_);have hlc:W4.heap.size<=z1.heap.size:=hb.size;go_simp;refine(ybQ exA yfP (GVX n0) TA 0 z1 (Lh (HV4.out.keep hb)) (Lh (yt htb.out (show Below w.heap.size w z1 by rw[HN0.out];exact HB4.out.trans (hb.mono (by omega))))) HTR).mono ?_;rintro e x2 ⟨tv,rfl,htv,hb'⟩;obtain⟨bv,rfl,-,hst⟩:=htv;obtain⟨ao,c,rfl,-⟩:=id hst;rw[HL.out] at hst;rw[HL.out];obtain⟨TN,hTN⟩:∃ X,bb TA.name=X:=⟨_,rfl⟩
    obtain⟨TD,hTD⟩:∃ X,TA.dir=X:=⟨_,rfl⟩
    rw[hTN,hTD];clear hTN hTD;refine hK.out _ _ (fun _=>(by have k:=hHeld;repeat first | exact yb hb' k | (refine⟨yb hb' k.1,?_⟩;replace k:=k.2))) (fun hHeld=>?_);replace hHeld:=hHeld (by decide);clear hK K
    try simp only[sA,sB,sC]
    replace hs:=yj hb' hs;replace hb:=ya hb' hb;clear hb' hlc;refine ton 3 16 (.tuple #[(.agg #[.string TN,.bool TD,.slice ao 3 c]),.int .i64 0]) ?_;refine ton 4 20 (.agg #[.string TN,.bool TD,.slice ao 3 c]) ?_;refine ton 5 21 (.int .i64 0) ?_
    try simp only[sA,sB,sC]
    have f0:x2.frozen? ⟨tb,0,none⟩=false:=yk hs;have e0:=bc 0 hs;have f1:x2.frozen? ⟨tb,1,none⟩=false:=yk hs;have e1:=bc 1 hs;have f2:x2.frozen? ⟨tb,2,none⟩=false:=yk hs;have e2:=bc 2 hs;refine tgo (i:=7) (by kernel_rfl) rfl (fun K hK=>?_);go_simp;refine hK.out _ _ (fun _=>(by have k:=hHeld;repeat first | exact yC (by simp only;omega) (yC (by simp only;omega) (yC (by simp only;omega) k)) | (refine⟨yC (by simp only;omega) (yC (by simp only;omega) (yC (by simp only;omega) k.1)),?_⟩;replace k:=k.2))) (fun hHeld=>?_);replace hHeld:=hHeld (by decide);clear hK K
    try simp only[sA,sB,sC]
    have hI:AwI w n0 tb (((x2.setCell ⟨tb,0,none⟩ (.string TN)).setCell ⟨tb,1,none⟩ (.bool TD)).setCell ⟨tb,2,none⟩ (.slice ao 3 c)):=by
     have hbt:=HB4.out.trans (hb.mono (by omega));have hstB:Sts x2 (.slice ao 3 c) exB:=by rw[<- HTA.out] at hst;exact hst
     have hbs:Below W4.heap.size W4 (((x2.setCell ⟨tb,0,none⟩ (.string TN)).setCell ⟨tb,1,none⟩ (.bool TD)).setCell ⟨tb,2,none⟩ (.slice ao 3 c)):=yA hb (by omega) _ _ _;exact⟨yA hbt (by omega) _ _ _,by omega,yj hbs HG4.out,HV4.out.keep hbs,TN,TD,ao,c,yag hs _ _ _,ybj hstB hs (yk3 _ _ _)⟩
    refine tgo (i:=8) (by kernel_rfl) rfl (fun K hK=>?_);go_simp;refine hK.out _ _ (fun h=>absurd rfl h) (fun hHeld=>?_);clear hK K hHeld
    try simp only[sA,sB,sC]
    refine yb3 (by kernel_rfl) ?_ _;exact⟨rfl,(HM.out _ _).2 ⟨tb,rfl,hI⟩⟩
  ·
   have hs:=yl y0 #[.string ⟨#[]⟩,.bool false,.slice none 0 0] 33;have hb':=al1 y0 (.cells #[.string ⟨#[]⟩,.bool false,.slice none 0 0] 33);go_simp;refine hK.out _ _ (fun _=>(by have k:=hHeld;repeat first | exact yh k | (refine⟨yh k.1,?_⟩;replace k:=k.2))) (fun hHeld=>?_);replace hHeld:=hHeld (by decide);clear hK K
   try simp only[sA,sB,sC]
   have hls:W4.heap.size<=y0.heap.size:=hb.size;obtain⟨tb,hss⟩:∃ s,y0.heap.size=s:=⟨_,rfl⟩
   rw[hss] at hs hls;simp only[hss];replace hb:=ya hb' hb;generalize y0.alloc (.cells #[.string ⟨#[]⟩,.bool false,.slice none 0 0] 33)=z0 at hs hb hHeld |-;clear hb' hss;refine tgo (i:=1) (by kernel_rfl) rfl (fun K hK=>?_);have hlc:W4.heap.size<=z0.heap.size:=hb.size;go_simp;refine(ycb z0).mono ?_;rintro e x1 ⟨rfl,hb'⟩;refine hK.out _ _ (fun _=>(by have k:=hHeld;repeat first | exact yb hb' k | (refine⟨yb hb' k.1,?_⟩;replace k:=k.2))) (fun hHeld=>?_);replace hHeld:=hHeld (by decide);clear hK K
   try simp only[sA,sB,sC]
   replace hs:=yj hb' hs;replace hb:=ya hb' hb;clear hb' hlc;refine tgo (i:=2) (by kernel_rfl) rfl (fun K hK=>?_);have hlc:W4.heap.size<=x1.heap.size:=hb.size;go_simp;refine(ybQ exA yfP (GVX n0) TA 0 x1 (Lh (HV4.out.keep hb)) (Lh (yt htb.out (show Below w.heap.size w x1 by rw[HN0.out];exact HB4.out.trans (hb.mono (by omega))))) HTR).mono ?_;rintro e x2 ⟨tv,rfl,htv,hb'⟩;obtain⟨bv,rfl,-,hst⟩:=htv;obtain⟨ao,c,rfl,-⟩:=id hst;rw[HL.out] at hst;rw[HL.out];obtain⟨TN,hTN⟩:∃ X,bb TA.name=X:=⟨_,rfl⟩
   obtain⟨TD,hTD⟩:∃ X,TA.dir=X:=⟨_,rfl⟩
   rw[hTN,hTD];clear hTN hTD;refine hK.out _ _ (fun _=>(by have k:=hHeld;repeat first | exact yb hb' k | (refine⟨yb hb' k.1,?_⟩;replace k:=k.2))) (fun hHeld=>?_);replace hHeld:=hHeld (by decide);clear hK K
   try simp only[sA,sB,sC]
   replace hs:=yj hb' hs;replace hb:=ya hb' hb;clear hb' hlc;refine ton 3 16 (.tuple #[(.agg #[.string TN,.bool TD,.slice ao 3 c]),.int .i64 0]) ?_;refine ton 4 20 (.agg #[.string TN,.bool TD,.slice ao 3 c]) ?_;refine ton 5 21 (.int .i64 0) ?_
   try simp only[sA,sB,sC]
   have f0:x2.frozen? ⟨tb,0,none⟩=false:=yk hs;have e0:=bc 0 hs;have f1:x2.frozen? ⟨tb,1,none⟩=false:=yk hs;have e1:=bc 1 hs;have f2:x2.frozen? ⟨tb,2,none⟩=false:=yk hs;have e2:=bc 2 hs;refine tgo (i:=7) (by kernel_rfl) rfl (fun K hK=>?_);go_simp;refine hK.out _ _ (fun _=>(by have k:=hHeld;repeat first | exact yC (by simp only;omega) (yC (by simp only;omega) (yC (by simp only;omega) k)) | (refine⟨yC (by simp only;omega) (yC (by simp only;omega) (yC (by simp only;omega) k.1)),?_⟩;replace k:=k.2))) (fun hHeld=>?_);replace hHeld:=hHeld (by decide);clear hK K
   try simp only[sA,sB,sC]
   have hI:AwI w n0 tb (((x2.setCell ⟨tb,0,none⟩ (.string TN)).setCell ⟨tb,1,none⟩ (.bool TD)).setCell ⟨tb,2,none⟩ (.slice ao 3 c)):=by
    have hbt:=HB4.out.trans (hb.mono (by omega));have hstB:Sts x2 (.slice ao 3 c) exB:=by rw[<- HTA.out] at hst;exact hst
    have hbs:Below W4.heap.size W4 (((x2.setCell ⟨tb,0,none⟩ (.string TN)).setCell ⟨tb,1,none⟩ (.bool TD)).setCell ⟨tb,2,none⟩ (.slice ao 3 c)):=yA hb (by omega) _ _ _;exact⟨yA hbt (by omega) _ _ _,by omega,yj hbs HG4.out,HV4.out.keep hbs,TN,TD,ao,c,yag hs _ _ _,ybj hstB hs (yk3 _ _ _)⟩
   refine tgo (i:=8) (by kernel_rfl) rfl (fun K hK=>?_);go_simp;refine hK.out _ _ (fun h=>absurd rfl h) (fun hHeld=>?_);clear hK K hHeld
   try simp only[sA,sB,sC]
   refine yb3 (by kernel_rfl) ?_ _;exact⟨rfl,(HM.out _ _).2 ⟨tb,rfl,hI⟩⟩
 intro a5 w5 hm;obtain⟨tb,ha,hI⟩:=(HM.out _ _).1 hm;obtain⟨f,rfl⟩:=ha.use;clear HM hm M ha HG4 HV4 HB4;have HI:=Lh hI;obtain⟨TN,TD,ao,c,hk,hst⟩:=hI.tx;obtain⟨A,B,C,bq,tc,ec,eo,rfl,p0,p4,p6,p5,p7,p8⟩:=ykr hst;have t2:=bc 2 hk;clear hI hk hst;go_wp2_with fail
 obtain⟨T0,hT0⟩:∃ T,emT=T:=⟨_,rfl⟩
 have HTR0:Hid (ybK exN0 yfP=(T0,1)):=Lh (by rw[<- hT0];exact ypS);clear hT0 p0 p4 p6 p5 p7 p8 t2;refine(ycb w5).mono ?_;rintro e v1 ⟨rfl,hb1⟩;have HI1:=Lh (HI.out.below hb1);clear hb1 HI;go_wp2_with fail
 refine(ybQ exN0 yfP _ T0 1 v1 (Lh (yso _)) (Lh (yt htb.out (show Below w.heap.size w v1 by rw[HN0.out];exact HI1.out.bw))) HTR0).mono ?_;rintro e v2 ⟨tv,rfl,htv,hb2⟩;obtain⟨bv,rfl,-,hst⟩:=htv;obtain⟨a0,c0,rfl,-⟩:=id hst;obtain⟨TN0,hTN⟩:∃ X,bb T0.name=X:=⟨_,rfl⟩
 obtain⟨TD0,hTD⟩:∃ X,T0.dir=X:=⟨_,rfl⟩
 obtain⟨n,hn⟩:∃ X,T0.body.length=X:=⟨_,rfl⟩
 rw[hTN,hTD,hn];have HI:=Lh ((HI1.out.below hb2).below (al1 v2 (.cells #[.string TN0,.bool TD0,.slice a0 n c0] 33)));clear hTN hTD hn hst hb2 HI1 HTR0;go_wp2_with fail
 generalize v2.alloc (.cells #[.string TN0,.bool TD0,.slice a0 n c0] 33)=w6 at HI |-;obtain⟨s,q,hsq⟩:∃ s q,yk5 exA yfP=(s,q):=⟨_,_,rfl⟩
 have hx:=ypR;rw[hsq] at hx;obtain⟨rfl,hsl⟩:q=0/\20<s.length:=hx;have HSQ:=Lh hsq;obtain⟨SS,hSS⟩:∃ S,bb s=S:=⟨_,rfl⟩
 have hbig:(20:Int)<(SS.size:Int):=by rw[<- hSS];show (20:Int)<((s.toArray.size:Nat):Int);rw[List.size_toArray];omega
 have hdec:decide ((20:Int)<(SS.size:Int))=true:=decide_eq_true hbig;have HSS:=Lh hSS;have HDE:=Lh hdec;clear hsq hSS hsl hbig hdec;obtain⟨c0,c1,c2,c3,c4⟩:=b5c HI.out.gx;refine ycH (fun W:World=>W.cell? ⟨n0+1+1+1,0,none⟩=some (.string ⟨#[103]⟩)/\W.cell? ⟨n0+1+1+1,1,none⟩=some (.bool true)/\W.cell? ⟨n0+1+1+1,2,none⟩=some (.slice (some ⟨n0,0,none⟩) 2 2)/\W.cell? ⟨n0+1+1+1,3,none⟩=some (.slice (some ⟨n0+1,0,none⟩) 1 1)/\W.cell? ⟨n0+1+1+1,4,none⟩=some (.slice (some ⟨n0+1+1,0,none⟩) 1 1)) 7 (by kernel_rfl) ⟨yf (c0),yf (c1),yf (c2),yf (c3),yf (c4)⟩ (fun hHeld=>?_);have hb:=yat w6;replace hHeld:((fun W:World=>W.cell? ⟨n0+1+1+1,0,none⟩=some (.string ⟨#[103]⟩)/\W.cell? ⟨n0+1+1+1,1,none⟩=some (.bool true)/\W.cell? ⟨n0+1+1+1,2,none⟩=some (.slice (some ⟨n0,0,none⟩) 2 2)/\W.cell? ⟨n0+1+1+1,3,none⟩=some (.slice (some ⟨n0+1,0,none⟩) 1 1)/\W.cell? ⟨n0+1+1+1,4,none⟩=some (.slice (some ⟨n0+1+1,0,none⟩) 1 1))) w6.drew:=hHeld;generalize w6.drew=y0 at hHeld hb |-;refine ton 0 75 (.agg #[.string ⟨#[103]⟩,.bool true,.slice (some ⟨n0,0,none⟩) 2 2,.slice (some ⟨n0+1,0,none⟩) 1 1,.slice (some ⟨n0+1+1,0,none⟩) 1 1]) ?_
 try simp only[sA,sB,sC]
 clear c0 c1 c2 c3 c4;have hz6:=yP HI.out.gx;refine tgo (i:=1) (by kernel_rfl) rfl (fun K hK=>?_);go_simp;refine(ycb y0).mono ?_;rintro e y1 ⟨rfl,hb'⟩;refine hK.out _ _ (fun _=>(by have k:=hHeld;repeat first | exact yb hb' k | (refine⟨yb hb' k.1,?_⟩;replace k:=k.2))) (fun hHeld=>?_);replace hHeld:=hHeld (by decide);clear hK K
 try simp only[sA,sB,sC]
 have hlc:w6.heap.size<=y0.heap.size:=hb.size;replace hb:=ya hb' hb;clear hb' hlc;refine tgo (i:=2) (by kernel_rfl) rfl (fun K hK=>?_);go_simp;have hlc:w6.heap.size<=y1.heap.size:=hb.size;refine(yk6 exA yfP (GVX n0) SS s 0 y1 (Lh (HI.out.gr.keep hb)) (Lh (yt htb.out (show Below w.heap.size w y1 by rw[HN0.out];exact HI.out.bw.trans (hb.mono (by omega))))) HSQ HSS).mono ?_;rintro e y2 ⟨rfl,hb'⟩;refine hK.out _ _ (fun _=>(by have k:=hHeld;repeat first | exact yb hb' k | (refine⟨yb hb' k.1,?_⟩;replace k:=k.2))) (fun hHeld=>?_);replace hHeld:=hHeld (by decide);clear hK K
 try simp only[sA,sB,sC]
 replace hb:=ya hb' hb;clear hb' hlc;refine ton 3 74 (.tuple #[.string SS,.int .i64 0]) ?_;refine ton 4 78 (.string SS) ?_;refine ton 5 79 (.int .i64 0) ?_
 try simp only[sA,sB,sC]
 refine tgo (i:=6) (by kernel_rfl) rfl (fun K hK=>?_);go_simp;refine hK.out _ _ (fun _=>(by have k:=hHeld;repeat first | exact k | (refine⟨k.1,?_⟩;replace k:=k.2))) (fun hHeld=>?_);replace hHeld:=hHeld (by decide);clear hK K
 try simp only[sA,sB,sC]
 refine tgo (i:=7) (by kernel_rfl) rfl (fun K hK=>?_);go_simp;refine hK.out _ _ (fun h=>absurd rfl h) (fun hHeld=>?_);clear hK K hHeld
 try simp only[sA,sB,sC]
 refine yb3 (by kernel_rfl) ?_ _;have HI7:=Lh (HI.out.below hb);clear hb;have hdec:=HDE.out;obtain⟨TN,TD,ao,c,hk,hst⟩:=HI7.out.tx;obtain⟨A,B,C,bq,tc,ec,eo,rfl,p0,p4,p6,p5,p7,p8⟩:=ykr hst;have t2:=bc 2 hk;have HB:=Lh HI7.out.bw;clear hk hst;go_wp2;go_ret;exact⟨rfl,by rw[HN0.out];exact HB.out⟩
end Go.Proofs.YtgmidodmmlmmeaaGreatDoor.xpt
namespace Go.Proofs.YtgmidodmmlmmeaaGreatDoor.xpt
open Go.RowKit lex tre att nor _root_.Go.Proofs.Tryz
theorem yc9:(∀ x:St,∀ N,(ykM x N).1.length<=N.length+1+cnt x.body)/\∀ l:List St,∀ N,(ycs l N).1.length<=N.length+cnt l:=by
 refine ya2 (fun k n r a b hb N=>?_) (fun N=>?_) (fun x t hx ht N=>?_)
 ·have h1:(if k=1 then N++[n] else N).length<=N.length+1:=by split <;> simp
  rw[ykM];simp only[St.body];generalize (if k=1 then N++[n] else N)=M at h1 |-
  by_cases hq:r.any (fun x=>!M.contains x.1)=true
  ·rw[if_pos hq];show M.length<=_;omega
  ·rw[if_neg hq];have:=hb M;omega
 ·rw[ycs];simp[yiE]
 ·rw[ycs,yaI]
  have h1:=hx N
  by_cases hq:(ykM x N).2=false
  ·rw[if_pos hq];omega
  ·rw[if_neg hq];have:=ht (ykM x N).1;omega
def ytM (w0:World)(D:List Nm)(b:Bool)(e:Ending)(w':World):Prop:=∃ nv,e=.returned (.tuple #[nv,.bool b])/\tre.Nrow w' w0.heap.size nv D/\Below w0.heap.size w0 w'
def DcOk (l:List St):Prop:=∀ (w0 w:World) (v nv:Value) (N D:List Nm) (b:Bool),Below w0.heap.size w0 w->Sts w0 v l->tre.Nrow w w0.heap.size nv N->N.length+cnt l<=900000->ycs l N=(D,b) ->
 Calls Tryz.prog 22 #[v,nv] w (ytM w0 D b)
theorem DcOk.use {l:List St}(h:Hid (DcOk l))(w0 w:World)(v nv:Value)(N D:List Nm)(b:Bool)(hb:Hid (Below w0.heap.size w0 w))(hs:Hid (Sts w0 v l))(hr:Hid (tre.Nrow w w0.heap.size nv N))(hn:Hid (N.length+cnt l<=900000))(hD:Hid (ycs l N=(D,b))) :
    Calls Tryz.prog 22 #[v,nv] w (ytM w0 D b):=h.out w0 w v nv N D b hb.out hs.out hr.out hn.out hD.out
theorem ysr (l:List St)(ih:∀ s∈l,DcOk s.body):DcOk l:=by
 intro w0 w v nv N D b hb hs hr hn hD;obtain⟨RS,hRS⟩:∃ RS,RS=(D,b):=⟨_,rfl⟩
 rw[<- hRS] at hD;obtain⟨rfl,rfl⟩:D=RS.1/\b=RS.2:=by rw[hRS];exact⟨rfl,rfl⟩
 clear hRS;obtain⟨vo,vc,rfl,hc1,hm1,-⟩:=id hs;unfold maxLen at hm1;have hlm:l.length<=9223372036854775807:=by omega
 have IH:=Lh ih;have HS:=Lh hs;have HB0:=Lh hb;have HR0:=Lh hr;have HN0:=Lh hn;have HD0:=Lh hD;clear hc1 hm1 ih hs hb hr hn hD;go_enter func22,ntmps22;go_wp2_with fail
 go_loopw [1,6] (fun nv iv wr=>∃ (i:Nat) (M:List Nm),iv=.int .i64 i/\i<=l.length/\ycs (l.drop i) M=RS/\tre.Nrow wr w0.heap.size nv M/\M.length+cnt (l.drop i)<=900000/\Below w0.heap.size w0 wr) (fun _ iv _=>l.length-(intOf iv).toNat)
 case atStart=>exact⟨0,N,rfl,Nat.zero_le _,HD0.out,HR0.out,HN0.out,HB0.out⟩
 case round =>
  obtain⟨i,M,rfl,hi,hdc,hrow,hcn,hB⟩:=hrel
  rename World=>wr
  obtain⟨no,nc,rfl,-,-,-⟩:=id hrow.nl;have HR:=Lh hrow;have HB1:=Lh hB;have HDC:=Lh hdc;clear hrow hB hdc HR0 HB0 HN0 HD0
  by_cases hlt:i<l.length
  case neg =>
   obtain rfl:i=l.length:=by omega
   have HE:Hid (RS=(M,true)):=Lh (by rw[<- HDC.out,List.drop_length,ycs]);go_wp2;refine bodyPost_ret (v:=.tuple #[.slice no M.length nc,.bool true]) (by simp[results,results22,go_sem]) rfl ⟨_,by rw[HE.out],by rw[HE.out];exact HR.out,HB1.out⟩
  obtain⟨A,rfl,hsA⟩:=HS.out.get hlt;have hdc:=HDC.out;have hih:=IH.out l[i] (List.getElem_mem hlt);rw[yl5 hlt] at hdc hcn;obtain⟨s,hs⟩:∃ s,l[i]=s:=⟨_,rfl⟩
  rw[hs] at hsA hdc hih hcn;rw[ycs] at hdc;rw[yaI] at hcn;rw[yap] at hsA;obtain⟨p0,p1,p5,⟨rv,p2,hrv⟩,⟨av,p3,hav⟩,⟨bv,p4,hbv⟩⟩:=hsA;obtain⟨ro,rc,rfl,hr1,hr2,-⟩:=id hrv;have hrl:s.refs.length<=9223372036854775807:=by unfold maxLen at hr2;omega
  clear hr1 hr2;obtain⟨aa,ac,rfl,-,-,-⟩:=id hav;obtain⟨bo,bc,rfl,-,-,-⟩:=id hbv;have P0:=Lh p0;have P1:=Lh p1;have P2:=Lh p2;have P3:=Lh p3;have P4:=Lh p4;have HRV:=Lh hrv;have HBV:=Lh hbv;have HIH:=Lh hih;have HCN:=Lh hcn;have i0:(0:Int)<=(i:Int):=by omega
  have i1:(i:Int)<(l.length:Int):=by omega
  clear p0 p1 p2 p3 p4 p5 hrv hav hbv hih HDC hs;have q0:=yb HB1.out P0.out;have q1:=yb HB1.out P1.out;have q2:=yb HB1.out P2.out;have q3:=yb HB1.out P3.out;have q4:=yb HB1.out P4.out;have hsz:=HB1.out.size
  by_cases h1:s.kind=1
  case pos =>
   have z1:(s.kind==1)=true:=by rw[beq_iff_eq];exact h1
   obtain⟨M1,hM1⟩:∃ M1,M++[s.name]=M1:=⟨_,rfl⟩
   obtain⟨Q,hQ⟩:∃ Q,s.refs.any (fun x=>!M1.contains x.1)=Q:=⟨_,rfl⟩
   have HQ:=Lh hQ;have hml:M.length<=1000000:=by omega
   have HLN:Hid (M1.length+cnt s.body<=900000):=Lh (by rw[<- hM1,List.length_append,List.length_singleton];omega);have HCN:Hid (M1.length+cnt s.body+cnt (l.drop (i+1))<=900000):=Lh (by rw[<- hM1,List.length_append,List.length_singleton];omega)
   have HRS:Hid ((if (if Q=true then (M1,false) else ycs s.body M1).2=false then (if Q=true then (M1,false) else ycs s.body M1) else ycs (l.drop (i+1)) (if Q=true then (M1,false) else ycs s.body M1).1)=RS):=Lh (by
    rw[<- hdc];obtain⟨k,n,r,a,bd⟩:=s;simp only[St.kind,St.name,St.refs,St.body] at h1 hM1 hQ |-;rw[ykM,if_pos h1,hM1,hQ];rfl)
   have HM1:=Lh hM1;clear hM1 hQ hdc hcn h1
   go_wp2_with (at_builtin;refine yoD rfl (.tmp 23) (.tmp 29) rfl w0.heap.size _ M s.name rfl rfl HR hml hsz ?_;intro v4 w4 hrow4 hgrow4;have HB4:=Lh (HB1.out.grown hgrow4 hsz (fun q hq=>(World.ownsRow.lt HR.out q hq).1));clear hgrow4)
   rw[HM1.out] at hrow4;obtain⟨no,nc,rfl,hn1,hn2,-⟩:=id hrow4.nl;obtain⟨nl,hnl⟩:∃ nl,M1.length=nl:=⟨_,rfl⟩
   rw[hnl] at hrow4 |-;have HR4:=Lh hrow4;have HNL:Hid (nl=M1.length):=Lh hnl.symm;have hnm:nl<=9223372036854775807:=by unfold maxLen at hn2;omega
   clear hrow4 hn1 hn2 hnl q0 q1 q2 q3 q4
   go_loopw [7] (fun kv wy=>∃ k:Nat,kv=.int .i64 k/\k<=s.refs.length/\(s.refs.drop k).any (fun x=>!M1.contains x.1)=Q/\tre.Nrow wy w0.heap.size (.slice no nl nc) M1/\Below w0.heap.size w0 wy) (fun kv _=>s.refs.length-(intOf kv).toNat)
   case atStart=>exact⟨0,rfl,Nat.zero_le _,by rw[List.drop_zero];exact HQ.out,HR4.out,HB4.out⟩
   case round =>
    obtain⟨k,rfl,hk,hq,hrow,hB⟩:=hrel
    rename World=>wy
    have HR2:=Lh hrow;have HB2:=Lh hB;have HQ2:=Lh hq;clear hrow hB hq;have q0:=yb HB2.out P0.out;have q1:=yb HB2.out P1.out;have q2:=yb HB2.out P2.out;have q3:=yb HB2.out P3.out;have q4:=yb HB2.out P4.out
    by_cases hkl:k<s.refs.length
    case neg =>
     obtain rfl:k=s.refs.length:=by omega
     have HQF:Hid (Q=false):=Lh (by rw[<- HQ2.out,List.drop_length];rfl);have HRS2:Hid ((if (ycs s.body M1).2=false then ycs s.body M1 else ycs (l.drop (i+1)) (ycs s.body M1).1)=RS):=Lh (by have h:=HRS.out;rw[HQF.out] at h;simpa using h);obtain⟨N2,b2,hN2⟩:∃ N2 b2,ycs s.body M1=(N2,b2):=⟨_,_,rfl⟩
     have HN2:=Lh hN2;clear hN2;go_wp2_with fail
     refine(DcOk.use HIH w0 wy _ _ M1 N2 b2 HB2 HBV HR2 HLN HN2).mono ?_;rintro e w5 ⟨nv5,rfl,hr5,hb5⟩;have HR5:=Lh hr5;have HB5:=Lh hb5;clear hr5 hb5 q0 q1 q2 q3 q4;have HL5:Hid (N2.length<=M1.length+cnt s.body):=Lh (by have h:=yc9.2 s.body M1;rw[HN2.out] at h;exact h);cases b2
     case false =>
      have HE:Hid (RS=(N2,false)):=Lh (by rw[<- HRS2.out,HN2.out];rfl);go_wp2;refine bodyPost_ret (v:=.tuple #[nv5,.bool false]) (by simp[results,results22,go_sem]) rfl ⟨_,by rw[HE.out],by rw[HE.out];exact HR5.out,HB5.out⟩
     case true =>
      have HE:Hid (ycs (l.drop (i+1)) N2=RS):=Lh (by rw[<- HRS2.out,HN2.out];rfl);go_wp2
      go_roundw
      case rel=>exact⟨i+1,N2,by go_num,by omega,HE.out,HR5.out,by have:=HL5.out;have:=HLN.out;have:=HCN.out;omega,HB5.out⟩
      case measure=>simp[intOf];omega
    obtain⟨RA,rfl,t0,-,-,-⟩:=(HRV.out.keep HB2.out).get hkl;have hdr:=List.drop_eq_getElem_cons hkl;obtain⟨y,hy⟩:∃ y,s.refs[k]=y:=⟨_,rfl⟩
    rw[hy] at t0 hdr;have HQ3:Hid ((!M1.contains y.1||(s.refs.drop (k+1)).any (fun x=>!M1.contains x.1))=Q):=Lh (by rw[<- HQ2.out,hdr,List.any_cons]);obtain⟨Y,hY⟩:∃ Y,bb y.1=Y:=⟨_,rfl⟩
    have HY:Hid (Y.toList=y.1):=Lh (by rw[<- hY,ByteArray.toList_eq]);rw[hY] at t0;have j0:(0:Int)<=(k:Int):=by omega
    have j1:(k:Int)<(s.refs.length:Int):=by omega
    have hnl2:=HR2.out.nl;have T0:=Lh t0;clear hY hy hdr HQ2 t0;have T2:=Lh q2;have T0':=T0.out;go_wp2_with fail
    clear q0 q1 q2 q3 q4 hnl2 T0'
    go_loopw [8,9] (fun bv jv wz=>∃ (j:Nat) (b:Bool),bv=.bool b/\jv=.int .i64 j/\j<=M1.length/\(M1.take j).contains y.1=b/\tre.Nrow wz w0.heap.size (.slice no nl nc) M1/\Below wy.heap.size wy wz) (fun _ jv _=>M1.length-(intOf jv).toNat)
    case atStart=>exact⟨0,false,rfl,rfl,Nat.zero_le _,by simp,HR2.out,Below.refl _ _⟩
    case round =>
     obtain⟨j,b,rfl,rfl,hj,hb,hrow,hB⟩:=hrel
     rename World=>wz
     have HR3:=Lh hrow;have HB3:=Lh hB;have HB:=Lh hb;clear hrow hB hb
     by_cases hjl:j<M1.length
     case neg =>
      have hjn:j=M1.length:=by omega
      have HK:Hid (M1.contains y.1=b):=Lh (by rw[<- HB.out,hjn,List.take_length]);have hjm:j=nl:=hjn.trans HNL.out.symm;rw[hjm];clear hjn hjm hjl hj;have HB4:Hid (Below w0.heap.size w0 wz):=Lh (HB2.out.trans (HB3.out.mono HB2.out.size));cases b
      case false =>
       have HQT:Hid (Q=true):=Lh (by rw[<- HQ3.out,HK.out];rfl);have HE:Hid (RS=(M1,false)):=Lh (by have h:=HRS.out;rw[HQT.out] at h;simpa using h.symm);go_wp2;refine bodyPost_ret (v:=.tuple #[.slice no nl nc,.bool false]) (by simp[results,results22,go_sem]) rfl ⟨_,by rw[HE.out],by rw[HE.out];exact HR3.out,HB4.out⟩
      case true =>
       have HE:Hid ((s.refs.drop (k+1)).any (fun x=>!M1.contains x.1)=Q):=Lh (by rw[<- HQ3.out,HK.out];rfl);go_wp2
       go_roundw
       case rel=>exact⟨k+1,by go_num,by omega,HE.out,HR3.out,HB4.out⟩
       case measure=>simp[intOf];omega
     obtain⟨NA,hNA,u0⟩:=HR3.out.nl.get hjl;obtain rfl:=hNA;have q2:=yb HB3.out T2.out;have t0:=yb HB3.out T0.out
     have hgx:(M1.take (j+1)).contains y.1=(b||(y.1==M1[j])):=by
      rw[List.take_succ_eq_append_getElem hjl,List.contains_eq_any_beq,List.any_append,<- List.contains_eq_any_beq,HB.out];simp
     obtain⟨x,hx⟩:∃ x,M1[j]=x:=⟨_,rfl⟩
     rw[hx] at u0 hgx;obtain⟨X,hX⟩:∃ X,bb x=X:=⟨_,rfl⟩
     rw[hX] at u0;have hX2:X.toList=x:=by rw[<- hX,ByteArray.toList_eq]
     obtain⟨c,hc⟩:∃ c,(X.toList==Y.toList)=c:=⟨_,rfl⟩
     have hc2:(y.1==x)=c:=by rw[<- hc,hX2,HY.out,Bool.beq_comm]
     rw[hc2] at hgx;have HGX:=Lh hgx;have m0:(0:Int)<=(j:Int):=by omega
     have m1:(j:Int)<(nl:Int):=by rw[HNL.out];omega
     have m2:decide ((j:Int)<(nl:Int))=true:=decide_eq_true m1;clear hgx hX hX2 hc2 hx;cases b
     all_goals
      go_wp2_with fail
      go_quiet (fail)
      have hB7:=ya (yF wz nq) HB3.out;have hR7:tre.Nrow (wz.drewN nq) w0.heap.size _ M1:=Go.Proofs.YtgmidodmmlmmeaaGreatDoor.own_keep HR3.out (yF wz nq);generalize wz.drewN nq=wn at hB7 hR7 |-;go_wp2
      go_roundw
      case rel=>exact⟨j+1,_,rfl,by go_num,by omega,HGX.out,hR7,hB7⟩
      case measure=>simp[intOf];omega
  case neg =>
   have z1:(s.kind==1)=false:=by rw[beq_eq_false_iff_ne];exact h1
   obtain⟨Q,hQ⟩:∃ Q,s.refs.any (fun x=>!M.contains x.1)=Q:=⟨_,rfl⟩
   have HQ:=Lh hQ;have HLN:Hid (M.length+cnt s.body<=900000):=Lh (by omega);have HCN:Hid (M.length+cnt s.body+cnt (l.drop (i+1))<=900000):=Lh (by omega)
   have HRS:Hid ((if (if Q=true then (M,false) else ycs s.body M).2=false then (if Q=true then (M,false) else ycs s.body M) else ycs (l.drop (i+1)) (if Q=true then (M,false) else ycs s.body M).1)=RS):=Lh (by
    rw[<- hdc];obtain⟨k,n,r,a,bd⟩:=s;simp only[St.kind,St.refs,St.body] at h1 hQ |-;rw[ykM,if_neg h1,hQ];rfl)
   obtain⟨_,_,e0,hn1,hn2,-⟩:=id HR.out.nl;cases e0
   obtain⟨nl,hnl⟩:∃ nl,M.length=nl:=⟨_,rfl⟩
   have hrow4:=HR.out;rw[hnl] at hrow4 |-;have HR4:=Lh hrow4;have HNL:Hid (nl=M.length):=Lh hnl.symm;have hnm:nl<=9223372036854775807:=by unfold maxLen at hn2;omega
   clear hQ hdc hcn h1 hrow4 hn1 hn2 hnl HR;go_wp2_with fail
   clear q0 q1 q2 q3 q4
   go_loopw [7] (fun kv wy=>∃ k:Nat,kv=.int .i64 k/\k<=s.refs.length/\(s.refs.drop k).any (fun x=>!M.contains x.1)=Q/\tre.Nrow wy w0.heap.size (.slice no nl nc) M/\Below w0.heap.size w0 wy) (fun kv _=>s.refs.length-(intOf kv).toNat)
   case atStart=>exact⟨0,rfl,Nat.zero_le _,by rw[List.drop_zero];exact HQ.out,HR4.out,HB1.out⟩
   case round =>
    obtain⟨k,rfl,hk,hq,hrow,hB⟩:=hrel
    rename World=>wy
    have HR2:=Lh hrow;have HB2:=Lh hB;have HQ2:=Lh hq;clear hrow hB hq;have q0:=yb HB2.out P0.out;have q1:=yb HB2.out P1.out;have q2:=yb HB2.out P2.out;have q3:=yb HB2.out P3.out;have q4:=yb HB2.out P4.out
    by_cases hkl:k<s.refs.length
    case neg =>
     obtain rfl:k=s.refs.length:=by omega
     have HQF:Hid (Q=false):=Lh (by rw[<- HQ2.out,List.drop_length];rfl);have HRS2:Hid ((if (ycs s.body M).2=false then ycs s.body M else ycs (l.drop (i+1)) (ycs s.body M).1)=RS):=Lh (by have h:=HRS.out;rw[HQF.out] at h;simpa using h);obtain⟨N2,b2,hN2⟩:∃ N2 b2,ycs s.body M=(N2,b2):=⟨_,_,rfl⟩
     have HN2:=Lh hN2;clear hN2;go_wp2_with fail
     refine(DcOk.use HIH w0 wy _ _ M N2 b2 HB2 HBV HR2 HLN HN2).mono ?_;rintro e w5 ⟨nv5,rfl,hr5,hb5⟩;have HR5:=Lh hr5;have HB5:=Lh hb5;clear hr5 hb5 q0 q1 q2 q3 q4;have HL5:Hid (N2.length<=M.length+cnt s.body):=Lh (by have h:=yc9.2 s.body M;rw[HN2.out] at h;exact h);cases b2
     case false =>
      have HE:Hid (RS=(N2,false)):=Lh (by rw[<- HRS2.out,HN2.out];rfl);go_wp2;refine bodyPost_ret (v:=.tuple #[nv5,.bool false]) (by simp[results,results22,go_sem]) rfl ⟨_,by rw[HE.out],by rw[HE.out];exact HR5.out,HB5.out⟩
     case true =>
      have HE:Hid (ycs (l.drop (i+1)) N2=RS):=Lh (by rw[<- HRS2.out,HN2.out];rfl);go_wp2
      go_roundw
      case rel=>exact⟨i+1,N2,by go_num,by omega,HE.out,HR5.out,by have:=HL5.out;have:=HLN.out;have:=HCN.out;omega,HB5.out⟩
      case measure=>simp[intOf];omega
    obtain⟨RA,rfl,t0,-,-,-⟩:=(HRV.out.keep HB2.out).get hkl;have hdr:=List.drop_eq_getElem_cons hkl;obtain⟨y,hy⟩:∃ y,s.refs[k]=y:=⟨_,rfl⟩
    rw[hy] at t0 hdr;have HQ3:Hid ((!M.contains y.1||(s.refs.drop (k+1)).any (fun x=>!M.contains x.1))=Q):=Lh (by rw[<- HQ2.out,hdr,List.any_cons]);obtain⟨Y,hY⟩:∃ Y,bb y.1=Y:=⟨_,rfl⟩
    have HY:Hid (Y.toList=y.1):=Lh (by rw[<- hY,ByteArray.toList_eq]);rw[hY] at t0;have j0:(0:Int)<=(k:Int):=by omega
    have j1:(k:Int)<(s.refs.length:Int):=by omega
    have hnl2:=HR2.out.nl;have T0:=Lh t0;clear hY hy hdr HQ2 t0;have T2:=Lh q2;have T0':=T0.out;go_wp2_with fail
    clear q0 q1 q2 q3 q4 hnl2 T0'
    go_loopw [8,9] (fun bv jv wz=>∃ (j:Nat) (b:Bool),bv=.bool b/\jv=.int .i64 j/\j<=M.length/\(M.take j).contains y.1=b/\tre.Nrow wz w0.heap.size (.slice no nl nc) M/\Below wy.heap.size wy wz) (fun _ jv _=>M.length-(intOf jv).toNat)
    case atStart=>exact⟨0,false,rfl,rfl,Nat.zero_le _,by simp,HR2.out,Below.refl _ _⟩
    case round =>
     obtain⟨j,b,rfl,rfl,hj,hb,hrow,hB⟩:=hrel
     rename World=>wz
     have HR3:=Lh hrow;have HB3:=Lh hB;have HB:=Lh hb;clear hrow hB hb
     by_cases hjl:j<M.length
     case neg =>
      have hjn:j=M.length:=by omega
      have HK:Hid (M.contains y.1=b):=Lh (by rw[<- HB.out,hjn,List.take_length]);have hjm:j=nl:=hjn.trans HNL.out.symm;rw[hjm];clear hjn hjm hjl hj;have HB4:Hid (Below w0.heap.size w0 wz):=Lh (HB2.out.trans (HB3.out.mono HB2.out.size));cases b
      case false =>
       have HQT:Hid (Q=true):=Lh (by rw[<- HQ3.out,HK.out];rfl);have HE:Hid (RS=(M,false)):=Lh (by have h:=HRS.out;rw[HQT.out] at h;simpa using h.symm);go_wp2;refine bodyPost_ret (v:=.tuple #[.slice no nl nc,.bool false]) (by simp[results,results22,go_sem]) rfl ⟨_,by rw[HE.out],by rw[HE.out];exact HR3.out,HB4.out⟩
      case true =>
       have HE:Hid ((s.refs.drop (k+1)).any (fun x=>!M.contains x.1)=Q):=Lh (by rw[<- HQ3.out,HK.out];rfl);go_wp2
       go_roundw
       case rel=>exact⟨k+1,by go_num,by omega,HE.out,HR3.out,HB4.out⟩
       case measure=>simp[intOf];omega
     obtain⟨NA,hNA,u0⟩:=HR3.out.nl.get hjl;obtain rfl:=hNA;have q2:=yb HB3.out T2.out;have t0:=yb HB3.out T0.out
     have hgx:(M.take (j+1)).contains y.1=(b||(y.1==M[j])):=by
      rw[List.take_succ_eq_append_getElem hjl,List.contains_eq_any_beq,List.any_append,<- List.contains_eq_any_beq,HB.out];simp
     obtain⟨x,hx⟩:∃ x,M[j]=x:=⟨_,rfl⟩
     rw[hx] at u0 hgx;obtain⟨X,hX⟩:∃ X,bb x=X:=⟨_,rfl⟩
     rw[hX] at u0;have hX2:X.toList=x:=by rw[<- hX,ByteArray.toList_eq]
     obtain⟨c,hc⟩:∃ c,(X.toList==Y.toList)=c:=⟨_,rfl⟩
     have hc2:(y.1==x)=c:=by rw[<- hc,hX2,HY.out,Bool.beq_comm]
     rw[hc2] at hgx;have HGX:=Lh hgx;have m0:(0:Int)<=(j:Int):=by omega
     have m1:(j:Int)<(nl:Int):=by rw[HNL.out];omega
     have m2:decide ((j:Int)<(nl:Int))=true:=decide_eq_true m1;clear hgx hX hX2 hc2 hx;cases b
     all_goals
      go_wp2_with fail
      go_quiet (fail)
      have hB7:=ya (yF wz nq) HB3.out;have hR7:tre.Nrow (wz.drewN nq) w0.heap.size _ M:=Go.Proofs.YtgmidodmmlmmeaaGreatDoor.own_keep HR3.out (yF wz nq);generalize wz.drewN nq=wn at hB7 hR7 |-;go_wp2
      go_roundw
      case rel=>exact⟨j+1,_,rfl,by go_num,by omega,HGX.out,hR7,hB7⟩
      case measure=>simp[intOf];omega
theorem dc_ok (l:List St):DcOk l:=ydR ysr l
end Go.Proofs.YtgmidodmmlmmeaaGreatDoor.xpt
