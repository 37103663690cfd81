/-
  Contracts and plain facts of the layers below; conditions as each theorem states them.
-/
import Derived.Test.YtgmidodmmlmmeaaGreatDoorMed
set_option maxHeartbeats 8000000
set_option maxRecDepth 100000
namespace Go.Proofs.YtgmidodmmlmmeaaGreatDoor.xpt
open Go.RowKit lex tre att nor _root_.Go.Proofs.Tryz
theorem ypr {x:gra.Nd}(h:NdV x):ybw (ybw (ybw (ybw [] yQ (yJ (x.h*1)) (yJ (10000*1))) yE x.lb x.nm) yY (yT x.ps) []) yao (yJ (x.w*1)) (yJ (20000*1))=ybd x:=by
 have h1:=h.h;have h2:=h.w;have e1:yJ (x.h*1)=yJ (10000*1)↔x.h=10000:=by rw[Int.mul_one];exact ycK (by omega) (by omega)
 have e2:yJ (x.w*1)=yJ (20000*1)↔x.w=20000:=by rw[Int.mul_one];exact ycK (by omega) (by omega)
 rw[yaV e1,yaV (Iff.rfl (a:=x.lb=x.nm)),yaV (ylU x.ps),yaV e2];unfold ybd;simp only[List.append_assoc,List.nil_append,Int.mul_one]
theorem yps {W:World}{g:Nat}{t:TypeId}{a0 a1 a2 a3 a4 a5:Value}(h:blk W g t #[a0,a1,a2,a3,a4,a5])(c0 c1 c2 c3 c4 c5:Value):blk ((((((W.setCell ⟨g,0,none⟩ c0).setCell ⟨g,1,none⟩ c1).setCell ⟨g,2,none⟩ c2).setCell ⟨g,3,none⟩ c3).setCell ⟨g,4,none⟩ c4).setCell ⟨g,5,none⟩ c5) g t #[c0,c1,c2,c3,c4,c5]:=by
 have h0:blk (W.setCell ⟨g,0,none⟩ c0) g t #[c0,a1,a2,a3,a4,a5]:=yg h c0;have h1:blk ((W.setCell ⟨g,0,none⟩ c0).setCell ⟨g,1,none⟩ c1) g t #[c0,c1,a2,a3,a4,a5]:=yg h0 c1;have h2:blk (((W.setCell ⟨g,0,none⟩ c0).setCell ⟨g,1,none⟩ c1).setCell ⟨g,2,none⟩ c2) g t #[c0,c1,c2,a3,a4,a5]:=yg h1 c2;have h3:blk ((((W.setCell ⟨g,0,none⟩ c0).setCell ⟨g,1,none⟩ c1).setCell ⟨g,2,none⟩ c2).setCell ⟨g,3,none⟩ c3) g t #[c0,c1,c2,c3,a4,a5]:=yg h2 c3;have h4:blk (((((W.setCell ⟨g,0,none⟩ c0).setCell ⟨g,1,none⟩ c1).setCell ⟨g,2,none⟩ c2).setCell ⟨g,3,none⟩ c3).setCell ⟨g,4,none⟩ c4) g t #[c0,c1,c2,c3,c4,a5]:=yg h3 c4;exact yg h4 c5
theorem yby {B:Nat}{a W:World}{g:Nat}(h:Below B a W)(hg:B<=g)(c0 c1 c2 c3 c4 c5:Value):Below B a ((((((W.setCell ⟨g,0,none⟩ c0).setCell ⟨g,1,none⟩ c1).setCell ⟨g,2,none⟩ c2).setCell ⟨g,3,none⟩ c3).setCell ⟨g,4,none⟩ c4).setCell ⟨g,5,none⟩ c5):=(yaq h hg c0 c1 c2 c3 c4).setCell hg _
theorem ypt {W:World}{b g:Nat}{t:TypeId}{arr:Array Value}(h:blk W b t arr)(hb:b≠g)(c0 c1 c2 c3 c4 c5:Value):blk ((((((W.setCell ⟨g,0,none⟩ c0).setCell ⟨g,1,none⟩ c1).setCell ⟨g,2,none⟩ c2).setCell ⟨g,3,none⟩ c3).setCell ⟨g,4,none⟩ c4).setCell ⟨g,5,none⟩ c5) b t arr:=yW (yn0 h hb c0 c1 c2 c3 c4) hb _
theorem yr5 {w0 W:World}{R:Nat}{g:gra.Gr}{V:Wv}{n k i:Nat}(h:Wc w0 W R g V n k)(hi:i<g.ns.length):∃ A po pc,V.no=some A/\W.cell? ⟨R,2,none⟩=some (.slice (some A) g.ns.length V.nc)/\ndC w0 (A.add (i*6)) g.ns[i] po pc/\gra.Pts w0 (.slice po g.ns[i].ps.length pc) g.ns[i].ps/\g.ns[i].nm.length<=maxLen:=by
 obtain⟨no,nc,eo,ec,co,cc,mv⟩:=V;obtain⟨h1,h2,h3,h4,h5⟩:=h;obtain⟨nv,ev,cv,e,-,q1,-,q3⟩:=h1;cases e
 obtain⟨A,e,po,pc,q4,q5,q6⟩:=yo3 q1 hi;simp only at e;subst e;exact⟨A,po,pc,rfl,by rw[yd h4];rfl,q4,q5,q6⟩
def A45 (a:Act)(R rb nb:Nat):Prop:=a=⟨#[.pointer (some ⟨R,0,none⟩),a.tmps.getD 1 undef,.pointer (some ⟨rb,0,none⟩),.pointer (some ⟨nb,0,none⟩),a.tmps.getD 4 undef,a.tmps.getD 5 undef,a.tmps.getD 6 undef,a.tmps.getD 7 undef,a.tmps.getD 8 undef,a.tmps.getD 9 undef,a.tmps.getD 10 undef,a.tmps.getD 11 undef,a.tmps.getD 12 undef,a.tmps.getD 13 undef,a.tmps.getD 14 undef,a.tmps.getD 15 undef,a.tmps.getD 16 undef,a.tmps.getD 17 undef,a.tmps.getD 18 undef,a.tmps.getD 19 undef,a.tmps.getD 20 undef,a.tmps.getD 21 undef,a.tmps.getD 22 undef,a.tmps.getD 23 undef,a.tmps.getD 24 undef,a.tmps.getD 25 undef,a.tmps.getD 26 undef,a.tmps.getD 27 undef,a.tmps.getD 28 undef,a.tmps.getD 29 undef,a.tmps.getD 30 undef,a.tmps.getD 31 undef,a.tmps.getD 32 undef,a.tmps.getD 33 undef,a.tmps.getD 34 undef,a.tmps.getD 35 undef,a.tmps.getD 36 undef,a.tmps.getD 37 undef,a.tmps.getD 38 undef,a.tmps.getD 39 undef,a.tmps.getD 40 undef,a.tmps.getD 41 undef,a.tmps.getD 42 undef,a.tmps.getD 43 undef,a.tmps.getD 44 undef],[]⟩
theorem A45.use {a:Act}{R rb nb:Nat}(h:A45 a R rb nb):∃ f:Nat->Value,a=⟨#[.pointer (some ⟨R,0,none⟩),f 1,.pointer (some ⟨rb,0,none⟩),.pointer (some ⟨nb,0,none⟩),f 4,f 5,f 6,f 7,f 8,f 9,f 10,f 11,f 12,f 13,f 14,f 15,f 16,f 17,f 18,f 19,f 20,f 21,f 22,f 23,f 24,f 25,f 26,f 27,f 28,f 29,f 30,f 31,f 32,f 33,f 34,f 35,f 36,f 37,f 38,f 39,f 40,f 41,f 42,f 43,f 44],[]⟩:=⟨fun i=>a.tmps.getD i undef,h⟩
theorem ykZ (w0:World)(R:Nat)(g:gra.Gr)(V:Wv)(n k:Nat)(w:World)(hg:Hid (GV g))(hW:Hid (Wc w0 w R g V n k))(htb:Hid (Tab w0))(hn:n<g.ns.length) :
    Calls Tryz.prog 135 #[.pointer (some ⟨R,0,none⟩)] w fun e w'=>∃ v,e=.returned v/\VSt (ybp g.ns[n]) w w' v/\Wc w0 w' R g V (n+1) k/\Pk R w w':=by
 have hgl:g.ns.length<=64:=hg.out.nl;obtain⟨-,-,-,c6,-,-,-,-,-,-⟩:=ybl hW.out;obtain⟨A,po,pc,-,c2,hC,hP,hml⟩:=yr5 hW.out hn;obtain⟨nc,hnc⟩:∃ nc,V.nc=nc:=⟨_,rfl⟩
 rw[hnc] at c2;clear hnc;have hnv:=hg.out.nd _ (List.getElem_mem hn);obtain⟨y,hy⟩:∃ y,g.ns[n]=y:=⟨_,rfl⟩
 rw[hy] at hC hP hnv hml |-;obtain⟨d0,d1,d2,d3,d4,d5⟩:=hC.keep hW.out.base;obtain⟨X,hX⟩:∃ X,bb y.nm=X:=⟨_,rfl⟩
 obtain⟨L,hL⟩:∃ X,bb y.lb=X:=⟨_,rfl⟩
 rw[hX] at d0;rw[hL] at d1;have HX:=Lh hX;have HL:=Lh hL;have HNV:=Lh hnv;have HP:=Lh hP;have hww:=hnv.w;have hhh:=hnv.h;have hlb:=hnv.lb;have hpl:=hnv.len;have hRl:=hW.out.lt;have z0:(0:Int)<=(n:Int):=by omega
 have z1:(n:Int)<(g.ns.length:Int):=by omega
 have k1:=yl w #[.int .i64 0,.string ⟨#[]⟩,.slice none 0 0,.slice none 0 0,.slice none 0 0] 67;have b1:=al1 w (.cells #[.int .i64 0,.string ⟨#[]⟩,.slice none 0 0,.slice none 0 0,.slice none 0 0] 67);have q1:(w.alloc (.cells #[.int .i64 0,.string ⟨#[]⟩,.slice none 0 0,.slice none 0 0,.slice none 0 0] 67)).heap.size=w.heap.size+1:=by simp
 have HK1:=Lh k1;have HB1:=Lh b1;have HQ1:=Lh q1;have HC6:=Lh c6;have HC2:=Lh c2;have HD0:=Lh d0;have HD1:=Lh d1;have HD2:=Lh d2;have HD3:=Lh d3;have HD4:=Lh d4;have HD5:=Lh d5;clear k1 b1 q1 hy hX hL hnv hP hC c6 c2 d0 d1 d2 d3 d4 d5;go_enter func135,ntmps135;go_wp2_with fail
 generalize w.alloc (.cells #[.int .i64 0,.string ⟨#[]⟩,.slice none 0 0,.slice none 0 0,.slice none 0 0] 67)=w1 at HK1 HB1 HQ1 |-;obtain⟨rb,hrb⟩:∃ rb,w.heap.size=rb:=⟨_,rfl⟩
 have hq1:=HQ1.out;have hk1:=HK1.out;rw[hrb] at hk1 hq1;simp only[hrb];have HRB:=Lh hrb;clear hrb HK1;have c6:=yb HB1.out HC6.out;have c2:=yb HB1.out HC2.out;have d0:=yb HB1.out HD0.out;have d1:=yb HB1.out HD1.out;have d2:=yb HB1.out HD2.out;have d3:=yb HB1.out HD3.out;have d4:=yb HB1.out HD4.out;have d5:=yb HB1.out HD5.out;obtain⟨M,HM⟩:∃ M:Act->World->Prop,Hid (∀ a W,M a W↔A45 a R rb (rb+1)/\Below w.heap.size w W/\W.heap.size=rb+2/\blk W rb 67 #[.int .i64 0,.string ⟨#[]⟩,.slice none 0 0,.slice none 0 0,.slice none 0 0]/\blk W (rb+1) 59 #[.string X,.string L,.int .i64 y.w,.int .i64 y.h,.int .i64 y.cl,.slice po y.ps.length pc]):=⟨_,Lh fun _ _=>Iff.rfl⟩
 refine yem M ?_ ?_
 ·refine ycH (fun W:World=>W.cell? ⟨R,2,none⟩=some (.slice (some A) g.ns.length nc)/\W.cell? ⟨R,6,none⟩=some (.int .i64 (n:Int))/\W.cell? (A.add (n*6))=some (.string X)/\W.cell? ⟨(A.add (n*6)).block,(A.add (n*6)).off+1,none⟩=some (.string L)/\W.cell? ⟨(A.add (n*6)).block,(A.add (n*6)).off+2,none⟩=some (.int .i64 y.w)/\W.cell? ⟨(A.add (n*6)).block,(A.add (n*6)).off+3,none⟩=some (.int .i64 y.h)/\W.cell? ⟨(A.add (n*6)).block,(A.add (n*6)).off+4,none⟩=some (.int .i64 y.cl)/\W.cell? ⟨(A.add (n*6)).block,(A.add (n*6)).off+5,none⟩=some (.slice po y.ps.length pc)) 12 (by kernel_rfl) (⟨yf c2,yf c6,yf d0,yf d1,yf d2,yf d3,yf d4,yf d5⟩) (fun hHeld=>?_)
  refine ton 0 5 (.pointer (some ⟨R,0,none⟩)) ?_;refine ton 1 6 (.pointer (some ⟨R,0,none⟩)) ?_;refine ton 2 7 (.pointer (some ⟨R,0,none⟩)) ?_;refine ton 3 8 (.pointer (some ⟨R,2,none⟩)) ?_;refine ton 4 9 (.slice (some A) g.ns.length nc) ?_;refine ton 5 10 (.pointer (some ⟨R,0,none⟩)) ?_;refine ton 6 11 (.pointer (some ⟨R,0,none⟩)) ?_;refine ton 7 12 (.pointer (some ⟨R,6,none⟩)) ?_;refine ton 8 13 (.int .i64 (n:Int)) ?_;refine ton 9 14 (.pointer (some (A.add (n*6)))) ?_;refine ton 10 15 (.agg #[.string X,.string L,.int .i64 y.w,.int .i64 y.h,.int .i64 y.cl,.slice po y.ps.length pc]) ?_
  try simp only[sA,sB,sC]
  have hbd:=yat w1;replace hHeld:((fun W:World=>W.cell? ⟨R,2,none⟩=some (.slice (some A) g.ns.length nc)/\W.cell? ⟨R,6,none⟩=some (.int .i64 (n:Int))/\W.cell? (A.add (n*6))=some (.string X)/\W.cell? ⟨(A.add (n*6)).block,(A.add (n*6)).off+1,none⟩=some (.string L)/\W.cell? ⟨(A.add (n*6)).block,(A.add (n*6)).off+2,none⟩=some (.int .i64 y.w)/\W.cell? ⟨(A.add (n*6)).block,(A.add (n*6)).off+3,none⟩=some (.int .i64 y.h)/\W.cell? ⟨(A.add (n*6)).block,(A.add (n*6)).off+4,none⟩=some (.int .i64 y.cl)/\W.cell? ⟨(A.add (n*6)).block,(A.add (n*6)).off+5,none⟩=some (.slice po y.ps.length pc))) w1.drew:=hHeld;have hqd:w1.drew.heap.size=rb+1:=hq1;generalize w1.drew=y0 at hHeld hbd hqd |-;refine tgo (i:=11) (by kernel_rfl) rfl (fun K hK=>?_);go_simp;refine hK.out _ _ (fun _=>(by have k:=hHeld;repeat first | exact yh k | (refine⟨yh k.1,?_⟩;replace k:=k.2))) (fun hHeld=>?_);replace hHeld:=hHeld (by decide);clear hK K
  try simp only[sA,sB,sC]
  have hs:=yl y0 #[.string ⟨#[]⟩,.string ⟨#[]⟩,.int .i64 0,.int .i64 0,.int .i64 0,.slice none 0 0] 59;have hb':=al1 y0 (.cells #[.string ⟨#[]⟩,.string ⟨#[]⟩,.int .i64 0,.int .i64 0,.int .i64 0,.slice none 0 0] 59);have hq2:(y0.alloc (.cells #[.string ⟨#[]⟩,.string ⟨#[]⟩,.int .i64 0,.int .i64 0,.int .i64 0,.slice none 0 0] 59)).heap.size=rb+2:=by simp;omega
  rw[hqd] at hs;generalize y0.alloc (.cells #[.string ⟨#[]⟩,.string ⟨#[]⟩,.int .i64 0,.int .i64 0,.int .i64 0,.slice none 0 0] 59)=y1 at hs hb' hHeld hq2 |-;have hrb1:=yj hb' (yj hbd hk1);have hbb:=ya hb' (ya hbd HB1.out);have f0:y1.frozen? ⟨rb+1,0,none⟩=false:=yk hs;have e0:=bc 0 hs;have f1:y1.frozen? ⟨rb+1,1,none⟩=false:=yk hs;have e1:=bc 1 hs;have f2:y1.frozen? ⟨rb+1,2,none⟩=false:=yk hs;have e2:=bc 2 hs;have f3:y1.frozen? ⟨rb+1,3,none⟩=false:=yk hs;have e3:=bc 3 hs;have f4:y1.frozen? ⟨rb+1,4,none⟩=false:=yk hs;have e4:=bc 4 hs;have f5:y1.frozen? ⟨rb+1,5,none⟩=false:=yk hs;have e5:=bc 5 hs
  try simp only[hqd]
  refine tgo (i:=12) (by kernel_rfl) rfl (fun K hK=>?_);go_simp;refine hK.out _ _ (fun h=>absurd rfl h) (fun hHeld=>?_);clear hK K hHeld
  try simp only[sA,sB,sC]
  refine yb3 (by kernel_rfl) ?_ _;exact⟨rfl,(HM.out _ _).2 ⟨rfl,yby hbb (by have:=HRB.out;omega) _ _ _ _ _ _,by simpa [World.setCell] using hq2,ypt hrb1 (by omega) _ _ _ _ _ _,yps hs (.string X) (.string L) (.int .i64 y.w) (.int .i64 y.h) (.int .i64 y.cl) (.slice po y.ps.length pc)⟩⟩
 intro a2 w2 hm;obtain⟨ha,hb2,hz2,hr2,hn2⟩:=(HM.out _ _).1 hm;obtain⟨f,rfl⟩:=ha.use;clear HM hm M ha c6 c2 d0 d1 d2 d3 d4 d5 hk1 HB1 hq1 HC6 HC2 HD0 HD1 HD2 HD3 HD4 HD5 HQ1;obtain⟨-,-,-,c6,-,fz6,-,-,-,-⟩:=ybl (hW.out.below hb2);have hwr:IntKind.i64.wrap ((n:Int)+1)=(n:Int)+1:=IntWalk.i64_in _ (by omega);have HB2:=Lh hb2;have hwc3:=(hW.out.below hb2).setN;have hpk3:Pk R w (w2.setCell ⟨R,6,none⟩ (.int .i64 ((n:Int)+1))):=(Pk.below hb2).trans (Pk.set R w2 6 _);have hne:rb≠R:=by have:=HRB.out;omega
 have hr3:=yW (o:=6) hr2 hne (.int .i64 ((n:Int)+1));have hn3:=yW (o:=6) hn2 (show rb+1≠R by have:=HRB.out;omega) (.int .i64 ((n:Int)+1));have hz3:(w2.setCell ⟨R,6,none⟩ (.int .i64 ((n:Int)+1))).heap.size=rb+2:=by simpa [World.setCell] using hz2
 have HWC3:=Lh hwc3;have HPK3:=Lh hpk3;have HR3:=Lh hr3;have HN3:=Lh hn3;have HZ3:=Lh hz3;have n3:=bc 3 hn2;have hne1:R≠rb+1:=by have:=HRB.out;omega
 have hne2:rb+1≠R:=Ne.symm hne1;have hlt1:rb+1<w2.heap.size:=by omega
 clear hwc3 hpk3 hr3 hn3 hz3 hb2 hr2 hn2 hne;go_wp2_with fail
 have hlb0:=NB.new (B:=rb+2) (w2.setCell ⟨R,6,none⟩ (.int .i64 ((n:Int)+1))) 1;have hbl:=al1 (w2.setCell ⟨R,6,none⟩ (.int .i64 ((n:Int)+1))) (.cells #[.int .i64 1,.slice none 0 0] 132);generalize w2.setCell ⟨R,6,none⟩ (.int .i64 ((n:Int)+1))=w3 at HWC3 HPK3 HR3 HN3 HZ3 hlb0 hbl |-;rw[HZ3.out] at hlb0;generalize w3.alloc (.cells #[.int .i64 1,.slice none 0 0] 132)=w4 at hlb0 hbl |-;have hz3:=HZ3.out
 try simp only[hz3]
 try simp only[hz2]
 have HNB4:=Lh hlb0;have hbl2:Below (rb+2) w3 w4:=by rw[<- hz3];exact hbl
 have HB4:=Lh hbl2;clear hlb0 hbl hbl2 c6 fz6 hz3 n3 hne1 hne2 hlt1;refine(ybO (rb+2) (rb+2) 1 [] ⟨#[104,101,105,103,104,116]⟩ yQ y.h 1 10000 w4 HNB4 (Lh (yt htb.out ((HWC3.out.base).trans (HB4.out.mono (by have:=HZ3.out;have:=HWC3.out.lt;omega))))) (Lh rfl) (by decide) (Lh rfl) (Nat.le_refl _) (by decide) (by omega) (by omega)).mono ?_;rintro e w5 ⟨rfl,hnb,hkp⟩;have HNB5:=Lh hnb;have HB5:=Lh (HB4.out.trans hkp.1);clear hnb hkp;have hl5:(ybw [] yQ (yJ (y.h*1)) (yJ (10000*1))).length<=1:=by have:=yaW [] yQ (yJ (y.h*1)) (yJ (10000*1));simpa using this
 obtain⟨l5,hl5'⟩:∃ l,(ybw [] yQ (yJ (y.h*1)) (yJ (10000*1)))=l:=⟨_,rfl⟩
 rw[hl5'] at hl5 HNB5;have HL5:=Lh hl5';clear hl5';have hbk:Below w3.heap.size w3 w5:=by rw[HZ3.out];exact HB5.out
 have n1:=bc 1 (yj hbk HN3.out);have n0:=bc 0 (yj hbk HN3.out);clear hbk;go_wp2_with fail
 refine(ydC (rb+2) (rb+2) 1 l5 ⟨#[108,97,98,101,108]⟩ L X yE y.lb y.nm w5 HNB5 (Lh rfl) HL HX (Nat.le_refl _) (by omega)).mono ?_;rintro e w6 ⟨rfl,hnb,hkp⟩;have HNB6:=Lh hnb;have HB6:=Lh (HB5.out.trans hkp.1);clear hnb hkp n1 n0;have hl6:(ybw l5 yE y.lb y.nm).length<=2:=by have:=yaW l5 yE y.lb y.nm;omega
 obtain⟨l6,hl6'⟩:∃ l,(ybw l5 yE y.lb y.nm)=l:=⟨_,rfl⟩
 rw[hl6'] at hl6 HNB6;have HL6:=Lh hl6';clear hl6';have hbk:Below w3.heap.size w3 w6:=by rw[HZ3.out];exact HB6.out
 have n5:=bc 5 (yj hbk HN3.out);clear hbk;go_wp2_with fail
 obtain⟨F,hF⟩:∃ F,bb (yT y.ps)=F:=⟨_,rfl⟩
 have HF:=Lh hF;clear hF;refine(ymR (.slice po y.ps.length pc) y.ps F w6 (Lh (HP.out.keep ((HWC3.out.base).trans (HB6.out.mono (by have:=HZ3.out;have:=HWC3.out.lt;omega))))) (Lh HNV.out.pv) hpl HF).mono ?_;rintro e w7 ⟨rfl,hb7⟩;have HNB7:=Lh (HNB6.out.below hb7);have HB7:=Lh (HB6.out.trans (hb7.mono (by have:=HB6.out.size;have:=HZ3.out;omega)));clear hb7 n5;go_wp2_with fail
 refine(ydC (rb+2) (rb+2) 1 l6 ⟨#[112,111,114,116,115]⟩ F ⟨#[]⟩ yY (yT y.ps) [] w7 HNB7 (Lh rfl) HF (Lh rfl) (Nat.le_refl _) (by omega)).mono ?_;rintro e w8 ⟨rfl,hnb,hkp⟩;have HNB8:=Lh hnb;have HB8:=Lh (HB7.out.trans hkp.1);clear hnb hkp;have hl8:(ybw l6 yY (yT y.ps) []).length<=3:=by have:=yaW l6 yY (yT y.ps) [];omega
 obtain⟨l8,hl8'⟩:∃ l,(ybw l6 yY (yT y.ps) [])=l:=⟨_,rfl⟩
 rw[hl8'] at hl8 HNB8;have HL8:=Lh hl8';clear hl8';have hbk:Below w3.heap.size w3 w8:=by rw[HZ3.out];exact HB8.out
 have n2:=bc 2 (yj hbk HN3.out);clear hbk;go_wp2_with fail
 refine(ybO (rb+2) (rb+2) 1 l8 ⟨#[119,105,100,116,104]⟩ yao y.w 1 20000 w8 HNB8 (Lh (yt htb.out ((HWC3.out.base).trans (HB8.out.mono (by have:=HZ3.out;have:=HWC3.out.lt;omega))))) (Lh rfl) (by decide) (Lh rfl) (Nat.le_refl _) (by omega) (by omega) (by omega)).mono ?_;rintro e w9 ⟨rfl,hnb,hkp⟩;have HNB9:=Lh hnb;have HB9:=Lh (HB8.out.trans hkp.1);clear hnb hkp n2;have hl9:(ybw l8 yao (yJ (y.w*1)) (yJ (20000*1))).length<=4:=by have:=yaW l8 yao (yJ (y.w*1)) (yJ (20000*1));omega
 have hA:(ybw l8 yao (yJ (y.w*1)) (yJ (20000*1)))=ybd y:=by rw[<- HL8.out,<- HL6.out,<- HL5.out];exact ypr HNV.out
 obtain⟨l9,hl9'⟩:∃ l,(ybw l8 yao (yJ (y.w*1)) (yJ (20000*1)))=l:=⟨_,rfl⟩
 rw[hl9'] at hl9 HNB9 hA;have HA:=Lh hA;clear hl9' hA;have hb9:Below w3.heap.size w3 w9:=by rw[HZ3.out];exact HB9.out
 obtain⟨ao,ac,hlb9,hrow9⟩:=id HNB9.out;have hn9:=yj hb9 HN3.out;have hr9:=yj hb9 HR3.out;obtain⟨_,_,e9,hac1,hac2⟩:=yu hrow9;cases e9
 have n0:=bc 0 hn9;have m1:=bc 1 hlb9;have HR9:=Lh hr9;have HROW9:=Lh hrow9;have HLB9:=Lh hlb9;have HBW:=Lh hb9;have f0:w9.frozen? ⟨rb,0,none⟩=false:=yk hr9;have e0:=bc 0 hr9;have f1:w9.frozen? ⟨rb,1,none⟩=false:=yk hr9;have e1:=bc 1 hr9;have f2:w9.frozen? ⟨rb,2,none⟩=false:=yk hr9;have e2:=bc 2 hr9;have f3:w9.frozen? ⟨rb,3,none⟩=false:=yk hr9;have e3:=bc 3 hr9;have f4:w9.frozen? ⟨rb,4,none⟩=false:=yk hr9;have e4:=bc 4 hr9;clear hb9 hlb9 hrow9 hn9 hr9;go_wp2_with fail
 refine ycH (fun W:World=>W.cell? ⟨rb+1,0,none⟩=some (.string X)/\W.cell? ⟨rb+2,1,none⟩=some (.slice ao l9.length ac)) 6 (by kernel_rfl) (⟨yf n0,yf m1⟩) (fun hHeld=>?_);refine ton 0 39 (.pointer (some ⟨rb+1,0,none⟩)) ?_;refine ton 1 40 (.string X) ?_;refine ton 2 41 (.pointer (some ⟨rb+2,1,none⟩)) ?_;refine ton 3 42 (.slice ao l9.length ac) ?_
 try simp only[sA,sB,sC]
 refine tgo (i:=4) (by kernel_rfl) rfl (fun K hK=>?_);go_simp;refine(ykd ao l9.length ac _ hac1 hac2).mono ?_;rintro e w10 ⟨rfl,rfl⟩;refine hK.out _ _ (fun _=>(by (try dsimp only at hHeld);repeat (first | assumption | (with_reducible refine yf ?_) | (with_reducible refine yh ?_) | (with_reducible refine yC (by simp only;omega) ?_)))) (fun hHeld=>?_);replace hHeld:=hHeld (by decide);clear hK K
 try simp only[sA,sB,sC]
 refine ton 5 44 (.agg #[.int .i64 1,.string X,.slice none 0 0,.slice ao l9.length l9.length,.slice none 0 0]) ?_
 try simp only[sA,sB,sC]
 have hbx:=yjz HR9.out (.int .i64 1) (.string X) (.slice none 0 0) (.slice ao l9.length l9.length) (.slice none 0 0);have r0:=yd (o:=0) hbx;have r1:=yd (o:=1) hbx;have r2:=yd (o:=2) hbx;have r3:=yd (o:=3) hbx;have r4:=yd (o:=4) hbx;refine tgo (i:=6) (by kernel_rfl) rfl (fun K hK=>?_);go_simp;refine hK.out _ _ (fun h=>absurd rfl h) (fun hHeld=>?_);clear hK K hHeld
 try simp only[sA,sB,sC]
 refine yb3 (by kernel_rfl) ?_ _;go_wp2;have hne:rb≠R:=by have:=HRB.out;omega
 have hbf:=(Below.refl rb w9).drew;have hpkF:Pk R w ((((((w9.setCell ⟨rb,0,none⟩ (.int .i64 1)).setCell ⟨rb,1,none⟩ (.string X)).setCell ⟨rb,2,none⟩ (.slice none 0 0)).setCell ⟨rb,3,none⟩ (.slice ao l9.length l9.length)).setCell ⟨rb,4,none⟩ (.slice none 0 0)).drew):=(HPK3.out.trans (Pk.below HBW.out)).low ((yaq (Below.refl w.heap.size w9) (by have:=HRB.out;omega) (.int .i64 1) (.string X) (.slice none 0 0) (.slice ao l9.length l9.length) (.slice none 0 0)).drew);have s0:=yf r0;have s1:=yf r1;have s2:=yf r2;have s3:=yf r3;have s4:=yf r4;have t0:=yd (o:=0) (yg (o:=0) HR9.out (.int .i64 1));have t1:=yd (o:=1) (yg (o:=1) (yg (o:=0) HR9.out (.int .i64 1)) (.string X));have t2:=yd (o:=2) (yg (o:=2) (yg (o:=1) (yg (o:=0) HR9.out (.int .i64 1)) (.string X)) (.slice none 0 0));have t3:=yd (o:=3) (yg (o:=3) (yg (o:=2) (yg (o:=1) (yg (o:=0) HR9.out (.int .i64 1)) (.string X)) (.slice none 0 0)) (.slice ao l9.length l9.length));have t4:=yd (o:=4) (yg (o:=4) (yg (o:=3) (yg (o:=2) (yg (o:=1) (yg (o:=0) HR9.out (.int .i64 1)) (.string X)) (.slice none 0 0)) (.slice ao l9.length l9.length)) (.slice none 0 0));have hwcF:=((HWC3.out.below HBW.out).far5 HR9.out (by decide) (by decide) (Ne.symm hne) (by have:=HRB.out;have:=hRl;omega) (.int .i64 1) (.string X) (.slice none 0 0) (.slice ao l9.length l9.length) (.slice none 0 0)).below (yat _);have hrow2:=yn1 HROW9.out HR9.out (by decide) (.int .i64 1) (.string X) (.slice none 0 0) (.slice ao l9.length l9.length) (.slice none 0 0)
 have hbn:∀ r∈l9,r.1.length<=maxLen/\r.2.length<=maxLen:=by rw[HA.out];exact ylV HNV.out
 have hsp:=ye0 hrow2 (show w.heap.size<=rb+2 by have:=HRB.out;omega) hbn;have HFN:=Lh hwcF;have HPF:=Lh hpkF;have HSP:=Lh hsp;clear hwcF hpkF hsp hrow2 hbn hbx hbf;refine bodyPost_ret (v:=.agg #[.int .i64 1,.string X,.slice none 0 0,.slice ao l9.length l9.length,.slice none 0 0]) (by first | (simp[results,results135,go_sem,s0,s1,s2,s3,s4];done) | (simp[results,results135,go_sem,t0,t1,t2,t3,t4];done) | (simp[results,results135,go_sem])) rfl ?_;refine⟨_,rfl,⟨none,0,ao,l9.length,none,0,by rw[<- HX.out];show _=Value.agg #[_,_,_,.slice ao (ybd y).length _,_];rw[<- HA.out];rfl,fun U hU=>⟨hml,Prs.nil U,?_,Sts.nil U⟩⟩,HFN.out,HPF.out⟩
 show Prs U (.slice ao (ybd y).length l9.length) (ybd y)
 rw[<- HA.out];exact ymE (HSP.out U hU)
def CBO (w0:World)(R:Nat)(g:gra.Gr)(V:Wv)(r:List St × Nat × Nat)(w:World)(e:Ending)(w':World):Prop :=
 ∃ ao D,e=.returned (.slice ao r.1.length r.1.length)/\RC w.heap.size w' (.slice ao r.1.length r.1.length) D/\D.map Sv.s=r.1/\Wc w0 w' R g V r.2.1 r.2.2/\Pk R w w'
theorem yk0 {lo hi g:Nat}(w:World)(c0 c1 c2 c3 c4:Value)(h:g<lo):agree lo hi w (((((w.setCell ⟨g,0,none⟩ c0).setCell ⟨g,1,none⟩ c1).setCell ⟨g,2,none⟩ c2).setCell ⟨g,3,none⟩ c3).setCell ⟨g,4,none⟩ c4):=fun q h1 _=>by
 rw[Below.heap_setCell _ _ _ _ (show q≠g by omega),Below.heap_setCell _ _ _ _ (show q≠g by omega),Below.heap_setCell _ _ _ _ (show q≠g by omega),Below.heap_setCell _ _ _ _ (show q≠g by omega),Below.heap_setCell _ _ _ _ (show q≠g by omega)]
theorem ypu (w0:World)(R:Nat)(g:gra.Gr)(V:Wv)(n k:Nat)(r:List St × Nat × Nat)(w:World)(hIH:Hid (∀ w,Wc w0 w R g V n (k+1)->Calls Tryz.prog 66 #[.pointer (some ⟨R,0,none⟩),.int .i64 k] w (CBO w0 R g V r w)))(hW:Hid (Wc w0 w R g V n k))(hk:k<g.cs.length)(hl:g.cs.length<=16) :
    Calls Tryz.prog 133 #[.pointer (some ⟨R,0,none⟩)] w fun e w'=>∃ v,e=.returned v/\VSt (.mk 5 (g.cs[k]).1 [] [] r.1) w w' v/\Wc w0 w' R g V r.2.1 r.2.2/\Pk R w w':=by
 obtain⟨no,nc,eo,ec,co,cc,mv⟩:=V;obtain⟨-,c4,-,-,c7,-,fz7,-,hcs,-⟩:=ybl hW.out;simp only at c4 hcs;obtain⟨A,e0,p0,-,hnl⟩:=yti hcs hk;subst e0;obtain⟨X,hX⟩:∃ X,bb (g.cs[k]).1=X:=⟨_,rfl⟩
 rw[hX] at p0;have HX:=Lh hX;have HP0:=Lh p0;have hRl:=hW.out.lt;have z0:(0:Int)<=(k:Int):=by omega
 have z1:(k:Int)<(g.cs.length:Int):=by omega
 have hwr:IntKind.i64.wrap ((k:Int)+1)=(k:Int)+1:=IntWalk.i64_in _ (by omega);have hb1:=al1 w (.cells #[.int .i64 0,.string ⟨#[]⟩,.slice none 0 0,.slice none 0 0,.slice none 0 0] 67);have HB1:=Lh hb1;have hRl1:R<w.heap.size:=hRl.2;have hneR:w.heap.size≠R:=by omega
 have c7:=yb hb1 c7;have c4:=yb hb1 c4;obtain⟨-,-,-,-,-,-,fz7',-,-,-⟩:=ybl (hW.out.below hb1);clear hX p0 hcs fz7 hb1;go_enter func133,ntmps133;go_wp2_with fail
 have hsz:(w.setCell ⟨R,7,none⟩ (.int .i64 ((k:Int)+1))).heap.size=w.heap.size:=by simp[World.setCell]
 have HWC2:=Lh (hW.out.setK.below (al1 (w.setCell ⟨R,7,none⟩ (.int .i64 ((k:Int)+1))) (.cells #[.int .i64 0,.string ⟨#[]⟩,.slice none 0 0,.slice none 0 0,.slice none 0 0] 67)));have HPK2:=Lh ((Pk.set R w 7 (.int .i64 ((k:Int)+1))).trans (Pk.below (al1 (w.setCell ⟨R,7,none⟩ (.int .i64 ((k:Int)+1))) (.cells #[.int .i64 0,.string ⟨#[]⟩,.slice none 0 0,.slice none 0 0,.slice none 0 0] 67))));have hr2:=yl (w.setCell ⟨R,7,none⟩ (.int .i64 ((k:Int)+1))) #[.int .i64 0,.string ⟨#[]⟩,.slice none 0 0,.slice none 0 0,.slice none 0 0] 67;rw[hsz] at hr2;have HR2:=Lh hr2;have HQ2:Hid (((w.setCell ⟨R,7,none⟩ (.int .i64 ((k:Int)+1))).alloc (.cells #[.int .i64 0,.string ⟨#[]⟩,.slice none 0 0,.slice none 0 0,.slice none 0 0] 67)).heap.size=w.heap.size+1):=Lh (by simp[World.setCell]);clear c7 fz7' c4 hsz hr2;generalize (w.setCell ⟨R,7,none⟩ (.int .i64 ((k:Int)+1))).alloc (.cells #[.int .i64 0,.string ⟨#[]⟩,.slice none 0 0,.slice none 0 0,.slice none 0 0] 67)=w2 at HWC2 HPK2 HR2 HQ2 |-;obtain⟨-,c4,-,-,-,-,-,-,-,-⟩:=ybl HWC2.out;simp only at c4;have d0:=yb HWC2.out.base HP0.out;refine ycH (fun W:World=>W.cell? ⟨R,4,none⟩=some (.slice (some A) g.cs.length cc)/\W.cell? (A.add (k*2))=some (.string X)) 13 (by kernel_rfl) (⟨yf c4,yf d0⟩) (fun hHeld=>?_);refine ton 0 15 (.pointer (some ⟨R,0,none⟩)) ?_;refine ton 1 16 (.pointer (some ⟨R,0,none⟩)) ?_;refine ton 2 17 (.pointer (some ⟨R,0,none⟩)) ?_;refine ton 3 18 (.pointer (some ⟨R,4,none⟩)) ?_;refine ton 4 19 (.slice (some A) g.cs.length cc) ?_
 refine ton 5 20 (.int .i64 (k:Int)) ?_;refine ton 6 21 (.pointer (some (A.add (k*2)))) ?_;refine ton 7 22 (.pointer (some (A.add (k*2)))) ?_;refine ton 8 23 (.string X) ?_;refine ton 9 24 (.pointer (some ⟨R,0,none⟩)) ?_;refine ton 10 25 (.int .i64 (k:Int)) ?_
 try simp only[sA,sB,sC]
 refine tgo (i:=11) (by kernel_rfl) rfl (fun K hK=>?_);go_simp;refine(hIH.out w2.drew (HWC2.out.below (yat w2))).mono ?_;rintro e w3 ⟨ao,D,rfl,hrc,hD,hwc3,hpk3⟩;have hsl:=hrc.selfL;rw[hD] at hsl;have hr3:=hpk3.blk hneR (yj (yat w2) HR2.out);obtain⟨-,c43,-,-,-,-,-,-,-,-⟩:=ybl hwc3;simp only at c43;have d03:=yb hwc3.base HP0.out;have HSL:=Lh hsl;have HWC3:=Lh hwc3;have HPK3:=Lh ((HPK2.out.trans (Pk.below (yat w2))).trans hpk3);have HR3:=Lh hr3;have f0:w3.frozen? ⟨w.heap.size,0,none⟩=false:=yk hr3;have e0:=bc 0 hr3;have f1:w3.frozen? ⟨w.heap.size,1,none⟩=false:=yk hr3;have e1:=bc 1 hr3;have f2:w3.frozen? ⟨w.heap.size,2,none⟩=false:=yk hr3;have e2:=bc 2 hr3;have f3:w3.frozen? ⟨w.heap.size,3,none⟩=false:=yk hr3;have e3:=bc 3 hr3;have f4:w3.frozen? ⟨w.heap.size,4,none⟩=false:=yk hr3;have e4:=bc 4 hr3;refine hK.out _ _ (fun _=>⟨c43,d03⟩) (fun hHeld=>?_);replace hHeld:=hHeld (by decide);clear hK K hsl hwc3 hpk3 hr3
 try simp only[sA,sB,sC]
 refine ton 12 27 (.agg #[.int .i64 5,.string X,.slice none 0 0,.slice none 0 0,.slice ao r.1.length r.1.length]) ?_
 try simp only[sA,sB,sC]
 refine tgo (i:=13) (by kernel_rfl) rfl (fun K hK=>?_);go_simp;refine hK.out _ _ (fun h=>absurd rfl h) (fun hHeld=>?_);clear hK K hHeld
 try simp only[sA,sB,sC]
 refine yb3 (by kernel_rfl) ?_ _;go_wp2;have hbx:=yjz HR3.out (.int .i64 5) (.string X) (.slice none 0 0) (.slice none 0 0) (.slice ao r.1.length r.1.length);have r0:=yd (o:=0) hbx;have r1:=yd (o:=1) hbx;have r2:=yd (o:=2) hbx;have r3:=yd (o:=3) hbx;have r4:=yd (o:=4) hbx;have s0:=yf r0;have s1:=yf r1;have s2:=yf r2;have s3:=yf r3;have s4:=yf r4;have t0:=yd (o:=0) (yg (o:=0) HR3.out (.int .i64 5));have t1:=yd (o:=1) (yg (o:=1) (yg (o:=0) HR3.out (.int .i64 5)) (.string X));have t2:=yd (o:=2) (yg (o:=2) (yg (o:=1) (yg (o:=0) HR3.out (.int .i64 5)) (.string X)) (.slice none 0 0));have t3:=yd (o:=3) (yg (o:=3) (yg (o:=2) (yg (o:=1) (yg (o:=0) HR3.out (.int .i64 5)) (.string X)) (.slice none 0 0)) (.slice none 0 0));have t4:=yd (o:=4) (yg (o:=4) (yg (o:=3) (yg (o:=2) (yg (o:=1) (yg (o:=0) HR3.out (.int .i64 5)) (.string X)) (.slice none 0 0)) (.slice none 0 0)) (.slice ao r.1.length r.1.length));have hq:=HQ2.out;have hFw:=HWC3.out.far5 HR3.out (by decide) (by decide) (Ne.symm hneR) (by omega) (.int .i64 5) (.string X) (.slice none 0 0) (.slice none 0 0) (.slice ao r.1.length r.1.length);have hFp:=HPK3.out.low (yaq (Below.refl w.heap.size w3) (Nat.le_refl _) (.int .i64 5) (.string X) (.slice none 0 0) (.slice none 0 0) (.slice ao r.1.length r.1.length));refine bodyPost_ret (v:=.agg #[.int .i64 5,.string X,.slice none 0 0,.slice none 0 0,.slice ao r.1.length r.1.length]) (by first | (simp[results,results133,go_sem,r0,r1,r2,r3,r4];done) | (simp[results,results133,go_sem,s0,s1,s2,s3,s4];done) | (simp[results,results133,go_sem,t0,t1,t2,t3,t4];done)) rfl ?_
 refine⟨_,rfl,⟨none,0,none,0,ao,r.1.length,by rw[<- HX.out];rfl,fun U hU=>⟨hnl,Prs.nil U,Prs.nil U,HSL.out U fun q q1 q2=>?_⟩⟩,hFw,hFp⟩;have q1':w.heap.size<q:=by have:w2.drew.heap.size=w2.heap.size:=rfl;omega
 rw[hU q (by omega) (by simpa [World.setCell] using q2)];exact yk0 (lo:=w.heap.size+1) (hi:=q+1) w3 (.int .i64 5) (.string X) (.slice none 0 0) (.slice none 0 0) (.slice ao r.1.length r.1.length) (by omega) q (by omega) (by omega)
structure BC (w0 w:World)(R:Nat)(g:gra.Gr)(V:Wv)(v:Value)(D:List Sv)(n k:Nat)(W:World):Prop where
 wt:Wc w0 W R g V n k
 rs:RS w.heap.size W v D
 pk:Pk R w W
theorem BC.below {w0 w W W':World}{R:Nat}{g:gra.Gr}{V:Wv}{v:Value}{D:List Sv}{n k:Nat}(h:BC w0 w R g V v D n k W)(hb:Below W.heap.size W W'):BC w0 w R g V v D n k W' :=
 ⟨h.wt.below hb,h.rs.below hb,h.pk.trans (Pk.below hb)⟩
theorem Wc.count {w0 W:World}{R:Nat}{g:gra.Gr}{V:Wv}{n k:Nat}(h:Wc w0 W R g V n k):yiZ W R 6=n/\yiZ W R 7=k:=by
 obtain⟨-,-,-,h5,h6,-⟩:=ybl h;unfold yiZ;rw[h5,h6];exact⟨Int.toNat_natCast n,Int.toNat_natCast k⟩
theorem yr6 (w0:World)(R:Nat)(g:gra.Gr)(V:Wv)(hg:Hid (GV g))(htb:Hid (Tab w0)):∀ (m f:Nat) (c:Int) (n k:Nat) (w:World),(g.ns.length-n)+(g.cs.length-k)=m->m<f->n<=g.ns.length->k<=g.cs.length->Hid (Wc w0 w R g V n k) ->
    Calls Tryz.prog 66 #[.pointer (some ⟨R,0,none⟩),.int .i64 c] w (CBO w0 R g V (yR g f c n k) w):=by
 have hN:g.ns.length<=64:=hg.out.nl;have hK:g.cs.length<=16:=hg.out.cl;intro m
 induction m using Nat.strongRecOn with
 | _ m ih =>
 intro f c n k w hm hf hn hk hW;have IH:=Lh ih;clear ih;obtain⟨L,hL⟩:∃ L,yR g f c n k=L:=⟨_,rfl⟩
 have HL:=Lh hL;rw[hL];clear hL;have hRw:=hW.out.lt;go_enter func66,ntmps66;go_wp2_with fail
 go_loopw [5] (fun v wr=>∃ (D:List Sv) (n' k' f':Nat),BC w0 w R g V v D n' k' wr/\n'<=g.ns.length/\k'<=g.cs.length/\(g.ns.length-n')+(g.cs.length-k')<f'/\(g.ns.length-n')+(g.cs.length-k')<=m/\D.map Sv.s++(yR g f' c n' k').1=L.1/\(yR g f' c n' k').2=L.2/\D.length<=100-((g.ns.length-n')+(g.cs.length-k'))) (fun _ wr=>(g.ns.length-yiZ wr R 6)+(g.cs.length-yiZ wr R 7))
 case atStart =>
  exact⟨[],n,k,f,⟨hW.out,RS.nil _ _,Pk.refl _ _⟩,hn,hk,by omega,by omega,by rw[HL.out];rfl,by rw[HL.out],Nat.zero_le _⟩
 case round =>
  obtain⟨D,n',k',f',hBI,hn',hk',hf',hm',hD,hE,hDl⟩:=hrel
  rename World=>wr
  have HCW:=Lh (show g.ns.length-yiZ wr R 6+(g.cs.length-yiZ wr R 7)=g.ns.length-n'+(g.cs.length-k') by rw[hBI.wt.count.1,hBI.wt.count.2]);have HBI:=Lh hBI;have HD:=Lh hD;have HE:=Lh hE;clear hBI hD hE;obtain⟨vo,vc,rfl⟩:=HBI.out.rs.form;obtain⟨f0,rfl⟩:∃ q,f'=q+1:=⟨f'-1,by omega⟩
  obtain⟨b,hb⟩:∃ b,yiS g c n' k'=b:=⟨_,rfl⟩
  have HCN:=Lh hb;clear hb;go_wp2_with fail
  refine(ypg w0 R g V n' k' c b wr (Lh HBI.out.wt) hk' HCN).mono ?_;rintro e w1 ⟨rfl,hb1⟩;have HBI1:=Lh (HBI.out.below hb1);clear hb1 HBI;cases b
  case true =>
   obtain⟨hk1,-⟩:=ygY HCN.out;have HST:=Lh (yg0 (f:=f0) hk1 HCN.out);have hb5:=ych g f0 (k':Int) n' (k'+1) hn' hk1;have hb6:=yjM g f0 (k':Int) n' (k'+1);have HIB:=Lh (fun w1 h=>IH.out ((g.ns.length-n')+(g.cs.length-(k'+1))) (by omega) f0 (k':Int) n' (k'+1) w1 rfl (by omega) hn' hk1 (Lh h));obtain⟨r,hr⟩:∃ r,yR g f0 (k':Int) n' (k'+1)=r:=⟨_,rfl⟩
   rw[hr] at hb5 hb6 HST HIB;have hz1:=HBI1.out.pk.size;clear hr;go_wp2_with fail
   refine(ypu w0 R g V n' k' r w1 HIB (Lh HBI1.out.wt) hk1 hK).mono ?_;rintro e w2 ⟨yv,rfl,hvs,hwc2,hpk2⟩;obtain⟨ro,rc,ao,ac,bo,bq,rfl,hel⟩:=hvs.el HBI1.out.rs hz1;have HRS2:=Lh (HBI1.out.rs.pk hpk2 hRw.2);have HEL:=Lh hel;have HWC2:=Lh hwc2;have HPK2:=Lh (HBI1.out.pk.trans hpk2);have hz2:=HPK2.out.size;clear hvs hel hwc2 hpk2
   go_wp2_with (at_builtin;refine yoX rfl (.tmp 12) (.tmp 15) rfl w.heap.size _ D ⟨.mk 5 (g.cs[k']).1 [] [] r.1,.slice ro (St.mk 5 (g.cs[k']).1 [] [] r.1).refs.length rc,.slice ao (St.mk 5 (g.cs[k']).1 [] [] r.1).attrs.length ac,.slice bo (St.mk 5 (g.cs[k']).1 [] [] r.1).body.length bq⟩ _ _ _ _ _ rfl w2.heap.size rfl rfl rfl HRS2 HEL (by omega) hz2 ⟨rfl,rfl,rfl⟩ ?_;intro gg cap V3 hrs3 hg3)
   have hB3:=yid HRS2.out hg3.out hz2;have HWC3:=Lh (HWC2.out.grown HRS2.out hg3.out (by omega) hz2);have HPK3:=Lh (HPK2.out.low hB3);clear hB3
   go_roundw
   case rel=>exact⟨D++[_],r.2.1,r.2.2,f0,⟨HWC3.out,hrs3.out,HPK3.out⟩,hb5.1,hb5.2,by omega,by omega,by rw[<- HD.out,HST.out,List.map_append,List.append_assoc];rfl,by rw[<- HE.out,HST.out],by rw[List.length_append];simp only[List.length_cons,List.length_nil];omega⟩
   case measure=>have:=HWC3.out.count;have:=HCW.out;omega
  obtain⟨b,hb⟩:∃ b,ykO g c n'=b:=⟨_,rfl⟩
  have HNN:=Lh hb;clear hb;go_wp2_with fail
  refine(ypf w0 R g V n' k' c b w1 (Lh HBI1.out.wt) hn' HNN).mono ?_;rintro e w2 ⟨rfl,rfl⟩;cases b
  case false =>
   have HEND:=Lh (yg2 (f:=f0) HCN.out HNN.out);obtain⟨_,_,e9,hc1,hc2⟩:=yu HBI1.out.rs.1;cases e9
   go_wp2_with fail
   refine(ycl vo D.length vc w1 hc1 hc2).mono ?_;rintro e w3 ⟨rfl,rfl⟩;have hL1:L.1=D.map Sv.s:=by rw[<- HD.out,HEND.out,List.append_nil]
   have hll:D.length=L.1.length:=by rw[hL1,List.length_map]
   have HL1:=Lh hL1;have HLL:=Lh hll;clear hL1 hll;go_wp2;go_ret;exact⟨vo,D,by rw[<- HLL.out];rfl,by rw[<- HLL.out];exact HBI1.out.rs.rc.cut,HL1.out.symm,by rw[<- HE.out,HEND.out];exact HBI1.out.wt,HBI1.out.pk⟩
  obtain⟨hn1,-⟩:=ygZ HNN.out;have HST:=Lh (yg1 (f:=f0) HCN.out hn1 HNN.out);have hz1:=HBI1.out.pk.size;go_wp2_with fail
  refine(ykZ w0 R g V n' k' w1 hg (Lh HBI1.out.wt) htb hn1).mono ?_;rintro e w2 ⟨yv,rfl,hvs,hwc2,hpk2⟩;obtain⟨ro,rc,ao,ac,bo,bq,rfl,hel⟩:=hvs.el HBI1.out.rs hz1;have HRS2:=Lh (HBI1.out.rs.pk hpk2 hRw.2);have HEL:=Lh hel;have HWC2:=Lh hwc2;have HPK2:=Lh (HBI1.out.pk.trans hpk2);have hz2:=HPK2.out.size;obtain⟨y,hy⟩:∃ y,g.ns[n']=y:=⟨_,rfl⟩
  rw[hy] at HEL HST;simp only[hy];clear hvs hel hwc2 hpk2 hy
  go_wp2_with (at_builtin;refine yoX rfl (.tmp 21) (.tmp 24) rfl w.heap.size _ D ⟨ybp y,.slice ro (ybp y).refs.length rc,.slice ao (ybp y).attrs.length ac,.slice bo (ybp y).body.length bq⟩ _ _ _ _ _ rfl w2.heap.size rfl rfl rfl HRS2 HEL (by omega) hz2 ⟨rfl,rfl,rfl⟩ ?_;intro gg cap V3 hrs3 hg3)
  have hB3:=yid HRS2.out hg3.out hz2;have HWC3:=Lh (HWC2.out.grown HRS2.out hg3.out (by omega) hz2);have HPK3:=Lh (HPK2.out.low hB3);clear hB3
  go_roundw
  case rel=>exact⟨D++[⟨ybp y,.slice ro (ybp y).refs.length rc,.slice ao (ybp y).attrs.length ac,.slice bo (ybp y).body.length bq⟩],n'+1,k',f0,⟨HWC3.out,hrs3.out,HPK3.out⟩,by omega,hk',by omega,by omega,by rw[<- HD.out,HST.out,List.map_append,List.append_assoc];rfl,by rw[<- HE.out,HST.out],by rw[List.length_append];simp only[List.length_cons,List.length_nil];omega⟩
  case measure=>have:=HWC3.out.count;have:=HCW.out;omega
end Go.Proofs.YtgmidodmmlmmeaaGreatDoor.xpt
namespace Go.Proofs.YtgmidodmmlmmeaaGreatDoor.xpt
open Go.RowKit Go.Sort lex tre att nor _root_.Go.Proofs.Tryz
theorem ymS:(Tryz.prog.info? 53).map (fun i=>(i.zero,i.size,i.bytes))=some (some (.slice none 0 0),1,24):=by kernel_rfl
theorem yr7 {P:Program}{t:TypeId}{z:Option Value}{c n:Nat}(h:(P.info? t).map (fun i=>(i.zero,i.size,i.bytes))=some (z,c,n)):∃ i,P.info? t=some i/\i.zero=z/\i.size=c/\i.bytes=n:=by
 cases hq:P.info? t with
 | none=>rw[hq] at h;cases h
 | some i =>
  rw[hq] at h;simp only[Option.map_some,Option.some.injEq,Prod.mk.injEq] at h;exact⟨i,rfl,h.1,h.2.1,h.2.2⟩
structure DM (w:World)(n0:Nat)(gb:List Value)(g:gra.Gr)(vs:List Value)(mo:Option Addr)(mc:Nat)(W:World):Prop where
 bw:Below n0 w W
 gx:blk W n0 26 gb.toArray
 rx:blk W (n0+1) 128 (gb++[Value.slice mo vs.length mc,Value.int .i64 0,Value.int .i64 0]).toArray
 row:W.ownsRow (n0+2) 53 1 (.slice mo vs.length mc) vs.length vs
 el:∀ i (h:i<vs.length),gra.Irow W (n0+2) vs[i] (gra.memsK g i g.ns.length)
theorem DM.below {w W W':World}{n0:Nat}{gb:List Value}{g:gra.Gr}{vs:List Value}{mo:Option Addr}{mc:Nat}(h:DM w n0 gb g vs mo mc W)(hb:Below W.heap.size W W'):DM w n0 gb g vs mo mc W' :=
 ⟨h.bw.trans (hb.mono (Nat.le_of_lt (yP h.gx))),yj hb h.gx,yj hb h.rx,yr h.row hb,fun i hi=>yr (h.el i hi) hb⟩
theorem ypv (g:gra.Gr)(gv:Value)(b:Bool)(w:World)(h:Hid (gra.GrV w gv g))(hv:Hid (gra.validE g=0))(htb:Hid (Tab w))(hb:Hid ((decide ((ybI g).2.1=g.ns.length)&&decide ((ybI g).2.2=g.cs.length))=b)) :
    Calls Tryz.prog 27 #[gv] w fun e w'=>(∃ ao D,e=.returned (.tuple #[.slice ao D.length D.length,.bool b])/\RC w.heap.size w' (.slice ao D.length D.length) D/\D.map Sv.s=(ybI g).1)/\Below w.heap.size w w':=by
 have hmx:Tryz.prog.follows .mixedOrders=true:=by kernel_rfl
 have HGVV:=Lh (ykK hv.out);have hN:g.ns.length<=64:=HGVV.out.nl;have hK:g.cs.length<=16:=HGVV.out.cl;obtain⟨nv,ev,cv,rfl,hgn,hns,hes,hcs⟩:=id h.out;obtain⟨no,nc,rfl,-,-,-⟩:=id hns;obtain⟨eo,ec,rfl,-,-,-⟩:=id hes;obtain⟨co,cc,rfl,-,-,-⟩:=id hcs;clear hns hes hcs hgn;obtain⟨Gn,hGn⟩:∃ X,bb g.nm=X:=⟨_,rfl⟩
 have HGN:=Lh hGn;have HG:=Lh (show gra.GrV w (.agg #[.string Gn,.bool g.dir,.slice no g.ns.length nc,.slice eo g.es.length ec,.slice co g.cs.length cc]) g by rw[<- hGn];exact h.out);rw[show gra.bb g.nm=Gn from hGn];clear h hGn;obtain⟨i0,hi0,hz0,hz1,hz2⟩:=yr7 ymS;have HB1:=Lh (al1 w (.cells #[.string Gn,.bool g.dir,.slice no g.ns.length nc,.slice eo g.es.length ec,.slice co g.cs.length cc] 26));have HK1:=Lh (yl w #[.string Gn,.bool g.dir,.slice no g.ns.length nc,.slice eo g.es.length ec,.slice co g.cs.length cc] 26);have HQ1:Hid ((w.alloc (.cells #[.string Gn,.bool g.dir,.slice no g.ns.length nc,.slice eo g.es.length ec,.slice co g.cs.length cc] 26)).heap.size=w.heap.size+1):=Lh (by simp);go_enter func27,ntmps27;go_wp2_with fail
 generalize w.alloc (.cells #[.string Gn,.bool g.dir,.slice no g.ns.length nc,.slice eo g.es.length ec,.slice co g.cs.length cc] 26)=w1 at HB1 HK1 HQ1 |-;have hq1:=HQ1.out;have b2:=al1 w1 (.cells #[.string Gn,.bool g.dir,.slice no g.ns.length nc,.slice eo g.es.length ec,.slice co g.cs.length cc,.slice none 0 0,.int .i64 0,.int .i64 0] 128);have k2:=yl w1 #[.string Gn,.bool g.dir,.slice no g.ns.length nc,.slice eo g.es.length ec,.slice co g.cs.length cc,.slice none 0 0,.int .i64 0,.int .i64 0] 128;generalize w1.alloc (.cells #[.string Gn,.bool g.dir,.slice no g.ns.length nc,.slice eo g.es.length ec,.slice co g.cs.length cc,.slice none 0 0,.int .i64 0,.int .i64 0] 128)=w2 at b2 k2 |-;rw[hq1] at k2;have hz2':w.heap.size+2<=w2.heap.size:=yP k2;have HDM:Hid (DM w w.heap.size [.string Gn,.bool g.dir,.slice no g.ns.length nc,.slice eo g.es.length ec,.slice co g.cs.length cc] g [] none 0 w2):=Lh ⟨ya b2 HB1.out,yj b2 HK1.out,k2,World.ownsRow_nil ..,fun i hi=>absurd hi (by simp)⟩;obtain⟨n0,hn0⟩:∃ n0,w.heap.size=n0:=⟨_,rfl⟩
 rw[hn0] at HDM hz2'
 try simp only[hq1]
 simp only[hn0];have HN0:=Lh hn0;clear hn0 b2 k2 HK1 HB1 HQ1 hq1
 go_loopw [12] (fun iv wr=>∃ (vs:List Value) (mo:Option Addr) (mc:Nat),iv=.int .i64 vs.length/\vs.length<=g.cs.length/\DM w n0 [.string Gn,.bool g.dir,.slice no g.ns.length nc,.slice eo g.es.length ec,.slice co g.cs.length cc] g vs mo mc wr) (fun iv _=>g.cs.length-(intOf iv).toNat)
 case atStart=>exact⟨[],none,0,rfl,Nat.zero_le _,HDM.out⟩
 case round =>
  obtain⟨vs,mo,mc,rfl,hk,hdm⟩:=hrel
  rename World=>wr
  have HDK:=Lh hdm;clear hdm HDM;obtain⟨k,hkk⟩:∃ k,vs.length=k:=⟨_,rfl⟩
  by_cases hlt:k<g.cs.length
  case pos =>
   obtain⟨c0,c1,c2,c3,c4⟩:=b5c HDK.out.gx;have d5:wr.cell? ⟨n0+1,5,none⟩=some (.slice mo k mc):=by rw[yd HDK.out.rx,<- hkk];rfl
   have hzr:=yP HDK.out.rx;have HKK:=Lh hkk;rw[hkk];have e1:decide ((k:Int)<(g.cs.length:Int))=true:=by rw[decide_eq_true_eq];omega
   clear hkk;go_wp2_with fail
   refine ycH (fun W:World=>W.cell? ⟨n0+1,5,none⟩=some (.slice mo k mc)/\W.cell? ⟨n0,0,none⟩=some (.string Gn)/\W.cell? ⟨n0,1,none⟩=some (.bool g.dir)/\W.cell? ⟨n0,2,none⟩=some (.slice no g.ns.length nc)/\W.cell? ⟨n0,3,none⟩=some (.slice eo g.es.length ec)/\W.cell? ⟨n0,4,none⟩=some (.slice co g.cs.length cc)) 8 (by kernel_rfl) (⟨yf d5,yf c0,yf c1,yf c2,yf c3,yf c4⟩) (fun hHeld=>?_);refine ton 0 15 (.pointer (some ⟨(n0+1),5,none⟩)) ?_;refine ton 1 16 (.slice mo k mc) ?_;refine ton 2 17 (.agg #[.string Gn,.bool g.dir,.slice no g.ns.length nc,.slice eo g.es.length ec,.slice co g.cs.length cc]) ?_;refine ton 3 18 (.int .i64 (k:Int)) ?_
   try simp only[sA,sB,sC]
   refine tgo (i:=4) (by kernel_rfl) rfl (fun K hK=>?_);go_simp;have hmv:gra.memV g (k:Int)=gra.memsK g k g.ns.length:=by unfold gra.memV;rw[if_neg (by have:=hv.out;omega)]
   refine(gra.cMembersT_of _ g (k:Int) (gra.memsK g k g.ns.length) wr.drew (Lh (HG.out.keep (show Below w.heap.size w wr.drew by rw[HN0.out];exact HDK.out.bw.drew))) (Lh hmv)).mono ?_;rintro e w3 ⟨mv,rfl,hir,hb3⟩;have HB3:=Lh (ya hb3 (yat wr));have HD3:=Lh (HDK.out.below HB3.out);obtain⟨io,ic,rfl⟩:∃ io ic,mv=.slice io (gra.memsK g k g.ns.length).length ic:=by obtain⟨a,c,e,-,-⟩:=yu hir;exact⟨a,c,e⟩
   obtain⟨ml,hml⟩:∃ m,(gra.memsK g k g.ns.length).length=m:=⟨_,rfl⟩
   rw[hml] at hir |-;have HIR:=Lh (gra.Irow.lower hir (show n0+2<=wr.drew.heap.size by show n0+2<=wr.heap.size;omega));refine hK.out _ _ (fun _=>⟨yb HB3.out d5,yb HB3.out c0,yb HB3.out c1,yb HB3.out c2,yb HB3.out c3,yb HB3.out c4⟩) (fun hHeld=>?_);replace hHeld:=hHeld (by decide);clear hK K hb3 hir
   try simp only[sA,sB,sC]
   refine tgo (i:=5) (by kernel_rfl) rfl (fun K hK=>?_);go_simp;refine hK.out _ _ (fun _=>(by have k:=hHeld;repeat first | exact yh k | (refine⟨yh k.1,?_⟩;replace k:=k.2))) (fun hHeld=>?_);replace hHeld:=hHeld (by decide);clear hK K
   try simp only[sA,sB,sC]
   have hkn:=yl w3 #[.slice io ml ic] 53;have hba:=al1 w3 (.cells #[.slice io ml ic] 53);have HD4:=Lh (HD3.out.below hba);have hz4:=yP HD4.out.rx;have hrow4:(w3.alloc (.cells #[.slice io ml ic] 53)).ownsRow (n0+2) 53 1 (.slice mo k mc) k vs:=by have:=HD4.out.row;rw[HKK.out] at this;exact this
   refine tgo (i:=6) (by kernel_rfl) rfl (fun K hK=>?_);refine step_append_lies _ (by rfl) _ _ _ (by rfl) (n0+2) 53 i0 _ 1 24 underlying126 hi0 hz0 hz1 hz2 rfl (by omega) (.slice mo k mc) k vs (by rfl) hrow4 ⟨w3.heap.size,0,none⟩ 1 1 [.slice io ml ic] (by rfl) (by rfl) (by exact World.news_of_block (cs:=#[.slice io ml ic]) (t:=53) (fr:=(0,0)) (show (w3.alloc _).heap[w3.heap.size]?=some _ from hkn)) (by simp[Value.oneCell']) (by omega) (by unfold maxLen;omega) (by omega) (by omega) (w3.heap.size+1) (by simp) ?_;intro gg cap V hown hgrow hat hlt7;have hB5:=ybi hrow4 hgrow (by omega);have hgx5:=yb4 hrow4 hgrow HD4.out.gx (by decide);have hrx5:=yb4 hrow4 hgrow HD4.out.rx (by decide);have hir5:gra.Irow V (n0+2) (.slice io ml ic) (gra.memsK g k g.ns.length):=yI (yr HIR.out hba) hrow4 hgrow (by decide)
   have hD5:DM w n0 [.string Gn,.bool g.dir,.slice no g.ns.length nc,.slice eo g.es.length ec,.slice co g.cs.length cc] g (vs++[.slice io ml ic]) (some ⟨gg,0,none⟩) cap (V.setCell ⟨n0+1,5,none⟩ (.slice (some ⟨gg,0,none⟩) (k+1) cap)):=by
    refine⟨(HD4.out.bw.trans (hB5.mono (by omega))).setCell (by omega:n0<=n0+1) _,yW hgx5 (by omega) _,?_,?_,fun i hi=>?_⟩
    ·have:=yg (o:=5) hrx5 (.slice (some ⟨gg,0,none⟩) (k+1) cap)
     rw[List.length_append,HKK.out];exact this
    ·have:=yw (o:=5) hown hrx5 (by decide) (.slice (some ⟨gg,0,none⟩) (k+1) cap)
     rw[List.length_append,HKK.out];exact this
    ·by_cases hik:i<vs.length
     ·rw[List.getElem_append_left hik];exact yw (yI (HD4.out.el i hik) hrow4 hgrow (by decide)) hrx5 (by decide) _
     ·obtain rfl:i=vs.length:=by rw[List.length_append] at hi;simp at hi;omega
      rw[List.getElem_append_right (Nat.le_refl _)];simp only[Nat.sub_self,List.getElem_cons_zero];rw[HKK.out];exact yw hir5 hrx5 (by decide) _
   have HD2:=Lh hD5;have d55:V.cell? ⟨n0+1,5,none⟩=some (.slice mo k mc):=by rw[yd hrx5,<- HKK.out];rfl
   have fz5:V.frozen? ⟨n0+1,5,none⟩=false:=yk hrx5;refine hK.out _ _ (fun _=>⟨d55,by rw[yd hgx5];rfl,by rw[yd hgx5];rfl,by rw[yd hgx5];rfl,by rw[yd hgx5];rfl,by rw[yd hgx5];rfl⟩) (fun hHeld=>?_);replace hHeld:=hHeld (by decide);clear hK K hD5
   try simp only[sA,sB,sC]
   refine ton 7 22 (.pointer (some ⟨(n0+1),5,none⟩)) ?_
   try simp only[sA,sB,sC]
   refine tgo (i:=8) (by kernel_rfl) rfl (fun K hK=>?_);go_simp;refine hK.out _ _ (fun h=>absurd rfl h) (fun hHeld=>?_);clear hK K hHeld
   try simp only[sA,sB,sC]
   refine yb3 (by kernel_rfl) ?_ _;go_wp2
   go_roundw
   case rel=>exact⟨vs++[.slice io ml ic],some ⟨gg,0,none⟩,cap,by rw[List.length_append,HKK.out];go_num,by rw[List.length_append,HKK.out];exact hlt,HD2.out⟩
   case measure=>simp[intOf];omega
  obtain rfl:k=g.cs.length:=by omega
  have HKK:=Lh hkk;rw[hkk];have hzr:=yP HDK.out.rx;have htw:Tab w:=htb.out;have hbw:Below w.heap.size w wr:=by rw[HN0.out];exact HDK.out.bw
  have HW:Hid (Wc w wr (n0+1) g ⟨no,nc,eo,ec,co,cc,.slice mo g.cs.length mc⟩ 0 0):=Lh ⟨by rw[show gra.bb g.nm=Gn from HGN.out];exact HG.out,hbw,by rw[HN0.out];omega,by have:=HDK.out.rx;rw[hkk] at this;rw[show gra.bb g.nm=Gn from HGN.out];exact this,vs,hkk,by have:=HDK.out.row;rw[hkk] at this;exact this,HDK.out.el⟩;clear hkk hk hlt hbw;go_wp2_with fail
  refine(yr6 w (n0+1) g _ HGVV (Lh htw) (g.ns.length+g.cs.length) (g.ns.length+g.cs.length+1) (-1) 0 0 wr (by omega) (by omega) (by omega) (by omega) HW).mono ?_;rintro e w5 ⟨ao,D,rfl,hrc,hD,hwc,hpk⟩;rw[show yR g (g.ns.length+g.cs.length+1) (-1) 0 0=ybI g from rfl] at hrc hD hwc;have hll:(ybI g).1.length=D.length:=by rw[<- hD,List.length_map]
  rw[show yR g (g.ns.length+g.cs.length+1) (-1) 0 0=ybI g from rfl,hll];rw[hll] at hrc;have HBB:=Lh hb.out;obtain⟨r,hr⟩:∃ r,ybI g=r:=⟨_,rfl⟩
  rw[hr] at hD hwc HBB;obtain⟨-,-,-,c6,c7,-⟩:=ybl hwc;have c2:=bc 2 (hpk.blk (by omega) HDK.out.gx);have c4:=bc 4 (hpk.blk (by omega) HDK.out.gx);have hB5:Below n0 w w5:=HDK.out.bw.trans ⟨hpk.os,hpk.tape,hpk.output,hpk.size,fun q hq=>hpk.block q (by omega) (by omega)⟩;have HRC:=Lh (hrc.lower (show n0<=wr.heap.size by omega));have HDD:=Lh hD;have HB5:=Lh hB5;have HRR:=Lh hr;clear hrc hD hwc hpk hll hr hB5 htw;go_wp2_with fail
  have t6:=fun d os=>cell_regrown c6 d os
  have t7:=fun d os=>cell_regrown c7 d os
  have t2:=fun d os=>cell_regrown c2 d os
  have t4:=fun d os=>cell_regrown c4 d os
  clear c6 c7 c2 c4
  by_cases x1:r.2.1=g.ns.length
  case neg =>
   have e1:((r.2.1:Int)==(g.ns.length:Int))=false:=by rw[beq_eq_false_iff_ne];omega
   have e1':(r.2.1==g.ns.length)=false:=by rw[beq_eq_false_iff_ne];exact x1
   have e1'':decide (r.2.1=g.ns.length)=false:=decide_eq_false x1;have HF:Hid (false=b):=Lh (by rw[<- HBB.out,decide_eq_false x1];rfl);clear x1;refine wp_region_quiet_below hmx (by kernel_rfl) ?_
   repeat (go_big_quiet_step (fail))
   refine wpQuiet_nil ?_;intro _ hw';obtain⟨⟨dq,osq⟩,hw''⟩:=hw';subst hw'';go_wp2;refine bodyPost_ret (v:=.tuple #[.slice ao D.length D.length,.bool b]) (by simp[results,results27,go_sem,HF.out]) rfl ?_;refine⟨⟨ao,D,rfl,by rw[HN0.out];exact HRC.out.below (below_regrown w5 dq osq),by rw[HRR.out];exact HDD.out⟩,?_⟩;rw[HN0.out];exact HB5.out.trans ((below_regrown w5 dq osq).mono (by have:=HB5.out.size;rw[HN0.out] at this;exact this))
  have e1:((r.2.1:Int)==(g.ns.length:Int))=true:=by rw[beq_iff_eq];omega
  have e1':(r.2.1==g.ns.length)=true:=by rw[beq_iff_eq];exact x1
  have e1'':decide (r.2.1=g.ns.length)=true:=decide_eq_true x1;obtain⟨p,hp⟩:∃ p,decide (r.2.2=g.cs.length)=p:=⟨_,rfl⟩
  have e2:((r.2.2:Int)==(g.cs.length:Int))=p:=by rw[<- hp,Bool.eq_iff_iff,beq_iff_eq,decide_eq_true_eq];omega
  have e2':(r.2.2==g.cs.length)=p:=by rw[<- hp,Bool.eq_iff_iff,beq_iff_eq,decide_eq_true_eq]
  have HF:Hid (p=b):=Lh (by rw[<- HBB.out,decide_eq_true x1,hp];rfl);clear x1;refine wp_region_quiet_below hmx (by kernel_rfl) ?_
  repeat (go_big_quiet_step (fail))
  refine wpQuiet_nil ?_;intro _ hw';obtain⟨⟨dq,osq⟩,hw''⟩:=hw';subst hw'';go_wp2;refine bodyPost_ret (v:=.tuple #[.slice ao D.length D.length,.bool b]) (by simp[results,results27,go_sem,HF.out]) rfl ?_;refine⟨⟨ao,D,rfl,by rw[HN0.out];exact HRC.out.below (below_regrown w5 dq osq),by rw[HRR.out];exact HDD.out⟩,?_⟩;rw[HN0.out];exact HB5.out.trans ((below_regrown w5 dq osq).mono (by have:=HB5.out.size;rw[HN0.out] at this;exact this))
end Go.Proofs.YtgmidodmmlmmeaaGreatDoor.xpt
namespace Go.Proofs.YtgmidodmmlmmeaaGreatDoor.xpt
open Go.RowKit Go.Maps Go.Sort Go.Shelf lex tre att nor _root_.Go.Proofs.Tryz
def ybW:Go.Shelf.Ren:=⟨fun | 4=>67 | n=>n,fun | 0=>0 | 3=>3 | 4=>4 | 9=>9 | 20=>20 | 22=>31 | 25=>67 | n=>n,fun | n=>n⟩
theorem ygr:Go.Proofs.Lays8.n4 Tryz.prog ybW:={
 mixed:=by kernel_rfl
 f4:=⟨Tryz.f67.name,by decide,func67.trans (congrArg some (by kernel_rfl))⟩
 t0:=underlying0
 a0:=Tryz.isAgg0
 z0:=Tryz.sizeOf0
 v0:=Tryz.zeroValue0
 t3:=underlying3
 a3:=Tryz.isAgg3
 z3:=Tryz.sizeOf3
 v3:=Tryz.zeroValue3
 t4:=underlying4
 a4:=Tryz.isAgg4
 z4:=Tryz.sizeOf4
 v4:=Tryz.zeroValue4
 t9:=underlying9
 a9:=Tryz.isAgg9
 z9:=Tryz.sizeOf9
 v9:=Tryz.zeroValue9
 t20:=underlying20
 a20:=Tryz.isAgg20
 z20:=Tryz.sizeOf20
 v20:=Tryz.zeroValue20
 t22:=underlying31
 a22:=Tryz.isAgg31
 z22:=Tryz.sizeOf31
 v22:=Tryz.zeroValue31 }
theorem ypw (n:Nat)(w:World)(hn:n<=1000000) :
    Calls Tryz.prog 67 #[.slice none 0 0,.int .i64 n] w fun e w'=>(∃ ao cap,e=.returned (.slice ao 0 cap)/\w'.ownsRow w.heap.size 67 5 (.slice ao 0 cap) 0 [])/\Below w.heap.size w w':=by
 obtain⟨i0,hi,hz0,hz1,hz2⟩:=ycg
 by_cases h0:n=0
 ·subst h0
  exact(Any8.slices_Grow_room ygr none 0 0 0 w (Nat.le_refl _) (by omega) (by omega) (by omega)).mono fun e w' ⟨h1,h2⟩=>by
   subst h2;exact⟨⟨none,0,h1,World.ownsRow_nil _ _ _ _⟩,Below.refl _ _⟩
 ·refine(Any8.slices_Grow_grow ygr i0 _ hi hz0 (by omega) none 0 0 n [] w (Nat.le_refl _) (by omega) (by rw[hz2];omega) (by omega) (by simp) (fun _=>rfl) (fun a e=>by cases e)).mono fun e w' ⟨h1,h2⟩=>?_
  subst h2;have hle:=grownCap_le_maxLen w (0+n) 0 (ybW.t 25) (by unfold maxLen;omega);refine⟨⟨_,_,h1,by simp,Or.inr ⟨w.heap.size,_,_,rfl,Nat.le_refl _,heap_alloc_new w.drew _,Nat.zero_le _,hle,?_,by simp⟩⟩,((Below.refl _ w).drew).alloc (Nat.le_refl _) _⟩
  show (_++_++_:Array Value).size=_
  have hge:=grownCap_ge w (0+n) 0 (ybW.t 25);rw[Array.size_append,Array.size_append,size_zeroCells,size_zeroCells,show (Value.agg #[.int .i64 0,.string ⟨#[]⟩,.slice none 0 0,.slice none 0 0,.slice none 0 0]).cells.size=5 from rfl];simp only[List.size_toArray,List.length_nil];omega
theorem RC.form {B:Nat}{W:World}{v:Value}{D:List Sv}(h:RC B W v D):∃ ao cap,v=.slice ao D.length cap:=by
 obtain⟨⟨ao,cap,e,-⟩,-⟩:=h;exact⟨ao,cap,e⟩
theorem ydG (v1 v2 v3:Value)(D1 D2 D3:List Sv)(B ga:Nat)(w:World)(h1:Hid (RC B w v1 D1))(h2:Hid (RC B w v2 D2))(h3:Hid (RC B w v3 D3))(l1:D1.length<=1000)(l2:D2.length<=1000)(l3:D3.length<=1000)(hg:Hid (blk w ga 31 #[v1,v2,v3]))(hB:B<=w.heap.size) :
    Calls Tryz.prog 29 #[.slice (some ⟨ga,0,none⟩) 3 3] w fun e w'=>(∃ v,e=.returned v/\RC B w' v (D1++D2++D3))/\Below w.heap.size w w':=by
 obtain⟨ao1,cap1,rfl⟩:=h1.out.form;obtain⟨ao2,cap2,rfl⟩:=h2.out.form;obtain⟨ao3,cap3,rfl⟩:=h3.out.form;obtain⟨n1,e1⟩:∃ n:Nat,D1.length+D2.length=n:=⟨_,rfl⟩
 obtain⟨n,e2⟩:∃ m:Nat,n1+D3.length=m:=⟨_,rfl⟩
 have E1:=Lh e1;have E2:=Lh e2;have hn1:n1<=2000:=by omega
 have hn2:n<=3000:=by omega
 obtain⟨c0,c1,c2⟩:=b3c hg.out;clear e1 e2;go_enter func29,ntmps29;go_wp2_with fail
 go_loop [3,11] (fun sz iv=>(iv=.int .i64 0/\sz=.int .i64 0)\/(iv=.int .i64 1/\sz=.int .i64 D1.length)\/(iv=.int .i64 2/\sz=.int .i64 n1)\/(iv=.int .i64 3/\sz=.int .i64 n)) (fun _ iv=>4-(intOf iv).toNat)
 case atStart=>exact Or.inl ⟨rfl,rfl⟩
 case round =>
  rcases hrel with ⟨rfl,rfl⟩ | ⟨rfl,rfl⟩ | ⟨rfl,rfl⟩ | ⟨rfl,rfl⟩
  ·go_wp2
   go_round
   case rel=>exact Or.inr (Or.inl ⟨rfl,by go_num⟩)
   case measure=>simp[intOf]
  ·have e1:(D1.length:Int)+(D2.length:Int)=(n1:Int):=by have:=E1.out;omega
   have e2:¬ ((n1:Int)<0):=by omega
   go_wp2
   go_round
   case rel=>exact Or.inr (Or.inr (Or.inl ⟨rfl,rfl⟩))
   case measure=>simp[intOf]
  ·have e1:(n1:Int)+(D3.length:Int)=(n:Int):=by have:=E2.out;omega
   have e2:¬ ((n:Int)<0):=by omega
   go_wp2
   go_round
   case rel=>exact Or.inr (Or.inr (Or.inr ⟨rfl,rfl⟩))
   case measure=>simp[intOf]
  ·clear c0 c1 c2
   go_wp2_with fail
   refine(ypw n w (by omega)).mono ?_;rintro e w1 ⟨⟨ao4,cap4,rfl,hr4⟩,hb1⟩;have HR4:Hid (RJ B w.heap.size w1 (.slice ao4 0 cap4) []):=Lh ⟨hr4,hb1.size,fun x hx=>by cases hx⟩;have HB1:=Lh hb1;clear hb1 hr4;go_wp2_with fail
   go_loopw [6,27] (fun nv iv wr=>∃ (p:List Sv) (ao:Option Addr) (cap:Nat),nv=.slice ao p.length cap/\RJ B w.heap.size wr (.slice ao p.length cap) p/\Below w.heap.size w wr/\((iv=.int .i64 0/\p=[])\/(iv=.int .i64 1/\p=D1)\/(iv=.int .i64 2/\p=D1++D2)\/(iv=.int .i64 3/\p=D1++D2++D3))) (fun _ iv _=>4-(intOf iv).toNat)
   case atStart=>exact⟨[],ao4,cap4,rfl,HR4.out,HB1.out,Or.inl ⟨rfl,rfl⟩⟩
   case round =>
    obtain⟨p,ao,cap,rfl,hrow,hbw,hor⟩:=hrel
    rename World=>wr
    have HBW:=Lh hbw;have HROW:=Lh hrow;have hgr:=yj hbw hg.out;obtain⟨c0,c1,c2⟩:=b3c hgr;clear hbw hrow HB1 HR4 hgr
    rcases hor with ⟨rfl,rfl⟩ | ⟨rfl,rfl⟩ | ⟨rfl,rfl⟩ | ⟨rfl,rfl⟩
    ·go_wp2_with (at_builtin;refine yr4 rfl (.tmp 31) (.tmp 32) rfl B _ _ [] D1 rfl rfl HROW h1 HBW (by simp;omega) ?_;intro ao5 cap5 w5 hrj5 hb5)
     go_roundw
     case rel=>exact⟨[]++D1,ao5,cap5,by first | rfl | simp,hrj5.out,hb5.out,Or.inr (Or.inl ⟨rfl,rfl⟩)⟩
     case measure=>simp[intOf]
    ·go_wp2_with (at_builtin;refine yr4 rfl (.tmp 31) (.tmp 32) rfl B _ _ p D2 rfl rfl HROW h2 HBW (by omega) ?_;intro ao5 cap5 w5 hrj5 hb5)
     go_roundw
     case rel=>exact⟨p++D2,ao5,cap5,by first | rfl | simp,hrj5.out,hb5.out,Or.inr (Or.inr (Or.inl ⟨rfl,rfl⟩))⟩
     case measure=>simp[intOf]
    ·go_wp2_with (at_builtin;refine yr4 rfl (.tmp 31) (.tmp 32) rfl B _ _ (D1++D2) D3 rfl rfl HROW h3 HBW (by rw[List.length_append];omega) ?_;intro ao5 cap5 w5 hrj5 hb5)
     go_roundw
     case rel=>exact⟨D1++D2++D3,ao5,cap5,by first | rfl | simp,hrj5.out,hb5.out,Or.inr (Or.inr (Or.inr ⟨rfl,rfl⟩))⟩
     case measure=>simp[intOf]
    ·go_wp2
     go_ret;exact⟨⟨_,rfl,HROW.out.rc hB⟩,HBW.out⟩
end Go.Proofs.YtgmidodmmlmmeaaGreatDoor.xpt
