/-
  Contracts and plain facts of the layers below; conditions as each theorem states them.
-/
import Derived.Test.YtgmidodmmlmmeaaGreatDoorMec
import Derived.Test.YtgmidodmmlmmeaaGreatDoorMgd
import Derived.Test.YtgmidodmmlmmeaaGreatDoorMpb
set_option maxHeartbeats 16000000
set_option maxRecDepth 100000
namespace Go.Proofs.YtgmidodmmlmmeaaGreatDoor.xpt
open Go.RowKit lex tre att _root_.Go.Proofs.Tryz
def ixI:List Int->Int->Int->Int
 | [],_,_=>-1
 | a::t,x,i=>if x=a then i else ixI t x (i+1)
theorem ytj (x:Int):∀ (l:List Int) (i:Int),0<=i->(0<=ixI l x i↔x∈l)
 | [],_,_=>by simp[ixI]
 | a::t,i,hi=>by
  unfold ixI
  by_cases e:x=a
  ·rw[if_pos e];simp[e,hi]
  ·rw[if_neg e,ytj x t (i+1) (by omega)];simp[e]
theorem ytk (v:Value)(l:List Int)(x n:Int)(w:World)(h:Hid (gra.Ins w v l))(hn:Hid (ixI l x 0=n)) :
    Calls Tryz.prog 240 #[v,.int .i64 x] w fun e w'=>e=.returned (.int .i64 n)/\w=w':=by
 obtain⟨ao,cap,rfl,hc1,hm1,_⟩:=id h.out;unfold maxLen at hm1;have hlm:l.length<=9223372036854775807:=by omega
 clear hc1 hm1;go_enter func240,ntmps240;go_wp2_with fail
 go_loop [5,8] (fun _ iv=>∃ i:Nat,iv=.int .i64 i/\i<=l.length/\ixI (l.drop i) x i=n) (fun _ iv=>l.length-(intOf iv).toNat)
 case atStart=>exact⟨0,rfl,Nat.zero_le _,hn.out⟩
 case round =>
  obtain⟨i,rfl,hi,hfe⟩:=hrel
  by_cases hlt:i<l.length
  case neg =>
   obtain rfl:i=l.length:=by omega
   rw[List.drop_length] at hfe;have he:(-1:Int)=n:=hfe;subst he;go_wp2;go_ret;exact⟨rfl,rfl⟩
  obtain⟨A,rfl,q0⟩:=h.out.get hlt;have q0':w.cell? (A.add (i*1))=some (.int .i64 l[i]):=q0;rw[Nat.mul_one] at q0';rw[List.drop_eq_getElem_cons hlt,ixI] at hfe;obtain⟨u,hu⟩:∃ u,l[i]=u:=⟨_,rfl⟩
  rw[hu] at q0' hfe;have i0:(0:Int)<=(i:Int):=by omega
  have i1:(i:Int)<(l.length:Int):=by omega
  clear q0 hu
  by_cases e:x=u
  ·have be:(x==u)=true:=by rw[beq_iff_eq];exact e
   rw[if_pos e] at hfe;have HF:=Lh hfe;clear e hfe;go_wp2;go_ret;exact⟨by rw[<- HF.out];rfl,rfl⟩
  ·have be:(x==u)=false:=by rw[beq_eq_false_iff_ne];exact e
   rw[if_neg e] at hfe;have HF:=Lh hfe;clear e hfe;go_wp2
   go_round
   case rel=>exact⟨i+1,by go_num,by omega,by have:=HF.out;rw[show (((i+1:Nat):Int))=(i:Int)+1 by omega];exact this⟩
   case measure=>simp[intOf];omega
theorem yrM (v:Value)(l:List Int)(x:Int)(b:Bool)(w:World)(h:Hid (gra.Ins w v l))(hb:Hid (l.contains x=b)) :
    Calls Tryz.prog 189 #[v,.int .i64 x] w fun e w'=>e=.returned (.bool b)/\w=w':=by
 obtain⟨n,hn⟩:∃ n,ixI l x 0=n:=⟨_,rfl⟩
 have hge:=ytj x l 0 (by omega);rw[hn] at hge;have HG:Hid (decide (0<=n)=b):=Lh (by rw[<- hb.out,Bool.eq_iff_iff,decide_eq_true_eq,hge,List.contains_iff_mem]);have HN:=Lh hn;clear hn hge;go_enter func189,ntmps189;go_wp2_with fail
 refine(ytk v l x n w h HN).mono ?_;rintro e w1 ⟨rfl,rfl⟩;go_wp2;go_ret;exact⟨by rw[<- HG.out];rfl,rfl⟩
end Go.Proofs.YtgmidodmmlmmeaaGreatDoor.xpt
namespace Go.Proofs.YtgmidodmmlmmeaaGreatDoor.xpt
open Go.RowKit Go.Sort lex tre att nor _root_.Go.Proofs.Tryz
def vC (v:Value):List Value:=[v]
def Mms (B:Nat)(w:World)(mv:Value)(g:gra.Gr):Prop:=∃ vs:List Value,vs.length=g.cs.length/\w.ownsRow B 53 1 mv g.cs.length vs/\∀ i (h:i<vs.length),gra.Irow w B vs[i] (gra.memsK g i g.ns.length)
theorem Mms.pk {R B:Nat}{w w':World}{mv:Value}{g:gra.Gr}(h:Mms B w mv g)(hp:Pk R w w')(hB:R<B):Mms B w' mv g:=by
 obtain⟨vs,h1,h2,h3⟩:=h;exact⟨vs,h1,hp.own hB h2,fun i hi=>hp.own hB (h3 i hi)⟩
theorem Mms.at {B:Nat}{w:World}{mv:Value}{g:gra.Gr}(h:Mms B w mv g){i:Nat}(hi:i<g.cs.length):∃ b cap iv,mv=.slice (some ⟨b,0,none⟩) g.cs.length cap/\w.cell? ⟨b,i,none⟩=some iv/\gra.Ins w iv (gra.memsK g i g.ns.length):=by
 obtain⟨vs,h1,h2,h3⟩:=h;obtain⟨b,cap,arr,e,-,hk,-,-,h4⟩:=yaE h2 (by omega);refine⟨b,cap,vs[i]'(by omega),e,?_,gra.Irow.ins (h3 i (by omega))⟩;rw[yd hk,h4 i (by omega),List.getElem?_eq_getElem (by omega)]
structure Wv where
 no:Option Addr
 nc:Nat
 eo:Option Addr
 ec:Nat
 co:Option Addr
 cc:Nat
 mv:Value
def Wc (w0 w:World)(R:Nat)(g:gra.Gr)(V:Wv)(n k:Nat):Prop :=
 gra.GrV w0 (.agg #[.string (gra.bb g.nm),.bool g.dir,.slice V.no g.ns.length V.nc,.slice V.eo g.es.length V.ec,.slice V.co g.cs.length V.cc]) g/\Below w0.heap.size w0 w/\w0.heap.size<=R /\
  blk w R 128 #[.string (gra.bb g.nm),.bool g.dir,.slice V.no g.ns.length V.nc,.slice V.eo g.es.length V.ec,.slice V.co g.cs.length V.cc,V.mv,.int .i64 n,.int .i64 k]/\Mms (R+1) w V.mv g
theorem Wc.lt {w0 w:World}{R:Nat}{g:gra.Gr}{V:Wv}{n k:Nat}(h:Wc w0 w R g V n k):w0.heap.size<=R/\R<w.heap.size:=by
 obtain⟨h1,h2,h3,h4,h5⟩:=h;exact⟨h3,yP h4⟩
theorem Wc.base {w0 w:World}{R:Nat}{g:gra.Gr}{V:Wv}{n k:Nat}(h:Wc w0 w R g V n k):Below w0.heap.size w0 w:=by
 obtain⟨h1,h2,h3,h4,h5⟩:=h;exact h2
theorem Wc.pk {w0 w w':World}{R:Nat}{g:gra.Gr}{V:Wv}{n k:Nat}(h:Wc w0 w R g V n k)(hp:Pk R w w')(hk:w'.heap[R]?=w.heap[R]?):Wc w0 w' R g V n k:=by
 obtain⟨h1,h2,h3,h4,h5⟩:=h;refine⟨h1,⟨hp.os.trans h2.os,hp.tape.trans h2.tape,hp.output.trans h2.output,Nat.le_trans h2.size hp.size,fun q hq=>?_⟩,h3,by unfold xpt.blk at h4 |-;rw[hk];exact h4,h5.pk hp (by omega)⟩;rw[hp.block q (by omega) (Nat.lt_of_lt_of_le hq h2.size)];exact h2.block q hq
theorem Wc.below {w0 w w':World}{R:Nat}{g:gra.Gr}{V:Wv}{n k:Nat}(h:Wc w0 w R g V n k)(hb:Below w.heap.size w w'):Wc w0 w' R g V n k:=h.pk (Pk.below hb) (hb.block R h.lt.2)
theorem Wc.setN {w0 w:World}{R:Nat}{g:gra.Gr}{V:Wv}{n k:Nat}(h:Wc w0 w R g V n k):Wc w0 (w.setCell ⟨R,6,none⟩ (.int .i64 ((n:Int)+1))) R g V (n+1) k:=by
 obtain⟨h1,h2,h3,h4,h5⟩:=h;exact⟨h1,h2.setCell h3 _,h3,yg h4 _,h5.pk (Pk.set R w 6 _) (by omega)⟩
theorem Wc.setK {w0 w:World}{R:Nat}{g:gra.Gr}{V:Wv}{n k:Nat}(h:Wc w0 w R g V n k):Wc w0 (w.setCell ⟨R,7,none⟩ (.int .i64 ((k:Int)+1))) R g V n (k+1):=by
 obtain⟨h1,h2,h3,h4,h5⟩:=h;exact⟨h1,h2.setCell h3 _,h3,yg h4 _,h5.pk (Pk.set R w 7 _) (by omega)⟩
theorem Mms.far {B g' o:Nat}{w:World}{mv u:Value}{g:gra.Gr}{t:TypeId}{arr:Array Value}(h:Mms B w mv g)(hb:blk w g' t arr)(h1:t≠53)(h2:t≠3):Mms B (w.setCell ⟨g',o,none⟩ u) mv g:=by
 obtain⟨vs,q1,q2,q3⟩:=h;exact⟨vs,q1,yw q2 hb (Ne.symm h1) u,fun i hi=>yw (q3 i hi) hb (Ne.symm h2) u⟩
theorem Wc.far {w0 w:World}{R b o:Nat}{g:gra.Gr}{V:Wv}{n k:Nat}{u:Value}{t:TypeId}{arr:Array Value}(h:Wc w0 w R g V n k)(hb:blk w b t arr)(h1:t≠53)(h2:t≠3)(hR:R≠b)(h0:w0.heap.size<=b):Wc w0 (w.setCell ⟨b,o,none⟩ u) R g V n k:=by
 obtain⟨q1,q2,q3,q4,q5⟩:=h;exact⟨q1,q2.setCell h0 _,q3,yW q4 hR _,q5.far hb h1 h2⟩
theorem Wc.far5 {w0 w:World}{R b:Nat}{g:gra.Gr}{V:Wv}{n k:Nat}{t:TypeId}{a0 a1 a2 a3 a4:Value}(h:Wc w0 w R g V n k)(hb:blk w b t #[a0,a1,a2,a3,a4])(h1:t≠53)(h2:t≠3)(hR:R≠b)(h0:w0.heap.size<=b)(c0 c1 c2 c3 c4:Value):Wc w0 (((((w.setCell ⟨b,0,none⟩ c0).setCell ⟨b,1,none⟩ c1).setCell ⟨b,2,none⟩ c2).setCell ⟨b,3,none⟩ c3).setCell ⟨b,4,none⟩ c4) R g V n k:=by
 have e0:blk (w.setCell ⟨b,0,none⟩ c0) b t #[c0,a1,a2,a3,a4]:=yg hb c0;have e1:blk ((w.setCell ⟨b,0,none⟩ c0).setCell ⟨b,1,none⟩ c1) b t #[c0,c1,a2,a3,a4]:=yg e0 c1;have e2:blk (((w.setCell ⟨b,0,none⟩ c0).setCell ⟨b,1,none⟩ c1).setCell ⟨b,2,none⟩ c2) b t #[c0,c1,c2,a3,a4]:=yg e1 c2;have e3:blk ((((w.setCell ⟨b,0,none⟩ c0).setCell ⟨b,1,none⟩ c1).setCell ⟨b,2,none⟩ c2).setCell ⟨b,3,none⟩ c3) b t #[c0,c1,c2,c3,a4]:=yg e2 c3;exact((((h.far hb h1 h2 hR h0).far e0 h1 h2 hR h0).far e1 h1 h2 hR h0).far e2 h1 h2 hR h0).far e3 h1 h2 hR h0
theorem yI {V V':World}{B B0 c n s m:Nat}{t t0:TypeId}{u v:Value}{xs ys:List Value}(h:V.ownsRow B t c u n xs)(hr:V.ownsRow B0 t0 s v m ys)(hg:V.grownBy V' v.ownBlock)(ht:t≠t0):V'.ownsRow B t c u n xs :=
 ⟨h.1,h.2.imp id fun⟨g,cap,cur,e,h1,h2,h3⟩=>⟨g,cap,cur,e,h1,yb4 hr hg h2 ht,h3⟩⟩
theorem Wc.grown {w0 w w':World}{R B:Nat}{g:gra.Gr}{V:Wv}{n k:Nat}{v:Value}{D:List Sv}(h:Wc w0 w R g V n k)(hr:RS B w v D)(hg:w.grownBy w' v.ownBlock)(hB:w0.heap.size<=B)(hz:B<=w.heap.size):Wc w0 w' R g V n k:=by
 obtain⟨q1,q2,q3,q4,vs,q5,q6,q7⟩:=h;exact⟨q1,q2.trans ((yid hr hg hz).mono hB),q3,yqB hr hg q4 (by decide),vs,q5,yI q6 hr.1 hg (by decide),fun i hi=>yI (q7 i hi) hr.1 hg (by decide)⟩
theorem ybl {w0 W:World}{R:Nat}{g:gra.Gr}{V:Wv}{n k:Nat}(h:Wc w0 W R g V n k):W.cell? ⟨R,2,none⟩=some (.slice V.no g.ns.length V.nc)/\W.cell? ⟨R,4,none⟩=some (.slice V.co g.cs.length V.cc)/\W.cell? ⟨R,5,none⟩=some V.mv/\W.cell? ⟨R,6,none⟩=some (.int .i64 n)/\W.cell? ⟨R,7,none⟩=some (.int .i64 k)/\W.frozen? ⟨R,6,none⟩=false/\W.frozen? ⟨R,7,none⟩=false/\gra.Nds w0 (.slice V.no g.ns.length V.nc) g.ns/\gra.Cls w0 (.slice V.co g.cs.length V.cc) g.cs/\Mms (R+1) W V.mv g:=by
 obtain⟨h1,h2,h3,h4,h5⟩:=h;obtain⟨nv,ev,cv,e,-,q1,-,q3⟩:=h1;cases e
 exact⟨by rw[yd h4];rfl,by rw[yd h4];rfl,by rw[yd h4];rfl,by rw[yd h4];rfl,by rw[yd h4];rfl,yk h4,yk h4,q1,q3,h5⟩
theorem ypf (w0:World)(R:Nat)(g:gra.Gr)(V:Wv)(n k:Nat)(c:Int)(b:Bool)(w:World)(h:Hid (Wc w0 w R g V n k))(hn:n<=g.ns.length)(hb:Hid (ykO g c n=b)) :
    Calls Tryz.prog 134 #[.pointer (some ⟨R,0,none⟩),.int .i64 c] w fun e w'=>e=.returned (.bool b)/\w=w':=by
 obtain⟨no,nc,eo,ec,co,cc,mv⟩:=V;obtain⟨c2,-,-,c6,-,-,-,hns,-,-⟩:=ybl h.out;simp only at c2 hns;have hbase:=h.out.base
 by_cases x1:n<g.ns.length
 case neg =>
  have e1:decide ((n:Int)<(g.ns.length:Int))=false:=by rw[decide_eq_false_iff_not];omega
  have e1':decide (n<g.ns.length)=false:=decide_eq_false x1;have HB:Hid (false=b):=Lh (by rw[<- hb.out,yok x1]);clear hns x1;go_enter func134,ntmps134;go_wp2;go_ret;exact⟨by rw[<- HB.out];rfl,rfl⟩
 obtain⟨A,rfl,po,pc,hC,-,-⟩:=yo3 hns x1;obtain⟨-,-,-,-,p4,-⟩:=hC.keep hbase;have HCL:=Lh (yrj (c:=c) x1);obtain⟨y,hy⟩:∃ y,(g.ns[n]).cl=y:=⟨_,rfl⟩
 rw[hy] at p4 HCL;have HB:Hid ((y==c)=b):=Lh (by rw[<- hb.out,HCL.out,Bool.eq_iff_iff,decide_eq_true_eq,beq_iff_eq]);have e1:decide ((n:Int)<(g.ns.length:Int))=true:=by rw[decide_eq_true_eq];omega
 have e1':decide (n<g.ns.length)=true:=decide_eq_true x1;have z0:(0:Int)<=(n:Int):=by omega
 have z1:(n:Int)<(g.ns.length:Int):=by omega
 clear hns hy hC hb;go_enter func134,ntmps134;go_wp2;go_ret;exact⟨by rw[<- HB.out];rfl,rfl⟩
theorem ypg (w0:World)(R:Nat)(g:gra.Gr)(V:Wv)(n k:Nat)(c:Int)(b:Bool)(w:World)(h:Hid (Wc w0 w R g V n k))(hk:k<=g.cs.length)(hb:Hid (yiS g c n k=b)) :
    Calls Tryz.prog 132 #[.pointer (some ⟨R,0,none⟩),.int .i64 c] w fun e w'=>e=.returned (.bool b)/\Below w.heap.size w w':=by
 have hmx:Tryz.prog.follows .mixedOrders=true:=by kernel_rfl
 obtain⟨no,nc,eo,ec,co,cc,mv⟩:=V;obtain⟨-,c4,c5,c6,c7,-,-,-,hcs,hmm⟩:=ybl h.out;simp only at c4 c5 hcs hmm;have hbase:=h.out.base
 by_cases x1:k<g.cs.length
 case neg =>
  obtain rfl:k=g.cs.length:=by omega
  have HB:Hid (false=b):=Lh (by rw[<- hb.out,yoj x1]);clear hcs hmm x1;go_enter func132,ntmps132;go_wp2;go_ret;exact⟨by rw[<- HB.out];rfl,Below.refl _ _⟩
 have e1:((k:Int)==(g.cs.length:Int))=false:=by rw[beq_eq_false_iff_ne];omega
 have e1':(k==g.cs.length)=false:=by rw[beq_eq_false_iff_ne];omega
 have e1'':decide (k=g.cs.length)=false:=by rw[decide_eq_false_iff_not];omega
 have z0:(0:Int)<=(k:Int):=by omega
 have z1:(k:Int)<(g.cs.length:Int):=by omega
 obtain⟨A,rfl,-,p1,-⟩:=yti (hcs.keep hbase) x1;have HCL:=Lh (yri (c:=c) (n:=n) x1);obtain⟨y,hy⟩:∃ y,(g.cs[k]).2=y:=⟨_,rfl⟩
 rw[hy] at p1 HCL
 by_cases x2:y=c
 case neg =>
  have e2:(y != c)=true:=by rw[bne_iff_ne];exact x2
  have HB:Hid (false=b):=Lh (by rw[<- hb.out,HCL.out,decide_eq_false x2];rfl);clear hcs hmm hy x1 x2 hb;go_enter func132,ntmps132;go_wp2;go_ret;exact⟨by rw[<- HB.out];rfl,Below.refl _ _⟩
 have e2:(y != c)=false:=by rw[x2];simp
 obtain⟨bm,cm,iv,rfl,q0,q1⟩:=hmm.at x1;obtain⟨io,ic,rfl,hm1,hm,-⟩:=id q1;have HI:=Lh q1;have HB:Hid (((gra.memsK g k g.ns.length).contains (n:Int)||(gra.memsK g k g.ns.length).isEmpty)=b):=Lh (by rw[<- hb.out,HCL.out,decide_eq_true x2,<- ymu];rfl);obtain⟨L,hL⟩:∃ L,gra.memsK g k g.ns.length=L:=⟨_,rfl⟩
 rw[hL] at q0 HI HB hm1;have hlm:L.length<=9223372036854775807:=by unfold maxLen at hm;omega
 clear hcs hmm hy x2 hb q1 hm hm1 hL;go_enter func132,ntmps132;go_wp2_with fail
 have t5:=fun d os=>cell_regrown c5 d os
 have t6:=fun d os=>cell_regrown c6 d os
 have t0:=fun d os=>cell_regrown q0 d os
 obtain⟨p,hp⟩:∃ p,L.contains (n:Int)=p:=⟨_,rfl⟩
 have HPP:=Lh hp;have cV:=fun d os=>Calls.regrown_of (w:=w) (d:=d) (os:=os) ((yrM (.slice io L.length ic) L (n:Int) p (grow (redrawn w d) os) (Lh (HI.out.keep (below_regrown w d os))) HPP).mono fun e w' hh=>(⟨hh.1,by rw[<- hh.2];exact Below.refl _ _⟩:e=.returned (.bool p)/\Below _ _ w'))
 rw[hp] at HB;clear hp;clear c4 c5 c6 c7 q0 p1
 by_cases x3:L.length=0
 ·have e3:((L.length:Int)==0)=true:=by rw[x3];rfl
  have e3':(L.length==0)=true:=by rw[x3];rfl
  have e3'':decide (L.length=0)=true:=decide_eq_true x3;have HT:Hid (true=b):=Lh (by rw[<- HB.out,List.eq_nil_of_length_eq_zero x3];simp);clear x3;refine wp_region_quiet_below hmx (by kernel_rfl) ?_
  repeat (go_big_quiet_step (with_reducible exact cV _ _))
  refine wpQuiet_nil ?_;intro _ hw';obtain⟨⟨dq,osq⟩,hw''⟩:=hw';subst hw'';go_wp2;go_ret;exact⟨by rw[<- HT.out];rfl,below_regrown w dq osq⟩
 ·have e3:((L.length:Int)==0)=false:=by rw[beq_eq_false_iff_ne];omega
  have e3':(L.length==0)=false:=by rw[beq_eq_false_iff_ne];exact x3
  have e3'':decide (L.length=0)=false:=decide_eq_false x3;have HT:Hid (p=b):=Lh (by rw[<- HB.out];cases L with | nil=>exact absurd rfl x3 | cons a t=>simp);clear x3;refine wp_region_quiet_below hmx (by kernel_rfl) ?_
  repeat (go_big_quiet_step (with_reducible exact cV _ _))
  refine wpQuiet_nil ?_;intro _ hw';obtain⟨⟨dq,osq⟩,hw''⟩:=hw';subst hw'';go_wp2;go_ret;exact⟨by rw[<- HT.out];rfl,below_regrown w dq osq⟩
theorem ycl (ao:Option Addr)(n c:Nat)(w:World)(hc:n<=c)(hm:c<=maxLen) :
    Calls Tryz.prog 28 #[.slice ao n c] w fun e w'=>e=.returned (.slice ao n n)/\w=w':=by
 unfold maxLen at hm;have z0:(0:Int)<=(n:Int):=by omega
 have z1:(n:Int)<=(c:Int):=by omega
 have z2:n<=9223372036854775807:=by omega
 go_enter func28,ntmps28;go_wp2;go_ret;exact⟨rfl,rfl⟩
theorem ykd (ao:Option Addr)(n c:Nat)(w:World)(hc:n<=c)(hm:c<=maxLen) :
    Calls Tryz.prog 72 #[.slice ao n c] w fun e w'=>e=.returned (.slice ao n n)/\w=w':=by
 unfold maxLen at hm;have z0:(0:Int)<=(n:Int):=by omega
 have z1:(n:Int)<=(c:Int):=by omega
 have z2:n<=9223372036854775807:=by omega
 go_enter func72,ntmps72;go_wp2;go_ret;exact⟨rfl,rfl⟩
theorem ymE {w:World}{ao:Option Addr}{n c:Nat}{l:List Pr}(h:Prs w (.slice ao n c) l):Prs w (.slice ao n n) l:=by
 obtain⟨bo,cap,e,h1,h2,h3⟩:=h;cases e
 exact⟨ao,l.length,rfl,Nat.le_refl _,Nat.le_trans h1 h2,h3⟩
end Go.Proofs.YtgmidodmmlmmeaaGreatDoor.xpt
namespace Go.Proofs.YtgmidodmmlmmeaaGreatDoor.xpt
open Go.RowKit lex tre att nor _root_.Go.Proofs.Tryz
theorem ypp {W:World}{g:Nat}{t:TypeId}{a0 a1:Value}(h:blk W g t #[a0,a1])(c0 c1:Value):blk ((W.setCell ⟨g,0,none⟩ c0).setCell ⟨g,1,none⟩ c1) g t #[c0,c1]:=by
 have h0:blk (W.setCell ⟨g,0,none⟩ c0) g t #[c0,a1]:=yg h c0;exact yg h0 c1
theorem yhl (x:gra.Nd)(pv:Value)(p:Int)(R:Value)(w:World)(h:Hid (gra.Pts w pv x.ps))(h0:-1<=p)(h1:p<x.ps.length)(hr:Hid (rfV (yd7 x p)=R)) :
    Calls Tryz.prog 71 #[ndV x pv,.int .i64 p] w fun e w'=>e=.returned R/\Below w.heap.size w w':=by
 obtain⟨ao,cap,rfl,-,-,-⟩:=id h.out;obtain⟨nm,lb,xw,xh,xc,ps⟩:=x;unfold ndV;simp only at h h1 hr |-;obtain⟨X,hX⟩:∃ Y,bb nm=Y:=⟨_,rfl⟩
 obtain⟨L,hL⟩:∃ Y,bb lb=Y:=⟨_,rfl⟩
 by_cases hp:p=-1
 case pos =>
  have HR:Hid (Value.agg #[.string X,.string ⟨#[]⟩]=R):=Lh (by rw[<- hr.out,<- hX];unfold rfV yd7;simp only;rw[if_pos (by omega)]);rw[hX,hL];subst hp;clear hr hX hL h0 h1;go_enter func71,ntmps71;go_wp2;refine bodyPost_ret (v:=.agg #[.string X,.string ⟨#[]⟩]) (by simp[results,results71,go_sem]) rfl ⟨by rw[<- HR.out],?_⟩;exact(al1 ..).alloc (al1 ..).size _
 obtain⟨k,rfl⟩:∃ k:Nat,p=(k:Int):=⟨p.toNat,by omega⟩
 have hl:k<ps.length:=by omega
 obtain⟨Y,hY⟩:∃ Y,bb ps[k].1=Y:=⟨_,rfl⟩
 have HR:Hid (Value.agg #[Value.string X,.string Y]=R):=Lh (by
  rw[<- hr.out,<- hX,<- hY];unfold rfV yd7;simp only
  rw[if_neg (by omega),Int.toNat_natCast,List.getD_eq_getElem?_getD,List.getElem?_eq_getElem hl];rfl)
 obtain⟨A,rfl,p0,p1,z2,z3⟩:=h.out.get hl;have hY2:gra.bb ps[k].1=Y:=hY;rw[hY2] at p0;have k0:(0:Int)<=(k:Int):=by omega
 have k1:(k:Int)<(ps.length:Int):=by omega
 have bk:((k:Int) == -1)=false:=by rw[beq_eq_false_iff_ne];omega
 have hk1:=yl w #[.string X,.string L,.int .i64 xw,.int .i64 xh,.int .i64 xc,.slice (some A) ps.length cap] 59;have hb1:=al1 w (.cells #[.string X,.string L,.int .i64 xw,.int .i64 xh,.int .i64 xc,.slice (some A) ps.length cap] 59);have q1:(w.alloc (.cells #[.string X,.string L,.int .i64 xw,.int .i64 xh,.int .i64 xc,.slice (some A) ps.length cap] 59)).heap.size=w.heap.size+1:=by simp
 have HK1:=Lh hk1;have HB1:=Lh hb1;have HQ1:=Lh q1;have HP0:=Lh p0;rw[hX,hL];clear hr hX hL hY hY2 p0 p1 z2 z3 hk1 hb1 q1 h0 hp;go_enter func71,ntmps71;go_wp2_with fail
 generalize w.alloc (.cells #[.string X,.string L,.int .i64 xw,.int .i64 xh,.int .i64 xc,.slice (some A) ps.length cap] 59)=wa at HK1 HB1 HQ1 |-;have hq1:=HQ1.out;have b2:=al1 wa (.cells #[.string ⟨#[]⟩,.string ⟨#[]⟩] 121);have k2:=yl wa #[.string ⟨#[]⟩,.string ⟨#[]⟩] 121;generalize wa.alloc (.cells #[.string ⟨#[]⟩,.string ⟨#[]⟩] 121)=w1 at b2 k2 |-;rw[hq1] at k2;have hk1:=yj b2 HK1.out;have hb1:=ya b2 HB1.out;have c0:=bc 0 hk1;have c5:=bc 5 hk1;have d0:=yb hb1 HP0.out;have f0:w1.frozen? ⟨w.heap.size+1,0,none⟩=false:=yk k2;have f1:w1.frozen? ⟨w.heap.size+1,1,none⟩=false:=yk k2;obtain⟨e0,e1⟩:=b2c k2;have HK2:=Lh k2;have HB2:=Lh hb1;clear hk1 hb1 b2 k2;refine ycH (fun W:World=>W.cell? ⟨w.heap.size,0,none⟩=some (.string X)/\W.cell? ⟨w.heap.size,5,none⟩=some (.slice (some A) ps.length cap)/\W.cell? (A.add (k*2))=some (.string Y)) 9 (by kernel_rfl) (⟨yf c0,yf c5,yf d0⟩) (fun hHeld=>?_);refine ton 0 10 (.pointer (some ⟨w.heap.size,0,none⟩)) ?_;refine ton 1 11 (.string X) ?_;refine ton 2 12 (.pointer (some ⟨w.heap.size,5,none⟩)) ?_;refine ton 3 13 (.slice (some A) ps.length cap) ?_;refine ton 4 14 (.int .i64 (k:Int)) ?_;refine ton 5 15 (.pointer (some (A.add (k*2)))) ?_;refine ton 6 16 (.pointer (some (A.add (k*2)))) ?_;refine ton 7 17 (.string Y) ?_;refine ton 8 18 (.agg #[.string X,.string Y]) ?_
 try simp only[sA,sB,sC]
 have hbx:=ypp HK2.out (.string X) (.string Y);have r0:=yd (o:=0) hbx;have r1:=yd (o:=1) hbx;have r2:=yd (o:=0) (yg (o:=0) HK2.out (.string X));refine tgo (i:=9) (by kernel_rfl) rfl (fun K hK=>?_);go_simp;refine hK.out _ _ (fun h=>absurd rfl h) (fun hHeld=>?_);clear hK K hHeld
 try simp only[sA,sB,sC]
 refine yb3 (by kernel_rfl) ?_ _;go_wp2;refine bodyPost_ret (v:=.agg #[.string X,.string Y]) (by simp[results,results71,go_sem,r1,r2]) rfl ⟨by rw[<- HR.out],?_⟩;exact(set2 HB2.out (Nat.le_succ _)).drew
theorem ygq:∀ l:List gra.Pt,Lib.join (l.map ya7) [44,32]=yT l
 | []=>rfl
 | [p]=>by rw[yT];simp[Lib.join]
 | p::q::t=>by
  rw[yT,<- ygq (q::t)];simp[Lib.join]
theorem ymR (v:Value)(l:List gra.Pt)(Q:ByteArray)(w:World)(h:Hid (gra.Pts w v l))(hp:Hid (∀ p∈l,PtV p))(hl:l.length<=8)(hq:Hid (bb (yT l)=Q)) :
    Calls Tryz.prog 190 #[v] w fun e w'=>e=.returned (.string Q)/\Below w.heap.size w w':=by
 obtain⟨ao,cap,rfl,hc,hm,_⟩:=id h.out;clear hc hm;obtain⟨i0,hi0,hz0,hz1,hz2⟩:=yfi;go_enter func190,ntmps190;go_wp2_with fail
 go_loopw [3,8] (fun u i wr=>∃ (k:Nat) (ro:Option Addr) (rc:Nat),k<=l.length/\i=.int .i64 k/\u=.slice ro k rc/\tre.Nrow wr w.heap.size (.slice ro k rc) ((l.take k).map ya7)/\Below w.heap.size w wr) (fun _ i _=>l.length-(intOf i).toNat)
 case atStart=>exact⟨0,none,0,Nat.zero_le _,rfl,rfl,World.ownsRow_nil _ _ _ _,Below.refl _ _⟩
 case round =>
  obtain⟨k,ro,rc,hk,rfl,rfl,hrow,hB⟩:=hrel
  rename World=>wr
  have HR:=Lh hrow;have HBB:=Lh hB;have hsw:=hB.size;clear hrow
  by_cases hlt:k<l.length
  case neg =>
   obtain rfl:k=l.length:=by omega
   have HRR:Hid (tre.Nrow wr w.heap.size (.slice ro l.length rc) (l.map ya7)):=Lh (by have:=HR.out;rwa [List.take_length] at this);have HJ:Hid (Lib.join (l.map ya7) (⟨#[44,32]⟩:ByteArray).data.toList=Q.data.toList):=Lh (by rw[<- hq.out];exact ygq l);have hQ:Q.size<=100000:=by rw[<- hq.out];show (yT l).toArray.size<=_;rw[List.size_toArray];have:=yff hp.out;omega
   clear hB HR;go_wp2_with fail
   refine(prt.sjoin_row (l.map ya7) w.heap.size _ ⟨#[44,32]⟩ Q wr HRR (by rw[List.length_map];omega) (by decide) (by decide) hQ HJ).mono ?_;rintro e w2 ⟨rfl,hb2⟩;have HB2:=Lh (ya hb2 HBB.out);clear hb2;go_wp2;go_ret;exact⟨rfl,HB2.out⟩
  obtain⟨A,rfl,p0,p1,z2,z3⟩:=(h.out.keep hB).get hlt;have hpv:=hp.out _ (List.getElem_mem hlt);have HTK:=Lh (ycQ hlt);obtain⟨x,hx⟩:∃ x,l[k]=x:=⟨_,rfl⟩
  rw[hx] at p0 p1 hpv HTK;obtain⟨X,hX⟩:∃ Y,bb x.1=Y:=⟨_,rfl⟩
  obtain⟨u,hu⟩:∃ u,x.2=u:=⟨_,rfl⟩
  obtain⟨V,hV⟩:∃ V,bb (yeU u)=V:=⟨_,rfl⟩
  have s1:X.size<=16:=by rw[<- hX];show (x.1.toArray).size<=16;rw[List.size_toArray];exact nm16 hpv.1
  have s3:V.size<=6:=by rw[<- hV,<- hu];show ((yeU x.2).toArray).size<=6;rw[List.size_toArray];exact yjK hpv.2.1 hpv.2.2
  have u0:0<=u:=by rw[<- hu];exact hpv.2.1
  have u3:u<=3:=by rw[<- hu];exact hpv.2.2
  rw[show gra.bb x.1=X from hX] at p0;rw[hu] at p1;have HV:=Lh hV
  have HA:Hid (bb (ya7 x)=X++⟨#[32]⟩++V):=Lh (by
   apply yml
   rw[<- hX,<- hV,<- hu];simp[ya7])
  have HN:Hid ((l.take (k+1)).map ya7=(l.take k).map ya7++[ya7 x]):=Lh (by rw[HTK.out,List.map_append];rfl);have hCl:((l.take k).map ya7).length=k:=by rw[List.length_map,List.length_take];omega
  obtain⟨C,hC⟩:∃ C,(l.take k).map ya7=C:=⟨_,rfl⟩
  rw[hC] at HR HN hCl;have z0:(0:Int)<=(k:Int):=by omega
  have z1:(k:Int)<(l.length:Int):=by omega
  clear hpv hX hV hu z2 z3 hx hC hB;have HPB:=Lh (yl wr #[.string X,.int .i64 u] 192);have HB1:=Lh (al1 wr (.cells #[.string X,.int .i64 u] 192));go_wp2_with fail
  generalize wr.alloc (.cells #[.string X,.int .i64 u] 192)=w1 at HPB HB1 |-;obtain⟨c0,c1⟩:=b2c HPB.out;have g1:¬ (9223372036854775807<X.size+1):=by omega
  have g2:¬ (9223372036854775807<X.size+1+V.size):=by omega
  clear p0 p1;refine ycH (fun W:World=>W.cell? ⟨wr.heap.size,0,none⟩=some (.string X)/\W.cell? ⟨wr.heap.size,1,none⟩=some (.int .i64 u)) 10 (by kernel_rfl) (⟨yf c0,yf c1⟩) (fun hHeld=>?_);refine ton 0 12 (.slice ro k rc) ?_;refine ton 1 13 (.pointer (some ⟨wr.heap.size,0,none⟩)) ?_;refine ton 2 14 (.string X) ?_;refine ton 3 15 (.string (X++⟨#[32]⟩)) ?_;refine ton 4 16 (.pointer (some ⟨wr.heap.size,1,none⟩)) ?_;refine ton 5 17 (.int .i64 u) ?_
  try simp only[sA,sB,sC]
  refine tgo (i:=6) (by kernel_rfl) rfl (fun K hK=>?_);go_simp;refine(yn2 u V _ u0 u3 HV).mono ?_;rintro e w2 ⟨rfl,hb2⟩;have HB2:=Lh (ya hb2 (yat w1));clear hb2;refine hK.out _ _ (fun _=>⟨yb HB2.out c0,yb HB2.out c1⟩) (fun hHeld=>?_);replace hHeld:=hHeld (by decide);clear hK K
  try simp only[sA,sB,sC]
  refine ton 7 19 (.string (X++⟨#[32]⟩++V)) ?_
  try simp only[sA,sB,sC]
  refine tgo (i:=8) (by kernel_rfl) rfl (fun K hK=>?_);go_simp;refine hK.out _ _ (fun _=>⟨yh (yb HB2.out c0),yh (yb HB2.out c1)⟩) (fun hHeld=>?_);replace hHeld:=hHeld (by decide);clear hK K
  try simp only[sA,sB,sC]
  have hb3:Below wr.heap.size wr (w2.alloc (.cells #[.string (X++⟨#[32]⟩++V)] 9)):=ya (al1 ..) (ya HB2.out HB1.out);have hkn:=yl w2 #[.string (X++⟨#[32]⟩++V)] 9;have HO:=Lh (yr HR.out hb3);have hz3:=hb3.size;refine tgo (i:=9) (by kernel_rfl) rfl (fun K hK=>?_);refine step_append_lies _ (by rfl) _ _ _ (by rfl) w.heap.size 9 i0 _ 1 16 underlying50 hi0 hz0 hz1 hz2 rfl (by omega) (.slice ro k rc) C.length (nmC C) (by rfl) HO.out ⟨w2.heap.size,0,none⟩ 1 1 [.string (X++(⟨#[32]⟩:ByteArray)++V)] (by rfl) (by rfl) (by exact World.news_of_block (cs:=#[.string (X++(⟨#[32]⟩:ByteArray)++V)]) (t:=9) (fr:=(0,0)) (show (w2.alloc _).heap[w2.heap.size]?=some _ from hkn)) (by simp[Value.oneCell']) (by omega) (by unfold maxLen;omega) (by omega) (by omega) (w2.heap.size+1) (by simp) ?_;intro gg cap7 w7 hown7 hgrow hat hlt7;have hq0:=yb4 HO.out hgrow (yj (ya (al1 ..) HB2.out) HPB.out) (by decide);refine hK.out _ _ (fun _=>⟨by rw[yd hq0];rfl,by rw[yd hq0];rfl⟩) (fun hHeld=>?_);replace hHeld:=hHeld (by decide);clear hK K
  try simp only[sA,sB,sC]
  refine tgo (i:=10) (by kernel_rfl) rfl (fun K hK=>?_);go_simp;refine hK.out _ _ (fun h=>absurd rfl h) (fun hHeld=>?_);clear hK K hHeld
  try simp only[sA,sB,sC]
  refine yb3 (by kernel_rfl) ?_ _;have hB7:=HBB.out.trans ((hb3.mono (by omega)).trans (ybi HO.out hgrow (by omega)))
  have hrow7:tre.Nrow w7 w.heap.size (.slice (some ⟨gg,0,none⟩) (k+1) cap7) ((l.take (k+1)).map ya7):=by
   unfold tre.Nrow;rw[HN.out,prt.nmC_app,List.length_append,HA.out];rw[hCl] at hown7 |-;exact hown7
  have HR7:=Lh hrow7;have HB7:=Lh hB7;clear hgrow hat hlt7 hown7 hrow7 hB7 g1 g2 hq0;go_wp2
  go_roundw
  case rel=>exact⟨k+1,_,_,by omega,by go_num,rfl,HR7.out,HB7.out⟩
  case measure=>simp[intOf];omega
def elC (B:Nat)(w:World)(x:Sv):Prop:=∃ lo hi,B<=lo/\hi<=w.heap.size/\∀ W,agree lo hi w W->ysP W x
def RC (B:Nat)(W:World)(v:Value)(D:List Sv):Prop :=
 (∃ ao cap,v=.slice ao D.length cap/\D.length<=cap/\cap<=maxLen/\(0<D.length->∃ g arr,ao=some ⟨g,0,none⟩/\B<=g/\blk W g 67 arr/\∀ j,j<D.length*5->arr[j]?=(D.flatMap svC)[j]?))/\∀ x∈D,elC B W x
theorem RS.rc {B:Nat}{W:World}{v:Value}{D:List Sv}(h:RS B W v D):RC B W v D:=by
 obtain⟨ao,cap,e,h1,h2⟩:=yu h.1;refine⟨⟨ao,cap,e,h1,h2,fun hn=>?_⟩,fun x hx=>?_⟩
 ·obtain⟨g,c,arr,e2,hB,hk,-,-,h3⟩:=yaE h.1 hn
  rw[e] at e2;cases e2;exact⟨g,arr,rfl,hB,hk,h3⟩
 ·obtain⟨lo,hi,q1,q2,-,q4⟩:=h.2 x hx;exact⟨lo,hi,q1,q2,q4⟩
theorem RC.cut {B n c:Nat}{W:World}{ao:Option Addr}{D:List Sv}(h:RC B W (.slice ao n c) D):RC B W (.slice ao D.length D.length) D:=by
 obtain⟨⟨_,_,e,h1,h2,h3⟩,h4⟩:=h;cases e
 exact⟨⟨ao,D.length,rfl,Nat.le_refl _,Nat.le_trans h1 h2,h3⟩,h4⟩
theorem RC.below {B:Nat}{W W':World}{v:Value}{D:List Sv}(h:RC B W v D)(hb:Below W.heap.size W W'):RC B W' v D:=by
 obtain⟨⟨ao,cap,e,h1,h2,h3⟩,h4⟩:=h;refine⟨⟨ao,cap,e,h1,h2,fun hn=>?_⟩,fun x hx=>?_⟩
 ·obtain⟨g,arr,q1,q2,q3,q4⟩:=h3 hn
  exact⟨g,arr,q1,q2,yj hb q3,q4⟩
 ·obtain⟨lo,hi,q1,q2,q3⟩:=h4 x hx
  exact⟨lo,hi,q1,Nat.le_trans q2 hb.size,fun U hU=>q3 U fun q r1 r2=>by rw[hU q r1 r2];exact hb.block q (by omega)⟩
theorem RC.lower {B B':Nat}{W:World}{v:Value}{D:List Sv}(h:RC B' W v D)(hB:B<=B'):RC B W v D:=by
 obtain⟨⟨ao,cap,e,h1,h2,h3⟩,h4⟩:=h;refine⟨⟨ao,cap,e,h1,h2,fun hn=>?_⟩,fun x hx=>?_⟩
 ·obtain⟨g,arr,q1,q2,q3⟩:=h3 hn;exact⟨g,arr,q1,Nat.le_trans hB q2,q3⟩
 ·obtain⟨lo,hi,q1,q2⟩:=h4 x hx;exact⟨lo,hi,Nat.le_trans hB q1,q2⟩
theorem RC.selfL {B:Nat}{w:World}{v:Value}{D:List Sv}(h:RC B w v D):xpt.selfL B w v (D.map Sv.s):=by
 intro W hW;obtain⟨⟨ao,cap,rfl,h1,h2,h3⟩,h4⟩:=h;refine⟨ao,cap,by rw[List.length_map],by rw[List.length_map];exact h1,h2,fun hn=>?_⟩;rw[List.length_map] at hn;obtain⟨g,arr,rfl,hBg,hk,h5⟩:=h3 hn;have hkW:blk W g 67 arr:=by unfold xpt.blk at hk |-;rw[hW g hBg (yP hk)];exact hk
 refine⟨_,rfl,yjx fun j hj=>?_⟩;have hj':j<D.length:=by simpa using hj
 obtain⟨lo,hi,q1,q2,q4⟩:=h4 D[j] (List.getElem_mem hj');obtain⟨hn,hr,ha,hb⟩:=q4 W (fun q e1 e2=>hW q (by omega) (by omega));have hc:∀ i,i<5->arr[j*5+i]?=(svC D[j])[i]?:=fun i hi'=>by rw[h5 _ (by omega)];exact yac svC 5 yiQ D j i hj' hi'
 have hs:(D.map Sv.s)[j]=D[j].s:=by rw[List.getElem_map]
 rw[hs,Nat.zero_add,gra.add_at,Nat.zero_add];refine(yap _ _ _).2 ⟨?_,?_,hn,⟨_,?_,hr⟩,⟨_,?_,ha⟩,_,?_,hb⟩
 ·rw[yd hkW,<- Nat.add_zero (j*5),hc 0 (by omega)];rfl
 ·show W.cell? ⟨g,j*5+1,none⟩=_;rw[yd hkW,hc 1 (by omega)];rfl
 ·show W.cell? ⟨g,j*5+2,none⟩=_;rw[yd hkW,hc 2 (by omega)];rfl
 ·show W.cell? ⟨g,j*5+3,none⟩=_;rw[yd hkW,hc 3 (by omega)];rfl
 ·show W.cell? ⟨g,j*5+4,none⟩=_;rw[yd hkW,hc 4 (by omega)];rfl
def RJ (B T:Nat)(W:World)(v:Value)(D:List Sv):Prop:=W.ownsRow T 67 5 v D.length (D.flatMap svC)/\T<=W.heap.size/\∀ x∈D,∃ lo hi,B<=lo/\hi<=T/\∀ U,agree lo hi W U->ysP U x
theorem RJ.rc {B T:Nat}{W:World}{v:Value}{D:List Sv}(h:RJ B T W v D)(hB:B<=T):RC B W v D:=by
 obtain⟨ao,cap,e,h1,h2⟩:=yu h.1;refine⟨⟨ao,cap,e,h1,h2,fun hn=>?_⟩,fun x hx=>?_⟩
 ·obtain⟨g,c,arr,e2,hB2,hk,-,-,h3⟩:=yaE h.1 hn
  rw[e] at e2;cases e2;exact⟨g,arr,rfl,Nat.le_trans hB hB2,hk,h3⟩
 ·obtain⟨lo,hi,q1,q2,q4⟩:=h.2.2 x hx;exact⟨lo,hi,q1,Nat.le_trans q2 h.2.1,q4⟩
theorem yr4 {w w0:World}{ops:Array Oper}{rest:List Oper}{o:Oper}{a:Act}{Q:Exit->Act->World->Prop}(hgd:o.guard=none)(p y:Operand)(ho:o.op=.call { callee:=.builtin .append,args:=#[p,y],argTypes:=#[31,31] })
    (B:Nat) (v vb:Value) (D Db:List Sv) (hs:a.eval p=v) (hx:a.eval y=vb) (h:Hid (RJ B w0.heap.size w v D)) (hb:Hid (RC B w0 vb Db)) (hw:Hid (Below w0.heap.size w0 w)) (hl:D.length+Db.length<=1000000)
    (hK:∀ ao cap w',Hid (RJ B w0.heap.size w' (.slice ao (D++Db).length cap) (D++Db))->Hid (Below w0.heap.size w0 w')->wpList Tryz.prog ops Q rest (a.put o.dst (.slice ao (D++Db).length cap)) w'):wpList Tryz.prog ops Q (o::rest) a w:=by
 obtain⟨⟨bo,bc,rfl,hb1,hb2,hb3⟩,hb4⟩:=hb.out;obtain⟨hrow,hT,hel⟩:=h.out
 by_cases h0:Db.length=0
 ·obtain rfl:Db=[]:=List.eq_nil_of_length_eq_zero h0
  obtain⟨ao,cap,rfl,-,-⟩:=yu hrow;refine wpList_plain hgd fun K hK2=>?_
  have hrun:=yfn o.type w0.heap.size _ D hrow bo bc;have:=hK ao cap w (Lh (by rw[List.append_nil];exact h.out)) hw;rw[List.append_nil] at this;rw[List.length_nil] at hx;unfold Oper.wp;simp[execOp,ho,resolve,invoke,builtin,hs,hx,hrun,Result.andThen];exact hK2 _ _ this
 ·obtain⟨gb,arr,rfl,-,hk,h5⟩:=hb3 (by omega)
  obtain⟨i0,hi,hz0,hz1,hz2⟩:=ycg;have hkw:=yj hw.out hk;refine wpList_append_lies _ hgd p y 31 ho w0.heap.size 67 i0 _ 5 96 underlying31 hi hz0 hz1 hz2 rfl (by decide) v D.length _ hs hrow ⟨gb,0,none⟩ Db.length bc (Db.flatMap svC) hx (yel svC 5 yiQ Db) ?_ ?_ (by omega) (by unfold maxLen;omega) (by omega) hT w.heap.size rfl ?_
  ·intro j u hj
   have hl2:=yel svC 5 yiQ Db;have hj2:j<Db.length*5:=by rw[<- hl2];exact(List.getElem?_eq_some_iff.1 hj).1
   rw[gra.add_at,Nat.zero_add,yd hkw,h5 j hj2];exact hj
  ·intro u hu
   obtain⟨r,hr0,hr⟩:=List.mem_flatMap.1 hu;obtain⟨lo,hi',-,-,h4⟩:=hb4 r hr0;obtain⟨-,⟨_,_,e1,_⟩,⟨_,_,e2,_⟩,⟨_,_,e3,_⟩⟩:=h4 w0 (fun q _ _=>rfl);simp only[svC,List.mem_cons,List.not_mem_nil,or_false] at hr
   rcases hr with rfl | rfl | rfl | rfl | rfl
   ·rfl
   ·rfl
   ·rw[e1];rfl
   ·rw[e2];rfl
   ·rw[e3];rfl
  ·intro g cap V' hown hgrow hat _
   have hbl:=ybi hrow hgrow hT;rw[show D.length+Db.length=(D++Db).length by rw[List.length_append]] at hown |-;refine hK (some ⟨g,0,none⟩) cap V' (Lh ⟨by rw[List.flatMap_append];exact hown,Nat.le_trans hT hgrow.size,fun x hx=>?_⟩) (Lh (hw.out.trans hbl))
   rcases List.mem_append.1 hx with q | q
   ·obtain⟨lo,hi,q1,q2,q3⟩:=hel x q
    exact⟨lo,hi,q1,q2,fun U hU=>q3 U fun z r1 r2=>by rw[hU z r1 r2];exact hbl.block z (by omega)⟩
   ·obtain⟨lo,hi,q1,q2,q3⟩:=hb4 x q
    exact⟨lo,hi,q1,q2,fun U hU=>q3 U fun z r1 r2=>by rw[hU z r1 r2];exact(hw.out.trans hbl).block z (by omega)⟩
theorem ypq {e:gra.Ed}(h:EdV e):ybw (ybw (ybw [] yE e.lb []) yej (yJ (e.ln*1000)) (yJ (1*1000))) yV (yJ (e.wt*1000)) (yJ (1*1000))=ybC e:=by
 have h1:=h.ln;have h2:=h.wt;have e1:yJ (e.ln*1000)=yJ (1*1000)↔e.ln=1:=by rw[ycK (by omega) (by omega)];omega
 have e2:yJ (e.wt*1000)=yJ (1*1000)↔e.wt=1:=by rw[ycK (by omega) (by omega)];omega
 rw[yaV (Iff.rfl (a:=e.lb=[])),yaV e1,yaV e2];unfold ybC;rw[Int.mul_comm e.ln,Int.mul_comm e.wt];simp only[List.append_assoc,List.nil_append]
theorem yfv (g:gra.Gr)(gv:Value)(w:World)(h:Hid (gra.GrV w gv g))(hg:Hid (GV g))(htb:Hid (Tab w)) :
    Calls Tryz.prog 31 #[gv] w fun e w'=>(∃ v D,e=.returned v/\RS w.heap.size w' v D/\D.map Sv.s=g.es.map (ya8 g.ns))/\Below w.heap.size w w':=by
 have hel:g.es.length<=256:=hg.out.el;have hll:g.ns.length<=64:=hg.out.nl;obtain⟨nv,ev,cv,rfl,hgn,hns,hes,hcs⟩:=id h.out;obtain⟨no,nc,rfl,-,-,-⟩:=id hns;obtain⟨eo,ec,rfl,-,-,-⟩:=id hes;obtain⟨co,cc,rfl,-,-,-⟩:=id hcs;obtain⟨Gn,hGn⟩:∃ X,bb g.nm=X:=⟨_,rfl⟩
 rw[show gra.bb g.nm=Gn from hGn];have HNS:=Lh hns;have HES:=Lh hes;clear h hns hes hcs hgn hGn;have HB1:=Lh (al1 w (.cells #[.string Gn,.bool g.dir,.slice no g.ns.length nc,.slice eo g.es.length ec,.slice co g.cs.length cc] 26));have HK1:=Lh (yl w #[.string Gn,.bool g.dir,.slice no g.ns.length nc,.slice eo g.es.length ec,.slice co g.cs.length cc] 26);go_enter func31,ntmps31;go_wp2_with fail
 generalize w.alloc (.cells #[.string Gn,.bool g.dir,.slice no g.ns.length nc,.slice eo g.es.length ec,.slice co g.cs.length cc] 26)=w1 at HB1 HK1 |-;obtain⟨n0,hn0⟩:∃ n0,w.heap.size=n0:=⟨_,rfl⟩
 have hb1:=HB1.out;have hk1:=HK1.out;rw[hn0] at hk1;simp only[hn0];have HN0:=Lh hn0;have HK:=Lh hk1;clear hn0 hk1 HK1
 go_loopw [3,11] (fun lv iv wr=>∃ (k:Nat) (D:List Sv),iv=.int .i64 k/\k<=g.es.length/\RS n0 wr lv D/\D.map Sv.s=(g.es.take k).map (ya8 g.ns)/\Below w.heap.size w wr/\blk wr n0 26 #[.string Gn,.bool g.dir,.slice no g.ns.length nc,.slice eo g.es.length ec,.slice co g.cs.length cc]) (fun _ iv _=>g.es.length-(intOf iv).toNat)
 case atStart=>exact⟨0,[],rfl,Nat.zero_le _,RS.nil _ _,rfl,HB1.out,HK.out⟩
 case round =>
  obtain⟨k,D,rfl,hk,hrs,hD,hbw,hgx⟩:=hrel
  rename World=>wr
  obtain⟨vo,vc,rfl⟩:=hrs.form;have hDk:D.length<=300:=by rw[<- List.length_map (f:=Sv.s),hD,List.length_map,List.length_take];omega
  have HRS:=Lh hrs;have HD:=Lh hD;have HBW:=Lh hbw;have HGX:=Lh hgx;have hz0:=yP hgx;clear hrs hD hbw hgx HB1 hb1 HK
  by_cases hlt:k<g.es.length
  case neg =>
   obtain rfl:k=g.es.length:=by omega
   go_wp2;go_ret;refine⟨⟨_,D,rfl,by rw[HN0.out];exact HRS.out,?_⟩,HBW.out⟩;rw[HD.out,List.take_length]
  obtain⟨A,rfl,q0,q1,q2,q3,q4,q5,q6,-⟩:=(HES.out.keep HBW.out).get hlt;have hmem:=List.getElem_mem hlt;have HTK:=Lh (ycQ hlt);obtain⟨x,hx⟩:∃ x,g.es[k]=x:=⟨_,rfl⟩
  rw[hx] at q0 q1 q2 q3 q4 q5 q6 hmem HTK;clear hx;have hed:=hg.out.ev x hmem;have HED:=Lh hed;obtain⟨fr0,to0,f1,f2,t1,t2,fr1,to1⟩:=yrk hg.out hmem;obtain⟨i1,hi1⟩:∃ i:Nat,x.fr=i:=⟨x.fr.toNat,by omega⟩
  obtain⟨i2,hi2⟩:∃ i:Nat,x.to=i:=⟨x.to.toNat,by omega⟩
  have hl1:i1<g.ns.length:=by omega
  have hl2:i2<g.ns.length:=by omega
  have hn1:ndAt g.ns x.fr=g.ns[i1]:=by unfold ndAt;rw[hi1,Int.toNat_natCast,List.getD_eq_getElem?_getD,List.getElem?_eq_getElem hl1];rfl
  have hn2:ndAt g.ns x.to=g.ns[i2]:=by unfold ndAt;rw[hi2,Int.toNat_natCast,List.getD_eq_getElem?_getD,List.getElem?_eq_getElem hl2];rfl
  obtain⟨fr,tw,fp,tp,lb,wt,ln⟩:=x;simp only at hed fr0 to0 f1 f2 t1 t2 hi1 hi2 hn1 hn2 fr1 to1 q0 q1 q2 q3 q4 q5 q6;subst hi1 hi2;have hwt:=hed.wt;have hln:=hed.ln;simp only at hwt hln;have hc1:=hg.out.nd _ (List.getElem_mem hl1);have hc2:=hg.out.nd _ (List.getElem_mem hl2);obtain⟨An,e0,po1,pc1,hC1,hP1,hm1⟩:=yo3 HNS.out hl1;obtain⟨_,e,po2,pc2,hC2,hP2,hm2⟩:=yo3 HNS.out hl2;subst e0;cases e
  rw[hn1] at f2;rw[hn2] at t2;obtain⟨X1,hX1⟩:∃ y,g.ns[i1]=y:=⟨_,rfl⟩
  obtain⟨X2,hX2⟩:∃ y,g.ns[i2]=y:=⟨_,rfl⟩
  rw[hX1] at hC1 hP1 f2 hc1 hn1 hm1;rw[hX2] at hC2 hP2 t2 hc2 hn2 hm2;obtain⟨r1,hr1⟩:∃ r,yd7 X1 fp=r:=⟨_,rfl⟩
  obtain⟨r2,hr2⟩:∃ r,yd7 X2 tp=r:=⟨_,rfl⟩
  have b1:=ylW hc1 f2;have b2:=ylW hc2 t2;rw[hr1] at b1;rw[hr2] at b2;have HR1:Hid (rfV (yd7 X1 fp)=.agg #[.string (bb r1.1),.string (bb r1.2)]):=Lh (by rw[hr1];rfl);have HR2:Hid (rfV (yd7 X2 tp)=.agg #[.string (bb r2.1),.string (bb r2.2)]):=Lh (by rw[hr2];rfl);have HST:Hid (ya8 g.ns ⟨i1,i2,fp,tp,lb,wt,ln⟩=.mk 2 [] [r1,r2] (ybC ⟨i1,i2,fp,tp,lb,wt,ln⟩) []):=Lh (by unfold ya8;simp only;rw[hn1,hn2,hr1,hr2]);have B1:=Lh b1;have B2:=Lh b2;have HP1:=Lh hP1;have HP2:=Lh hP2;have HC1:=Lh hC1;have HC2:=Lh hC2;clear hr1 hr2 hX1 hX2 b1 b2 hn1 hn2 hc1 hc2 hP1 hP2 hC1 hC2 hed hm1 hm2 hmem;obtain⟨L,hL⟩:∃ X,bb lb=X:=⟨_,rfl⟩
  rw[show gra.bb lb=L from hL] at q4;have HL:=Lh hL;clear hL;have z1:(0:Int)<=(i1:Int):=by omega
  have z2:(i1:Int)<(g.ns.length:Int):=by omega
  have z3:(0:Int)<=(i2:Int):=by omega
  have z4:(i2:Int)<(g.ns.length:Int):=by omega
  have z5:(0:Int)<=(k:Int):=by omega
  have z6:(k:Int)<(g.es.length:Int):=by omega
  have hke:=yl wr #[.int .i64 (i1:Int),.int .i64 (i2:Int),.int .i64 fp,.int .i64 tp,.string L,.int .i64 wt,.int .i64 ln] 61;have hbe:=al1 wr (.cells #[.int .i64 (i1:Int),.int .i64 (i2:Int),.int .i64 fp,.int .i64 tp,.string L,.int .i64 wt,.int .i64 ln] 61);have hqe:(wr.alloc (.cells #[.int .i64 (i1:Int),.int .i64 (i2:Int),.int .i64 fp,.int .i64 tp,.string L,.int .i64 wt,.int .i64 ln] 61)).heap.size=wr.heap.size+1:=by simp
  have HKE:=Lh hke;have HBE:=Lh hbe;have HQE:=Lh hqe;clear hke hbe hqe;go_wp2_with fail
  generalize wr.alloc (.cells #[.int .i64 (i1:Int),.int .i64 (i2:Int),.int .i64 fp,.int .i64 tp,.string L,.int .i64 wt,.int .i64 ln] 61)=w2 at HKE HBE HQE |-;have hq2:=HQE.out;have hlb0:=NB.new (B:=wr.heap.size+1) w2 2;have hbl:=al1 w2 (.cells #[.int .i64 2,.slice none 0 0] 132);generalize w2.alloc (.cells #[.int .i64 2,.slice none 0 0] 132)=w4 at hlb0 hbl |-;rw[hq2] at hlb0 hbl
  try simp only[hq2]
  obtain⟨e0,he0⟩:∃ e0,wr.heap.size=e0:=⟨_,rfl⟩
  have hke4:blk w4 e0 61 #[.int .i64 (i1:Int),.int .i64 (i2:Int),.int .i64 fp,.int .i64 tp,.string L,.int .i64 wt,.int .i64 ln]:=yj (show Below w2.heap.size w2 w4 by rw[hq2];exact hbl) (by rw[<- he0];exact HKE.out);have hb4:Below wr.heap.size wr w4:=HBE.out.trans (hbl.mono (by omega));rw[he0] at hlb0 hz0;simp only[he0];have HE0:=Lh he0;have HNB4:=Lh hlb0;have HKE4:=Lh hke4;have HB4:=Lh hb4;have hz4:e0+2<=w4.heap.size:=by obtain⟨_,_,q,-⟩:=hlb0;exact yP q
  clear hlb0 hbl hke4 hb4 q0 q1 q2 q3 q4 q5 q6 HKE HBE HQE hq2 he0;have n4:=bc 4 HKE4.out;go_wp2_with fail
  refine(ydC (e0+1) (e0+1) 2 [] ⟨#[108,97,98,101,108]⟩ L ⟨#[]⟩ yE lb [] w4 HNB4 (Lh rfl) HL (Lh rfl) (Nat.le_refl _) (by decide)).mono ?_;rintro e w5 ⟨rfl,hnb,hkp⟩;have HNB5:=Lh hnb;have HKE5:=Lh (hkp.2 _ _ _ HKE4.out (by decide) (by omega));have HB5:=Lh (HB4.out.trans (hkp.1.mono (by have:=HE0.out;omega)));have hz5:e0+2<=w5.heap.size:=by obtain⟨_,_,q,-⟩:=hnb;exact yP q
  clear hnb hkp n4;have hl5:(ybw [] yE lb []).length<=1:=by have:=yaW [] yE lb [];simpa using this
  obtain⟨l5,hl5'⟩:∃ l,ybw [] yE lb []=l:=⟨_,rfl⟩
  rw[hl5'] at hl5 HNB5;have HL5:=Lh hl5';clear hl5';have n6:=bc 6 HKE5.out;go_wp2_with fail
  refine(ybO (e0+1) (e0+1) 2 l5 ⟨#[108,101,110]⟩ yej ln 1000 1 w5 HNB5 (Lh (yt htb.out (HBW.out.trans (HB5.out.mono (by have:=HBW.out.size;have:=HE0.out;omega))))) (Lh rfl) (by decide) (Lh rfl) (Nat.le_refl _) (by omega) (by omega) (by omega)).mono ?_;rintro e w6 ⟨rfl,hnb,hkp⟩;have HNB6:=Lh hnb;have HKE6:=Lh (hkp.2 _ _ _ HKE5.out (by decide) (by omega));have HB6:=Lh (HB5.out.trans (hkp.1.mono (by have:=HE0.out;omega)));have hz6:e0+2<=w6.heap.size:=by obtain⟨_,_,q,-⟩:=hnb;exact yP q
  clear hnb hkp n6;have hl6:(ybw l5 yej (yJ (ln*1000)) (yJ (1*1000))).length<=2:=by have:=yaW l5 yej (yJ (ln*1000)) (yJ (1*1000));omega
  obtain⟨l6,hl6'⟩:∃ l,ybw l5 yej (yJ (ln*1000)) (yJ (1*1000))=l:=⟨_,rfl⟩
  rw[hl6'] at hl6 HNB6;have HL6:=Lh hl6';clear hl6';have n5:=bc 5 HKE6.out;go_wp2_with fail
  refine(ybO (e0+1) (e0+1) 2 l6 ⟨#[119,101,105,103,104,116]⟩ yV wt 1000 1 w6 HNB6 (Lh (yt htb.out (HBW.out.trans (HB6.out.mono (by have:=HBW.out.size;have:=HE0.out;omega))))) (Lh rfl) (by decide) (Lh rfl) (Nat.le_refl _) (by omega) (by omega) (by omega)).mono ?_;rintro e w7 ⟨rfl,hnb,hkp⟩;have HNB7:=Lh hnb;have HKE7:=Lh (hkp.2 _ _ _ HKE6.out (by decide) (by omega));have HB7:=Lh (HB6.out.trans (hkp.1.mono (by have:=HE0.out;omega)));have hz7:e0+2<=w7.heap.size:=by obtain⟨_,_,q,-⟩:=hnb;exact yP q
  clear hnb hkp n5;have hl7:(ybw l6 yV (yJ (wt*1000)) (yJ (1*1000))).length<=3:=by have:=yaW l6 yV (yJ (wt*1000)) (yJ (1*1000));omega
  have hA:ybw l6 yV (yJ (wt*1000)) (yJ (1*1000))=ybC ⟨i1,i2,fp,tp,lb,wt,ln⟩:=by rw[<- HL6.out,<- HL5.out];exact ypq HED.out
  obtain⟨l7,hl7'⟩:∃ l,ybw l6 yV (yJ (wt*1000)) (yJ (1*1000))=l:=⟨_,rfl⟩
  rw[hl7'] at hl7 HNB7 hA;have HA:=Lh hA;clear hl7' hA;have hbw7:Below w.heap.size w w7:=HBW.out.trans (HB7.out.mono (by have:=HBW.out.size;exact this));have hgx7:=yj HB7.out HGX.out;obtain⟨c0,c1,c2,c3,c4,c5⟩:=HC1.out.keep hbw7;obtain⟨d0,d1,d2,d3,d4,d5⟩:=HC2.out.keep hbw7;have g2:=bc 2 hgx7;obtain⟨m0,m1,m2,m3⟩:=b4c HKE7.out;have HBW7:=Lh hbw7;clear hbw7 hgx7;go_wp2_with fail
  refine ycH (fun W:World=>W.cell? ⟨n0,2,none⟩=some (.slice (some An) g.ns.length nc)/\W.cell? ⟨e0,0,none⟩=some (.int .i64 (i1:Int))/\W.cell? ⟨e0,1,none⟩=some (.int .i64 (i2:Int))/\W.cell? ⟨e0,2,none⟩=some (.int .i64 fp)/\W.cell? ⟨e0,3,none⟩=some (.int .i64 tp)/\W.cell? (An.add (i1*6))=some (.string (bb X1.nm))/\W.cell? ⟨(An.add (i1*6)).block,(An.add (i1*6)).off+1,none⟩=some (.string (bb X1.lb))/\W.cell? ⟨(An.add (i1*6)).block,(An.add (i1*6)).off+2,none⟩=some (.int .i64 X1.w)/\W.cell? ⟨(An.add (i1*6)).block,(An.add (i1*6)).off+3,none⟩=some (.int .i64 X1.h)/\W.cell? ⟨(An.add (i1*6)).block,(An.add (i1*6)).off+4,none⟩=some (.int .i64 X1.cl)/\W.cell? ⟨(An.add (i1*6)).block,(An.add (i1*6)).off+5,none⟩=some (.slice po1 X1.ps.length pc1)/\W.cell? (An.add (i2*6))=some (.string (bb X2.nm))/\W.cell? ⟨(An.add (i2*6)).block,(An.add (i2*6)).off+1,none⟩=some (.string (bb X2.lb))/\W.cell? ⟨(An.add (i2*6)).block,(An.add (i2*6)).off+2,none⟩=some (.int .i64 X2.w)/\W.cell? ⟨(An.add (i2*6)).block,(An.add (i2*6)).off+3,none⟩=some (.int .i64 X2.h)/\W.cell? ⟨(An.add (i2*6)).block,(An.add (i2*6)).off+4,none⟩=some (.int .i64 X2.cl)/\W.cell? ⟨(An.add (i2*6)).block,(An.add (i2*6)).off+5,none⟩=some (.slice po2 X2.ps.length pc2)) 19 (by kernel_rfl) (⟨yf (g2),yf (m0),yf (m1),yf (m2),yf (m3),yf (c0),yf (c1),yf (c2),yf (c3),yf (c4),yf (c5),yf (d0),yf (d1),yf (d2),yf (d3),yf (d4),yf (d5)⟩) (fun hHeld=>?_);have hb:=yat w7;replace hHeld:((fun W:World=>W.cell? ⟨n0,2,none⟩=some (.slice (some An) g.ns.length nc)/\W.cell? ⟨e0,0,none⟩=some (.int .i64 (i1:Int))/\W.cell? ⟨e0,1,none⟩=some (.int .i64 (i2:Int))/\W.cell? ⟨e0,2,none⟩=some (.int .i64 fp)/\W.cell? ⟨e0,3,none⟩=some (.int .i64 tp)/\W.cell? (An.add (i1*6))=some (.string (bb X1.nm))/\W.cell? ⟨(An.add (i1*6)).block,(An.add (i1*6)).off+1,none⟩=some (.string (bb X1.lb))/\W.cell? ⟨(An.add (i1*6)).block,(An.add (i1*6)).off+2,none⟩=some (.int .i64 X1.w)/\W.cell? ⟨(An.add (i1*6)).block,(An.add (i1*6)).off+3,none⟩=some (.int .i64 X1.h)/\W.cell? ⟨(An.add (i1*6)).block,(An.add (i1*6)).off+4,none⟩=some (.int .i64 X1.cl)/\W.cell? ⟨(An.add (i1*6)).block,(An.add (i1*6)).off+5,none⟩=some (.slice po1 X1.ps.length pc1)/\W.cell? (An.add (i2*6))=some (.string (bb X2.nm))/\W.cell? ⟨(An.add (i2*6)).block,(An.add (i2*6)).off+1,none⟩=some (.string (bb X2.lb))/\W.cell? ⟨(An.add (i2*6)).block,(An.add (i2*6)).off+2,none⟩=some (.int .i64 X2.w)/\W.cell? ⟨(An.add (i2*6)).block,(An.add (i2*6)).off+3,none⟩=some (.int .i64 X2.h)/\W.cell? ⟨(An.add (i2*6)).block,(An.add (i2*6)).off+4,none⟩=some (.int .i64 X2.cl)/\W.cell? ⟨(An.add (i2*6)).block,(An.add (i2*6)).off+5,none⟩=some (.slice po2 X2.ps.length pc2))) w7.drew:=hHeld
  generalize w7.drew=y0 at hHeld hb |-;refine ton 0 25 (.pointer (some ⟨n0,2,none⟩)) ?_;refine ton 1 26 (.slice (some An) g.ns.length nc) ?_;refine ton 2 27 (.pointer (some ⟨e0,0,none⟩)) ?_;refine ton 3 28 (.int .i64 (i1:Int)) ?_;refine ton 4 29 (.pointer (some (An.add (i1*6)))) ?_;refine ton 5 30 (.agg #[.string (bb X1.nm),.string (bb X1.lb),.int .i64 X1.w,.int .i64 X1.h,.int .i64 X1.cl,.slice po1 X1.ps.length pc1]) ?_;refine ton 6 31 (.pointer (some ⟨e0,2,none⟩)) ?_;refine ton 7 32 (.int .i64 fp) ?_;refine ton 9 34 (.pointer (some ⟨n0,2,none⟩)) ?_;refine ton 10 35 (.slice (some An) g.ns.length nc) ?_;refine ton 11 36 (.pointer (some ⟨e0,1,none⟩)) ?_;refine ton 12 37 (.int .i64 (i2:Int)) ?_;refine ton 13 38 (.pointer (some (An.add (i2*6)))) ?_;refine ton 14 39 (.agg #[.string (bb X2.nm),.string (bb X2.lb),.int .i64 X2.w,.int .i64 X2.h,.int .i64 X2.cl,.slice po2 X2.ps.length pc2]) ?_;refine ton 15 40 (.pointer (some ⟨e0,3,none⟩)) ?_;refine ton 16 41 (.int .i64 tp) ?_
  try simp only[sA,sB,sC]
  clear g2 m0 m1 m2 m3 c0 c1 c2 c3 c4 c5 d0 d1 d2 d3 d4 d5;refine tgo (i:=8) (by kernel_rfl) rfl (fun K hK=>?_);go_simp;refine(yhl X1 (.slice po1 X1.ps.length pc1) fp _ y0 (Lh ((HP1.out.keep HBW7.out).keep hb)) (by omega) (by omega) HR1).mono ?_;rintro e y1 ⟨rfl,hb'⟩;refine hK.out _ _ (fun _=>(by have k:=hHeld;repeat first | exact yb hb' k | (refine⟨yb hb' k.1,?_⟩;replace k:=k.2))) (fun hHeld=>?_);replace hHeld:=hHeld (by decide);clear hK K
  try simp only[sA,sB,sC]
  replace hb:=ya hb' hb;clear hb';refine tgo (i:=17) (by kernel_rfl) rfl (fun K hK=>?_);go_simp;refine(yhl X2 (.slice po2 X2.ps.length pc2) tp _ y1 (Lh ((HP2.out.keep HBW7.out).keep hb)) (by omega) (by omega) HR2).mono ?_;rintro e y2 ⟨rfl,hb'⟩;refine hK.out _ _ (fun _=>(by have k:=hHeld;repeat first | exact yb hb' k | (refine⟨yb hb' k.1,?_⟩;replace k:=k.2))) (fun hHeld=>?_);replace hHeld:=hHeld (by decide);clear hK K
  try simp only[sA,sB,sC]
  replace hb:=ya hb' hb;clear hb';have hrb:=yl y2 #[.string (bb r1.1),.string (bb r1.2),.string (bb r2.1),.string (bb r2.2)] 121;have hb':=al1 y2 (.cells #[.string (bb r1.1),.string (bb r1.2),.string (bb r2.1),.string (bb r2.2)] 121);refine tgo (i:=18) (by kernel_rfl) rfl (fun K hK=>?_);go_simp;refine hK.out _ _ (fun _=>(by have k:=hHeld;repeat first | exact yh k | (refine⟨yh k.1,?_⟩;replace k:=k.2))) (fun hHeld=>?_);replace hHeld:=hHeld (by decide);clear hK K
  try simp only[sA,sB,sC]
  obtain⟨rb,hrbs⟩:∃ rb,y2.heap.size=rb:=⟨_,rfl⟩
  have hle:=hb.size;rw[hrbs] at hrb hle
  try simp only[hrbs]
  replace hb:=ya hb' hb;generalize y2.alloc (.cells #[.string (bb r1.1),.string (bb r1.2),.string (bb r2.1),.string (bb r2.2)] 121)=y3 at hrb hb hHeld |-;clear hb' hrbs;refine tgo (i:=19) (by kernel_rfl) rfl (fun K hK=>?_);go_simp;refine hK.out _ _ (fun h=>absurd rfl h) (fun hHeld=>?_);clear hK K hHeld
  try simp only[sA,sB,sC]
  refine yb3 (by kernel_rfl) ?_ _;obtain⟨ao,ac,hlb8,hrow8⟩:=HNB7.out.below hb;obtain⟨_,_,e9,hac1,hac2⟩:=yu hrow8;cases e9
  have u1:=bc 1 hlb8;have HRB:=Lh hrb;have HROW:=Lh hrow8;have HB8:=Lh (ya hb HB7.out);have hz8:=HB8.out.size;have hrbz:=yP hrb;have hlb:e0+2<=y3.heap.size:=yP hlb8;clear hb hlb8 hrow8 hrb;go_wp2_with fail
  refine(ykd ao l7.length ac y3 hac1 hac2).mono ?_;rintro e y4 ⟨rfl,rfl⟩
  have HX:Hid (elS n0 y3 (Value.slice vo D.length vc).ownBlock ⟨ya8 g.ns ⟨i1,i2,fp,tp,lb,wt,ln⟩,.slice (some ⟨rb,0,none⟩) 2 2,.slice ao l7.length l7.length,.slice none 0 0⟩):=Lh (by
   refine⟨e0,y3.heap.size,by omega,Nat.le_refl _,fun q hq h2=>?_,fun U hU=>?_⟩
   ·have:=(HRS.out.lt q hq).2;have:=HE0.out;omega
   ·have hbn:∀ r∈l7,r.1.length<=maxLen/\r.2.length<=maxLen:=by rw[HA.out];exact ylX HED.out
    have hp:=ymE (ye0 HROW.out (show e0<=e0+1 by omega) hbn U hU);have hq:=yrK (hU.blk (by have:=HB7.out.size;have:=HE0.out;omega) hrbz HRB.out) B1.out.1 B1.out.2 B2.out.1 B2.out.2;unfold ysP;rw[HST.out];refine⟨Nat.zero_le _,hq,?_,Sts.nil U⟩
    show Prs U _ (ybC _)
    rw[<- HA.out];exact hp)
  have HRS8:=Lh (HRS.out.below HB8.out);clear u1
  go_wp2_with (at_builtin;refine yoX rfl (.tmp 44) (.tmp 50) rfl n0 _ D ⟨ya8 g.ns ⟨i1,i2,fp,tp,lb,wt,ln⟩,.slice (some ⟨rb,0,none⟩) 2 2,.slice ao l7.length l7.length,.slice none 0 0⟩ 2 ⟨#[]⟩ _ _ _ rfl y3.heap.size rfl rfl rfl HRS8 HX (by omega) (by omega) ⟨rfl,rfl,rfl⟩ ?_;intro gg cap V hrs9 hg9)
  have hB9:=yid HRS8.out hg9.out (by omega);have hBW9:=HBW.out.trans ((HB8.out.mono HBW.out.size).trans (hB9.mono (by have:=HN0.out;omega)));have hgx9:=yqB HRS8.out hg9.out (yj HB8.out HGX.out) (by decide);have HBW9:=Lh hBW9;have HGX9:=Lh hgx9;clear hB9 hBW9 hgx9;go_wp2
  go_roundw
  case rel=>exact⟨k+1,D++[⟨ya8 g.ns ⟨i1,i2,fp,tp,lb,wt,ln⟩,.slice (some ⟨rb,0,none⟩) 2 2,.slice ao l7.length l7.length,.slice none 0 0⟩],by go_num,by omega,hrs9.out,by rw[List.map_append,HD.out,HTK.out,List.map_append];rfl,HBW9.out,HGX9.out⟩
  case measure=>simp[intOf];omega
end Go.Proofs.YtgmidodmmlmmeaaGreatDoor.xpt
