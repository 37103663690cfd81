/-
  Contracts and plain facts of the layers below; conditions as each theorem states them.
-/
import Derived.Test.YtgmidodmmlmmeaaGreatDoorMeb
import Derived.Test.YtgmidodmmlmmeaaGreatDoorMgb
set_option maxHeartbeats 16000000
set_option maxRecDepth 100000
namespace Go.Proofs.YtgmidodmmlmmeaaGreatDoor.xpt
open Go.RowKit Go.Sort lex tre att nor
theorem nm16 {l:List UInt8}(h:yK l=true):l.length<=16:=by
 unfold yK at h;simp only[Bool.and_eq_true,decide_eq_true_eq] at h;exact h.1.2
theorem yjK {n:Int}(h0:0<=n)(h3:n<=3):(yeU n).length<=6:=by
 have h:n=0\/n=1\/n=2\/n=3:=by omega
 rcases h with rfl | rfl | rfl | rfl <;> decide
theorem yjL {p:gra.Pt}(h:PtV p):(ya7 p).length<=23:=by
 have:=nm16 h.1;have:=yjK h.2.1 h.2.2;unfold ya7;rw[List.length_append,List.length_cons];omega
theorem yff:∀ {ps:List gra.Pt},(∀ p∈ps,PtV p)->(yT ps).length<=25*ps.length
 | [],_=>by rw[yT];simp
 | [p],h=>by rw[yT];have:=yjL (h p (List.mem_cons_self ..));simp;omega
 | p::q::t,h=>by
  have ih:=yff (ps:=q::t) (fun x hx=>h x (List.mem_cons_of_mem _ hx));have:=yjL (h p (List.mem_cons_self ..));rw[yT,List.length_append,List.length_cons,List.length_cons,List.length_cons];rw[List.length_cons] at ih |-;omega
theorem ycQ {α:Type}{l:List α}{k:Nat}(h:k<l.length):l.take (k+1)=l.take k++[l[k]]:=by rw[List.take_add_one,List.getElem?_eq_getElem h];rfl
end Go.Proofs.YtgmidodmmlmmeaaGreatDoor.xpt
namespace Go.Proofs.YtgmidodmmlmmeaaGreatDoor.xpt
open lex tre att nor
def yiS (g:gra.Gr)(c:Int)(n k:Nat):Bool:=match g.cs[k]? with
 | some x=>decide (x.2=c)&&inC g n k
 | none=>false
def ykO (g:gra.Gr)(c:Int)(n:Nat):Bool:=match g.ns[n]? with
 | some y=>decide (y.cl=c)
 | none=>false
section
variable {g:gra.Gr} {f n k:Nat} {c:Int}
theorem ygY (h:yiS g c n k=true):∃ hk:k<g.cs.length,(g.cs[k]).2=c/\inC g n k=true:=by
 unfold yiS at h
 rcases Nat.lt_or_ge k g.cs.length with q | q
 ·rw[List.getElem?_eq_getElem q] at h
  simp only[Bool.and_eq_true,decide_eq_true_eq] at h;exact⟨q,h⟩
 ·rw[List.getElem?_eq_none q] at h;cases h
theorem ygZ (h:ykO g c n=true):∃ hn:n<g.ns.length,(g.ns[n]).cl=c:=by
 unfold ykO at h
 rcases Nat.lt_or_ge n g.ns.length with q | q
 ·rw[List.getElem?_eq_getElem q] at h
  simp only[decide_eq_true_eq] at h;exact⟨q,h⟩
 ·rw[List.getElem?_eq_none q] at h;cases h
theorem yri (hk:k<g.cs.length):yiS g c n k=(decide ((g.cs[k]).2=c)&&inC g n k):=by
 unfold yiS;rw[List.getElem?_eq_getElem hk]
theorem yoj (hk:¬ k<g.cs.length):yiS g c n k=false:=by
 unfold yiS;rw[List.getElem?_eq_none (by omega)]
theorem yrj (hn:n<g.ns.length):ykO g c n=decide ((g.ns[n]).cl=c):=by
 unfold ykO;rw[List.getElem?_eq_getElem hn]
theorem yok (hn:¬ n<g.ns.length):ykO g c n=false:=by
 unfold ykO;rw[List.getElem?_eq_none (by omega)]
theorem yg0 (hk:k<g.cs.length)(h:yiS g c n k=true):yR g (f+1) c n k=(.mk 5 (g.cs[k]).1 [] [] (yR g f k n (k+1)).1::(yR g f c (yR g f k n (k+1)).2.1 (yR g f k n (k+1)).2.2).1,(yR g f c (yR g f k n (k+1)).2.1 (yR g f k n (k+1)).2.2).2):=by
 obtain⟨_,h1,h2⟩:=ygY h;rw[yR];simp only[List.getElem?_eq_getElem hk];rw[if_pos ⟨h1,h2⟩]
theorem yg1 (h1:yiS g c n k=false)(hn:n<g.ns.length)(h:ykO g c n=true):yR g (f+1) c n k=(ybp (g.ns[n])::(yR g f c (n+1) k).1,(yR g f c (n+1) k).2):=by
 obtain⟨_,h2⟩:=ygZ h;rw[yR]
 cases hq:g.cs[k]? with
 | none =>
  simp only[List.getElem?_eq_getElem hn];rw[if_pos h2]
 | some x =>
  simp only[List.getElem?_eq_getElem hn];unfold yiS at h1;rw[hq] at h1;simp only[Bool.and_eq_false_iff,decide_eq_false_iff_not] at h1;rw[if_neg (fun q=>by rcases h1 with r | r;exact r q.1;rw[q.2] at r;cases r),if_pos h2]
theorem yg2 (h1:yiS g c n k=false)(h:ykO g c n=false):yR g (f+1) c n k=([],n,k):=by
 have key:(match g.ns[n]? with
       | some y=>if y.cl=c then (ybp y::(yR g f c (n+1) k).1,(yR g f c (n+1) k).2) else ([],n,k)
       | none=>([],n,k))=(([],n,k):List St × Nat × Nat):=by
  unfold ykO at h
  cases hq:g.ns[n]? with
  | none=>rfl
  | some y =>
   rw[hq] at h;simp only[decide_eq_false_iff_not] at h;simp only;rw[if_neg h]
 rw[yR]
 cases hq:g.cs[k]? with
 | none=>simp only;exact key
 | some x =>
  simp only;unfold yiS at h1;rw[hq] at h1;simp only[Bool.and_eq_false_iff,decide_eq_false_iff_not] at h1;rw[if_neg (fun q=>by rcases h1 with r | r;exact r q.1;rw[q.2] at r;cases r)];exact key
end
theorem yci:∀ l:List St,l.length<=cnt l
 | []=>Nat.zero_le _
 | x::t=>by rw[yaI,List.length_cons];have:=yci t;omega
theorem yjM (g:gra.Gr):∀ (f:Nat) (c:Int) (n k:Nat),n<=(yR g f c n k).2.1/\k<=(yR g f c n k).2.2
 | 0,_,_,_=>⟨Nat.le_refl _,Nat.le_refl _⟩
 | f+1,c,n,k=>by
  cases h1:yiS g c n k with
  | true =>
   obtain⟨hk,-⟩:=ygY h1;rw[yg0 hk h1];obtain⟨q1,q2⟩:=yjM g f k n (k+1);obtain⟨r1,r2⟩:=yjM g f c (yR g f k n (k+1)).2.1 (yR g f k n (k+1)).2.2;exact⟨by simp only;omega,by simp only;omega⟩
  | false =>
   cases h2:ykO g c n with
   | true =>
    obtain⟨hn,-⟩:=ygZ h2;rw[yg1 h1 hn h2];obtain⟨r1,r2⟩:=yjM g f c (n+1) k;exact⟨by simp only;omega,by simp only;omega⟩
   | false=>rw[yg2 h1 h2];exact⟨Nat.le_refl _,Nat.le_refl _⟩
theorem yg3 (g:gra.Gr):∀ (f:Nat) (c:Int) (n k:Nat),n<=g.ns.length->k<=g.cs.length->cnt (yR g f c n k).1+n+k<=(yR g f c n k).2.1+(yR g f c n k).2.2
 | 0,_,n,k,_,_=>by show cnt []+n+k<=n+k;rw[show cnt []=0 from rfl];omega
 | f+1,c,n,k,hn,hk=>by
  cases h1:yiS g c n k with
  | true =>
   obtain⟨hk1,-⟩:=ygY h1;rw[yg0 hk1 h1];obtain⟨q1,q2⟩:=ych g f k n (k+1) hn hk1;have r1:=yg3 g f k n (k+1) hn hk1;have r2:=yg3 g f c (yR g f k n (k+1)).2.1 (yR g f k n (k+1)).2.2 q1 q2;simp only;rw[yaI];simp only[St.body];omega
  | false =>
   cases h2:ykO g c n with
   | true =>
    obtain⟨hn1,-⟩:=ygZ h2;rw[yg1 h1 hn1 h2];have r2:=yg3 g f c (n+1) k hn1 hk;simp only;rw[yaI];have:cnt (ybp g.ns[n]).body=0:=rfl;omega
   | false=>rw[yg2 h1 h2];simp only;rw[show cnt []=0 from rfl];omega
def ybw (l:List Pr)(k v wo:List UInt8):List Pr:=if v=wo then l else l++[(k,v)]
theorem ycK {a b:Int}(ha:-268435456<=a/\a<=268435456)(hb:-268435456<=b/\b<=268435456):yJ a=yJ b↔a=b:=by
 refine⟨fun h=>?_,fun h=>by rw[h]⟩;have h1:=ydO a ha.1 ha.2;have h2:=ydO b hb.1 hb.2;rw[h,h2] at h1;exact(Prod.mk.inj h1).1.symm
theorem ylU (ps:List gra.Pt):yT ps=[]↔ps=[]:=⟨fun h=>Decidable.byContradiction fun q=>yjv q h,fun h=>by rw[h,yT]⟩
theorem yaV {l:List Pr}{k v wo:List UInt8}{P:Prop}[Decidable P](h:v=wo↔P):ybw l k v wo=l++(if P then [] else [(k,v)]):=by
 unfold ybw
 by_cases q:P
 ·rw[if_pos (h.2 q),if_pos q,List.append_nil]
 ·rw[if_neg (fun e=>q (h.1 e)),if_neg q]
theorem yaW (l:List Pr)(k v wo:List UInt8):(ybw l k v wo).length<=l.length+1:=by
 unfold ybw
 split
 ·omega
 ·rw[List.length_append];simp
theorem ylV {x:gra.Nd}(h:NdV x):∀ r∈ybd x,r.1.length<=maxLen/\r.2.length<=maxLen:=by
 have b1:=ycz x.h (by have:=h.h;omega) (by have:=h.h;omega);have b2:=ycz x.w (by have:=h.w;omega) (by have:=h.w;omega);have b3:=h.lb;have b4:=yff h.pv;have b5:=h.len;have hm:1000<=maxLen:=by decide
 intro r hr;unfold ybd at hr;simp only[List.mem_append] at hr
 rcases hr with q | q | q | q
 all_goals
  obtain⟨rfl,-⟩:=yM q;refine⟨?_,?_⟩
  ·show _<=maxLen
   simp only[yQ,yE,yY,yao,List.length_cons,List.length_nil];omega
  ·show _<=maxLen
   simp only;omega
theorem yrk {g:gra.Gr}(hg:GV g){e:gra.Ed}(he:e∈g.es):0<=e.fr/\0<=e.to/\-1<=e.fp/\e.fp<(ndAt g.ns e.fr).ps.length/\-1<=e.tp/\e.tp<(ndAt g.ns e.to).ps.length/\e.fr<g.ns.length/\e.to<g.ns.length:=by
 obtain⟨a,b,c,d,x,y,z,t⟩:=hg.ef e he;exact⟨a,c,x,y,z,t,b,d⟩
theorem ylW {x:gra.Nd}(h:NdV x){p:Int}(hp:p<x.ps.length):(yd7 x p).1.length<=maxLen/\(yd7 x p).2.length<=maxLen:=by
 have hm:1000<=maxLen:=by decide
 have h1:=nm16 h.nm;unfold yd7;refine⟨by simp only;omega,?_⟩;simp only
 split
 ·exact Nat.zero_le _
 ·have hl:p.toNat<x.ps.length:=by omega
  rw[List.getD_eq_getElem?_getD,List.getElem?_eq_getElem hl];have:=nm16 (h.pv _ (List.getElem_mem hl)).1;simp only[Option.getD_some];omega
theorem ylX {e:gra.Ed}(h:EdV e):∀ r∈ybC e,r.1.length<=maxLen/\r.2.length<=maxLen:=by
 have b1:=ycz (1000*e.ln) (by have:=h.ln;omega) (by have:=h.ln;omega);have b2:=ycz (1000*e.wt) (by have:=h.wt;omega) (by have:=h.wt;omega);have b3:=h.lb;have hm:1000<=maxLen:=by decide
 intro r hr;unfold ybC at hr;simp only[List.mem_append] at hr
 rcases hr with q | q | q
 all_goals
  obtain⟨rfl,-⟩:=yM q;refine⟨?_,?_⟩
  ·show _<=maxLen
   simp only[yE,yej,yV,List.length_cons,List.length_nil];omega
  ·show _<=maxLen
   simp only;omega
end Go.Proofs.YtgmidodmmlmmeaaGreatDoor.xpt
namespace Go.Proofs.YtgmidodmmlmmeaaGreatDoor.xpt
open Go.RowKit lex tre att nor _root_.Go.Proofs.Tryz
def NB (B:Nat)(W:World)(b:Nat)(k:Int)(l:List Pr):Prop:=∃ ao ac,blk W b 132 #[.int .i64 k,.slice ao l.length ac]/\W.ownsRow B 69 2 (.slice ao l.length ac) l.length (l.flatMap prC)
theorem NB.below {B:Nat}{W W':World}{b:Nat}{k:Int}{l:List Pr}(h:NB B W b k l)(hb:Below W.heap.size W W'):NB B W' b k l:=by
 obtain⟨ao,ac,h1,h2⟩:=h;exact⟨ao,ac,yj hb h1,yr h2 hb⟩
theorem NB.new {B:Nat}(W:World)(k:Int):NB B (W.alloc (.cells #[.int .i64 k,.slice none 0 0] 132)) W.heap.size k []:=⟨none,0,yl ..,World.ownsRow_nil ..⟩
def KpN (B b:Nat)(w w':World):Prop:=Below B w w'/\∀ g t arr,blk w g t arr->t≠69->g≠b->blk w' g t arr
theorem KpN.refl (B b:Nat)(w:World):KpN B b w w:=⟨Below.refl _ _,fun _ _ _ h _ _=>h⟩
theorem KpN.trans {B b:Nat}{u v w:World}(h:KpN B b u v)(k:KpN B b v w):KpN B b u w:=⟨h.1.trans k.1,fun g t arr q e n=>k.2 g t arr (h.2 g t arr q e n) e n⟩
theorem KpN.below {B b:Nat}{u v:World}(h:Below u.heap.size u v)(hB:B<=u.heap.size):KpN B b u v:=⟨h.mono hB,fun _ _ _ q _ _=>yj h q⟩
theorem ytg {a b:List UInt8}{x y:ByteArray}(h:bb a=x)(k:bb b=y):(x.toList==y.toList)=decide (a=b):=by
 rw[<- h,<- k,Bool.eq_iff_iff,beq_iff_eq,decide_eq_true_eq,ByteArray.toList_eq,ByteArray.toList_eq]
theorem ydC (B b:Nat)(k:Int)(l:List Pr)(key val wo:ByteArray)(kk vv oo:List UInt8)(w:World)(h:Hid (NB B w b k l))(hk:Hid (bb kk=key))(hv:Hid (bb vv=val))(ho:Hid (bb oo=wo))(hB:B<=b)(hl:l.length<=1000) :
    Calls Tryz.prog 68 #[.pointer (some ⟨b,0,none⟩),.string key,.string val,.string wo] w fun e w'=>e=.returned (.tuple #[])/\NB B w' b k (ybw l kk vv oo)/\KpN B b w w':=by
 obtain⟨ao,ac,hb,hrow⟩:=id h.out;have HE:=Lh (ytg hv.out ho.out)
 by_cases g:vv=oo
 ·have bg:(val.toList==wo.toList)=true:=by rw[HE.out,decide_eq_true g]
  have HA:Hid (ybw l kk vv oo=l):=Lh (by unfold ybw;rw[if_pos g]);clear HE g hb hrow;go_enter func68,ntmps68;go_wp2;refine⟨rfl,Value.tuple #[],(by simp[results,go_sem,results68]),?_⟩;exact⟨rfl,by rw[HA.out];exact h.out,KpN.refl _ _ _⟩
 ·have bg:(val.toList==wo.toList)=false:=by rw[HE.out,decide_eq_false g]
  have HA:Hid (ybw l kk vv oo=l++[(kk,vv)]):=Lh (by unfold ybw;rw[if_neg g]);have HR:=Lh hrow;have HB:=Lh hb;have c1:=bc 1 hb;have hlt:=yP hb;have HX:Hid (prC (kk,vv)=[.string key,.string val]):=Lh (by rw[<- hk.out,<- hv.out];rfl);clear HE g hb hrow;go_enter func68,ntmps68
  go_wp2_with (at_builtin;refine ls_pr underlying65 yaj rfl (.tmp 15) (.tmp 19) rfl B _ _ l (kk,vv) key val HX.out w.heap.size rfl rfl (Lh (yr HR.out (al1 ..))) (Lh (yl ..)) (by omega) (by simp;omega) ?_;intro gg cap V hown hkp;have hbv:=Lh (al1 w (.cells #[.string key,.string val] 69));have hN2:=hkp.out.2 _ _ _ (yj hbv.out HB.out) (by decide);have fz2:V.frozen? ⟨b,1,none⟩=false:=yk hN2;have d2:V.cell? ⟨b,1,none⟩=some (.slice ao l.length ac):=(by rw[yd hN2];rfl);clear hN2)
  refine⟨rfl,Value.tuple #[],(by simp[results,go_sem,results68]),?_⟩;have hN2:=hkp.out.2 _ _ _ (yj hbv.out HB.out) (by decide);refine⟨rfl,?_,?_⟩
  ·rw[HA.out]
   refine⟨some ⟨gg,0,none⟩,cap,?_,?_⟩
   ·have:=yg (o:=1) hN2 (.slice (some ⟨gg,0,none⟩) (l.length+1) cap)
    rw[List.length_append];exact this
   ·have:=yw (o:=1) hown.out hN2 (by decide) (.slice (some ⟨gg,0,none⟩) (l.length+1) cap)
    rw[List.length_append] at this |-;exact this
  ·exact⟨((hbv.out.mono (by omega)).trans hkp.out.1).setCell hB _,fun g t arr q e n=>yW (hkp.out.2 _ _ _ (yj hbv.out q) e) n _⟩
theorem ybO (B b:Nat)(k:Int)(l:List Pr)(key:ByteArray)(kk:List UInt8)(n un d:Int)(w:World)(h:Hid (NB B w b k l))(htb:Hid (Tab w))(hk:Hid (bb kk=key))(hks:key.size<=100)(hd:Hid (ycA k [] kk=d))(hB:B<=b)(hl:l.length<=1000)(h0:-268435456<=n*un/\n*un<=268435456)(h1:-268435456<=d*un/\d*un<=268435456) :
    Calls Tryz.prog 70 #[.pointer (some ⟨b,0,none⟩),.string key,.int .i64 n,.int .i64 un] w fun e w'=>e=.returned (.tuple #[])/\NB B w' b k (ybw l kk (yJ (n*un)) (yJ (d*un)))/\KpN B b w w':=by
 obtain⟨ao,ac,hb,hrow⟩:=id h.out;have c0:=bc 0 hb;have hlt:=yP hb;have hwr:IntKind.i64.wrap (n*un)=n*un:=IntWalk.i64_in _ (by omega);have hwd:IntKind.i64.wrap (d*un)=d*un:=IntWalk.i64_in _ (by omega);have HD:Hid (ycA k [] key.data.toList=d):=Lh (by rw[<- hk.out];exact hd.out);have hms:key.size<=maxLen:=Nat.le_trans hks (by decide);clear hb hrow;go_enter func70,ntmps70;go_wp2_with fail
 refine(yoW k (.slice none 0 0) [] key d w (Lh (Prs.nil w)) (by decide) hms HD).mono ?_;rintro e w1 ⟨rfl,hb1⟩;have HB1:=Lh hb1;clear hb1 c0;go_wp2_with fail
 refine(yfU (n*un) w1 (by omega) (by omega) (yt htb.out HB1.out)).mono ?_;rintro e w2 ⟨rfl,hb2⟩;have HB2:=Lh (ya hb2 HB1.out);clear hb2 HB1;go_wp2_with fail
 refine(yfU (d*un) w2 (by omega) (by omega) (yt htb.out HB2.out)).mono ?_;rintro e w3 ⟨rfl,hb3⟩;have HB3:=Lh (ya hb3 HB2.out);clear hb3 HB2;go_wp2_with fail
 refine(ydC B b k l key ⟨(yJ (n*un)).toArray⟩ ⟨(yJ (d*un)).toArray⟩ kk (yJ (n*un)) (yJ (d*un)) w3 (Lh (h.out.below HB3.out)) hk (Lh rfl) (Lh rfl) hB hl).mono ?_;rintro e w4 ⟨rfl,hn4,hk4⟩;have HN:=Lh hn4;have HK:=Lh ((KpN.below (b:=b) HB3.out (by omega)).trans hk4);clear hn4 hk4;go_wp2;refine⟨rfl,Value.tuple #[],(by simp[results,go_sem,results70]),?_⟩;exact⟨rfl,HN.out,HK.out⟩
end Go.Proofs.YtgmidodmmlmmeaaGreatDoor.xpt
namespace Go.Proofs.YtgmidodmmlmmeaaGreatDoor.xpt
open Go.RowKit lex tre att nor
def RS (B:Nat)(W:World)(v:Value)(D:List Sv):Prop:=W.ownsRow B 67 5 v D.length (D.flatMap svC)/\∀ x∈D,elS B W v.ownBlock x
theorem RS.nil (B:Nat)(W:World):RS B W (.slice none 0 0) []:=⟨World.ownsRow_nil ..,fun x hx=>by cases hx⟩
theorem RS.form {B:Nat}{W:World}{v:Value}{D:List Sv}(h:RS B W v D):∃ ao cap,v=.slice ao D.length cap:=by
 obtain⟨ao,cap,e,-,-⟩:=yu h.1;exact⟨ao,cap,e⟩
theorem elS.below {lo0:Nat}{w w':World}{ob:Option Nat}{x:Sv}(h:elS lo0 w ob x)(hb:Below w.heap.size w w'):elS lo0 w' ob x:=by
 obtain⟨lo,hi,h1,h2,h3,h4⟩:=h;exact⟨lo,hi,h1,Nat.le_trans h2 hb.size,h3,fun W hW=>h4 W fun q q1 q2=>by rw[hW q q1 q2];exact hb.block q (by omega)⟩
theorem RS.below {B:Nat}{W W':World}{v:Value}{D:List Sv}(h:RS B W v D)(hb:Below W.heap.size W W'):RS B W' v D:=⟨yr h.1 hb,fun x hx=>(h.2 x hx).below hb⟩
theorem RS.pk {B R:Nat}{W W':World}{v:Value}{D:List Sv}(h:RS B W v D)(hb:Pk R W W')(hR:R<B):RS B W' v D:=⟨hb.own hR h.1,fun x hx=>(h.2 x hx).later hb hR⟩
theorem RS.lt {B:Nat}{W:World}{v:Value}{D:List Sv}(h:RS B W v D):∀ q,v.ownBlock=some q->B<=q/\q<W.heap.size:=fun q e=>World.ownsRow.lt h.1 q e
theorem VSt.el {B:Nat}{W W':World}{v y:Value}{D:List Sv}{s:St}(h:VSt s W W' y)(hr:RS B W v D)(hB:B<=W.heap.size) :
    ∃ ro rc ao ac bo bc,y=.agg #[.int .i64 s.kind,.string (bb s.name),.slice ro s.refs.length rc,.slice ao s.attrs.length ac,.slice bo s.body.length bc]/\elS B W' v.ownBlock ⟨s,.slice ro s.refs.length rc,.slice ao s.attrs.length ac,.slice bo s.body.length bc⟩:=by
 obtain⟨ro,rc,ao,ac,bo,bc,e,hW⟩:=h;exact⟨ro,rc,ao,ac,bo,bc,e,W.heap.size,W'.heap.size,hB,Nat.le_refl _,fun q hq h2=>by have:=hr.lt q hq;omega,hW⟩
theorem RS.app {B g cap:Nat}{w w':World}{v:Value}{D:List Sv}{x:Sv}(h:RS B w v D)(hx:elS B w v.ownBlock x)(ho:w'.ownsRow B 67 5 (.slice (some ⟨g,0,none⟩) (D.length+1) cap) (D++[x]).length ((D++[x]).flatMap svC))(hg:w.grownBy w' v.ownBlock)(hat:v.ownBlock=some g\/w.heap.size<=g):RS B w' (.slice (some ⟨g,0,none⟩) (D.length+1) cap) (D++[x]) :=
 ⟨ho,fun y hy=>by
  rcases List.mem_append.1 hy with q | q
  ·exact(h.2 y q).app hg hat hg.size
  ·rw[List.mem_singleton.1 q];exact hx.app hg hat hg.size⟩
theorem yoX {w:World}{ops:Array Oper}{rest:List Oper}{o:Oper}{a:Act}{Q:Exit->Act->World->Prop}(hg:o.guard=none)(p y:Operand)(ho:o.op=.call { callee:=.builtin .append,args:=#[p,y],argTypes:=#[31,31] })
    (B:Nat) (v:Value) (D:List Sv) (x:Sv) (k:Int) (n:ByteArray) (rv av bv:Value) (ex:svC x=[.int .i64 k,.string n,rv,av,bv]) (H:Nat) (hH:w.heap.size=H) (hs:a.eval p=v) (hx:a.eval y=.slice (some ⟨H,0,none⟩) 1 1) (h:Hid (RS B w v D)) (he:Hid (elS B w v.ownBlock x)) (hl:D.length<=1000000) (hB:B<=w.heap.size) (h1:rv.oneCell'=true/\av.oneCell'=true/\bv.oneCell'=true)
    (hK:∀ g cap w',Hid (RS B w' (.slice (some ⟨g,0,none⟩) (D.length+1) cap) (D++[x]))->Hid (w.grownBy w' v.ownBlock)->wpList Tryz.prog ops Q rest (a.put o.dst (.slice (some ⟨g,0,none⟩) (D.length+1) cap)) w'):wpList Tryz.prog ops Q (o::rest) a (w.alloc (.cells #[.int .i64 k,.string n,rv,av,bv] 67)) :=
 ysQ hg p y ho B v D x k n rv av bv ex H hH hs hx (Lh h.out.1) hl hB h1 fun g cap w' ho hg hat=>hK g cap w' (Lh (h.out.app he.out ho hg hat)) (Lh hg)
theorem yid {B:Nat}{V V':World}{v:Value}{D:List Sv}(h:RS B V v D)(hg:V.grownBy V' v.ownBlock)(hB:B<=V.heap.size):Below B V V':=ybi h.1 hg hB
theorem yqB {B g:Nat}{V V':World}{v:Value}{D:List Sv}{t:TypeId}{arr:Array Value}(h:RS B V v D)(hg:V.grownBy V' v.ownBlock)(hk:blk V g t arr)(ht:t≠67):blk V' g t arr:=yb4 h.1 hg hk ht
end Go.Proofs.YtgmidodmmlmmeaaGreatDoor.xpt
namespace Go.Proofs.YtgmidodmmlmmeaaGreatDoor.xpt
open Go.RowKit lex tre att nor _root_.Go.Proofs.Tryz
theorem RS.lower {B B':Nat}{W:World}{v:Value}{D:List Sv}(h:RS B' W v D)(hB:B<=B'):RS B W v D :=
 ⟨⟨h.1.1,h.1.2.imp id fun⟨g,cap,cur,e,h1,h2⟩=>⟨g,cap,cur,e,Nat.le_trans hB h1,h2⟩⟩,fun x hx=>by
  obtain⟨lo,hi,h1,h2⟩:=h.2 x hx
  exact⟨lo,hi,Nat.le_trans hB h1,h2⟩⟩
theorem yag {W:World}{g:Nat}{t:TypeId}{a0 a1 a2:Value}(h:blk W g t #[a0,a1,a2])(c0 c1 c2:Value):blk (((W.setCell ⟨g,0,none⟩ c0).setCell ⟨g,1,none⟩ c1).setCell ⟨g,2,none⟩ c2) g t #[c0,c1,c2]:=by
 have h0:blk (W.setCell ⟨g,0,none⟩ c0) g t #[c0,a1,a2]:=yg h c0;have h1:blk ((W.setCell ⟨g,0,none⟩ c0).setCell ⟨g,1,none⟩ c1) g t #[c0,c1,a2]:=yg h0 c1;exact yg h1 c2
theorem yA {B:Nat}{a W:World}{g:Nat}(h:Below B a W)(hg:B<=g)(c0 c1 c2:Value):Below B a (((W.setCell ⟨g,0,none⟩ c0).setCell ⟨g,1,none⟩ c1).setCell ⟨g,2,none⟩ c2):=((h.setCell hg _).setCell hg _).setCell hg _
theorem ycV {W:World}{b g:Nat}{t:TypeId}{arr:Array Value}(h:blk W b t arr)(hb:b≠g)(c0 c1 c2:Value):blk (((W.setCell ⟨g,0,none⟩ c0).setCell ⟨g,1,none⟩ c1).setCell ⟨g,2,none⟩ c2) b t arr:=yW (yW (yW h hb _) hb _) hb _
theorem yfn {w:World}(ty B:Nat)(v:Value)(D:List Sv)(h:w.ownsRow B 67 5 v D.length (D.flatMap svC))(ao:Option Addr)(c:Nat):(Builtin.append_ #[31,31] ty #[v,.slice ao 0 c]).run Tryz.prog w=.ok v w:=by
 obtain⟨i0,hi,_,_,_⟩:=ycg;have hu:=run_underlying underlying31;have hl:∀ A:Addr,(loadCells A 0).run Tryz.prog w=.ok #[] w:=fun _=>rfl
 rcases h.2 with ⟨rfl,_⟩ | ⟨g,cap,cur,rfl,_,_,hnc,_⟩
 ·cases ao <;> simp[Builtin.append_,hu,sizeOf,typeInfo,hi,Builtin.lenOf,Builtin.firstCells,hl,Result.andThen]
 ·cases ao <;> simp[Builtin.append_,hu,sizeOf,typeInfo,hi,Builtin.lenOf,Builtin.firstCells,hnc,storeCells,hl,Result.andThen]
end Go.Proofs.YtgmidodmmlmmeaaGreatDoor.xpt
namespace Go.Proofs.YtgmidodmmlmmeaaGreatDoor.xpt
open Go.RowKit lex tre att nor
theorem ymu (g:gra.Gr)(n k:Nat):inC g n k=((gra.memsK g k g.ns.length).contains (n:Int)||(gra.memsK g k g.ns.length).isEmpty):=by
 unfold inC gra.memsK gra.mems
 congr 1
 ·rw[Bool.eq_iff_iff,List.contains_iff_mem,List.contains_iff_mem,List.mem_map]
  constructor
  ·exact fun h=>⟨n,h,rfl⟩
  ·rintro⟨m,h,e⟩
   have:m=n:=by omega
   rw[<- this];exact h
 ·rw[List.isEmpty_map]
def ndV (x:gra.Nd)(pv:Value):Value:=.agg #[.string (bb x.nm),.string (bb x.lb),.int .i64 x.w,.int .i64 x.h,.int .i64 x.cl,pv]
def rfV (r:Pr):Value:=.agg #[.string (bb r.1),.string (bb r.2)]
theorem yrK {W:World}{g:Nat}{t:TypeId}{x y:Pr}(h:blk W g t #[.string (bb x.1),.string (bb x.2),.string (bb y.1),.string (bb y.2)])(h1:x.1.length<=maxLen)(h2:x.2.length<=maxLen)(h3:y.1.length<=maxLen)(h4:y.2.length<=maxLen):Prs W (.slice (some ⟨g,0,none⟩) 2 2) [x,y]:=by
 refine⟨_,2,rfl,Nat.le_refl _,by decide,fun _=>⟨_,rfl,fun i hi=>?_⟩⟩;have:i=0\/i=1:=by simp at hi;omega
 rcases this with rfl | rfl
 ·exact⟨by rw[gra.add_at,yd h];rfl,by show W.cell? ⟨g,_,none⟩=_;rw[yd h];rfl,h1,h2⟩
 ·exact⟨by rw[gra.add_at,yd h];rfl,by show W.cell? ⟨g,_,none⟩=_;rw[yd h];rfl,h3,h4⟩
def ndC (W:World)(A:Addr)(x:gra.Nd)(po:Option Addr)(pc:Nat):Prop :=
 W.cell? A=some (.string (bb x.nm))/\W.cell? ⟨A.block,A.off+1,none⟩=some (.string (bb x.lb))/\W.cell? ⟨A.block,A.off+2,none⟩=some (.int .i64 x.w)/\W.cell? ⟨A.block,A.off+3,none⟩=some (.int .i64 x.h)/\W.cell? ⟨A.block,A.off+4,none⟩=some (.int .i64 x.cl)/\W.cell? ⟨A.block,A.off+5,none⟩=some (.slice po x.ps.length pc)
theorem yo3 {w:World}{no:Option Addr}{nc:Nat}{l:List gra.Nd}(h:gra.Nds w (.slice no l.length nc) l){i:Nat}(hi:i<l.length):∃ A,no=some A/\∃ po pc,ndC w (A.add (i*6)) l[i] po pc/\gra.Pts w (.slice po l[i].ps.length pc) l[i].ps/\l[i].nm.length<=maxLen:=by
 obtain⟨_,_,e,-,-,h2⟩:=h;cases e
 obtain⟨A,rfl,h3⟩:=h2 (by omega);obtain⟨q0,q1,q2,q3,q4,⟨pv,q5,q6⟩,q7,-⟩:=h3 i hi;obtain⟨po,pc,rfl,-,-,-⟩:=id q6;exact⟨A,rfl,po,pc,⟨q0,q1,q2,q3,q4,q5⟩,q6,q7⟩
theorem ndC.keep {w w':World}{A:Addr}{x:gra.Nd}{po:Option Addr}{pc:Nat}(h:ndC w A x po pc)(hb:Below w.heap.size w w'):ndC w' A x po pc :=
 ⟨yb hb h.1,yb hb h.2.1,yb hb h.2.2.1,yb hb h.2.2.2.1,yb hb h.2.2.2.2.1,yb hb h.2.2.2.2.2⟩
end Go.Proofs.YtgmidodmmlmmeaaGreatDoor.xpt
namespace Go.Proofs.YtgmidodmmlmmeaaGreatDoor.xpt
open Go.RowKit Go.Sort lex tre att nor
theorem yti {w:World}{co:Option Addr}{cc:Nat}{l:List gra.Cl}(h:gra.Cls w (.slice co l.length cc) l){i:Nat}(hi:i<l.length):∃ A,co=some A/\w.cell? (A.add (i*2))=some (.string (bb l[i].1))/\w.cell? ⟨(A.add (i*2)).block,(A.add (i*2)).off+1,none⟩=some (.int .i64 l[i].2)/\l[i].1.length<=maxLen:=by
 obtain⟨_,_,e,-,-,h2⟩:=h;cases e
 obtain⟨A,rfl,h3⟩:=h2 (by omega);obtain⟨q0,q1,q2,-⟩:=h3 i hi;exact⟨A,rfl,q0,q1,q2⟩
def yiZ (W:World)(R o:Nat):Nat:=match W.cell? ⟨R,o,none⟩ with
 | some (.int _ i)=>i.toNat
 | _=>0
end Go.Proofs.YtgmidodmmlmmeaaGreatDoor.xpt
namespace Go.Proofs.YtgmidodmmlmmeaaGreatDoor.xpt
open Go.RowKit lex tre att nor
end Go.Proofs.YtgmidodmmlmmeaaGreatDoor.xpt
namespace Go.Proofs.YtgmidodmmlmmeaaGreatDoor.xpt
open Go.RowKit Go.Sort lex tre att nor
def TroO (T:Tr)(E:Int)(w:World)(e:Ending)(w':World):Prop:=∃ tv,e=.returned (.tuple #[tv,.int .i64 E])/\TrV w' tv T/\Below w.heap.size w w'
theorem yj4 (w:World):TrV w (.agg #[.string ⟨#[]⟩,.bool false,.slice none 0 0]) emT:=⟨_,rfl,Nat.zero_le _,Sts.nil w⟩
theorem yhc (g:gra.Gr)(o:Op')(hg:GV g):cnt (yZ g o).body<=400:=by
 have h1:=yg3 g (g.ns.length+g.cs.length+1) (-1) 0 0 (Nat.zero_le _) (Nat.zero_le _);have h2:=ych g (g.ns.length+g.cs.length+1) (-1) 0 0 (Nat.zero_le _) (Nat.zero_le _);have h3:=hg.nl;have h4:=hg.el;have h5:=hg.cl
 have h6:cnt (g.es.map (ya8 g.ns))=g.es.length:=by
  generalize g.es=es;clear h4
  induction es with
  | nil=>rfl
  | cons e t ih=>rw[List.map_cons,yaI,ih,List.length_cons];show 1+0+_=_;omega
 have h7:cnt (yfF o)<=5:=by
  unfold yfF;simp only[ybE]
  have h8:∀ (P:Prop) [Decidable P] (k v:List UInt8),cnt (if P then [] else [yfL k v])<=1:=fun P _ k v=>by
   split
   ·exact Nat.zero_le _
   ·exact Nat.le_refl _
  have a1:=h8 (o.mode=0) ycv (ya6.getD o.mode.toNat []);have a2:=h8 (o.ns=10000) yam (yJ o.ns);have a3:=h8 (o.rs=20000) yan (yJ o.rs);have a4:=h8 (o.mg=5000) yaM (yJ o.mg);have a5:=h8 (o.rd=8) yaN (yJ (1000*o.rd));omega
 show cnt (yfF o++((ybI g).1++g.es.map (ya8 g.ns)))<=400
 rw[ybE,ybE,h6];have:(ybI g).1=(yR g (g.ns.length+g.cs.length+1) (-1) 0 0).1:=rfl;rw[this];omega
end Go.Proofs.YtgmidodmmlmmeaaGreatDoor.xpt
namespace Go.Proofs.YtgmidodmmlmmeaaGreatDoor.xpt
open Go.RowKit lex tre att nor _root_.Go.Proofs.Tryz
theorem ydD (P:Prop)[Decidable P](a:Pr):(if P then [] else [a]).map (fun a:Pr=>yfL a.1 a.2)=(if P then [] else [yfL a.1 a.2]):=by
 by_cases h:P <;> simp[h]
theorem yo5 (o:Op'):(yrb o).map (fun a:Pr=>yfL a.1 a.2)=yfF o:=by
 unfold yrb yfF;rw[List.map_append,List.map_append,List.map_append,List.map_append,ydD,ydD,ydD,ydD,ydD]
theorem yo6 {m:Int}(h0:0<=m)(h4:m<=4):ya6.getD m.toNat []=ya6.getD (0:Int).toNat []↔m=0:=by
 refine⟨fun h=>?_,fun h=>by rw[h]⟩;have h1:=ye8 h0 h4;have h2:=ye8 (m:=0) (by omega) (by omega);rw[h] at h1;rw[<- h1,h2]
theorem yrL {o:Op'}(h:OpV o):ybw (ybw (ybw (ybw (ybw [] ycv (ya6.getD o.mode.toNat []) (ya6.getD (0:Int).toNat [])) yam (yJ (o.ns*1)) (yJ (10000*1))) yan (yJ (o.rs*1)) (yJ (20000*1))) yaM (yJ (o.mg*1)) (yJ (5000*1))) yaN (yJ (o.rd*1000)) (yJ (8*1000))=yrb o:=by
 have h1:=h.md;have h2:=h.ns;have h3:=h.rs;have h4:=h.mg;have h5:=h.rd;have e2:yJ (o.ns*1)=yJ (10000*1)↔o.ns=10000:=by rw[ycK (by omega) (by omega)];omega
 have e3:yJ (o.rs*1)=yJ (20000*1)↔o.rs=20000:=by rw[ycK (by omega) (by omega)];omega
 have e4:yJ (o.mg*1)=yJ (5000*1)↔o.mg=5000:=by rw[ycK (by omega) (by omega)];omega
 have e5:yJ (o.rd*1000)=yJ (8*1000)↔o.rd=8:=by rw[ycK (by omega) (by omega)];omega
 rw[yaV (yo6 h1.1 h1.2),yaV e2,yaV e3,yaV e4,yaV e5];unfold yrb;rw[Int.mul_comm o.rd,Int.mul_one,Int.mul_one,Int.mul_one];simp only[List.append_assoc,List.nil_append]
theorem yo7 {o:Op'}(h:OpV o):∀ r∈yrb o,r.1.length<=maxLen/\r.2.length<=maxLen:=by
 have h1:=h.md;have h2:=h.ns;have h3:=h.rs;have h4:=h.mg;have h5:=h.rd
 have hm:(ya6.getD o.mode.toNat []).length<=maxLen:=by
  have:o.mode=0\/o.mode=1\/o.mode=2\/o.mode=3\/o.mode=4:=by omega
  rcases this with e | e | e | e | e <;> rw[e] <;> decide
 have f2:=ycz o.ns (by omega) (by omega);have f3:=ycz o.rs (by omega) (by omega);have f4:=ycz o.mg (by omega) (by omega);have f5:=ycz (1000*o.rd) (by omega) (by omega);have hM:100<=maxLen:=by decide
 intro r hr;unfold yrb at hr
 rcases List.mem_append.1 hr with q | q
 ·rw[(yM q).1];exact⟨(show ycv.length<=maxLen by decide),hm⟩
 rcases List.mem_append.1 q with q | q
 ·rw[(yM q).1];exact⟨(show yam.length<=maxLen by decide),by simp only;omega⟩
 rcases List.mem_append.1 q with q | q
 ·rw[(yM q).1];exact⟨(show yan.length<=maxLen by decide),by simp only;omega⟩
 rcases List.mem_append.1 q with q | q
 ·rw[(yM q).1];exact⟨(show yaM.length<=maxLen by decide),by simp only;omega⟩
 ·rw[(yM q).1];exact⟨(show yaN.length<=maxLen by decide),by simp only;omega⟩
theorem yj5 (o:Op')(w:World)(ho:Hid (okO o=true))(htb:Hid (Tab w)) :
    Calls Tryz.prog 30 #[opV o] w fun e w'=>(∃ v D,e=.returned v/\RS w.heap.size w' v D/\D.map Sv.s=yfF o)/\Below w.heap.size w w':=by
 have hv:=ylO ho.out;have HEQ:=Lh (yrL hv);have HMX:=Lh (yo7 hv);have HMP:=Lh (yo5 o);obtain⟨md,ns,rs,mg,rd⟩:=o;obtain⟨m0,m1⟩:=hv.md;obtain⟨n0',n1⟩:=hv.ns;obtain⟨r0,r1⟩:=hv.rs;obtain⟨g0,g1⟩:=hv.mg;obtain⟨d0,d1⟩:=hv.rd;simp only at m0 m1 n0' n1 r0 r1 g0 g1 d0 d1;clear hv ho;unfold opV;simp only;have HB1:=Lh (al1 w (.cells #[.int .i64 md,.int .i64 ns,.int .i64 rs,.int .i64 mg,.int .i64 rd] 28));have HK1:=Lh (yl w #[.int .i64 md,.int .i64 ns,.int .i64 rs,.int .i64 mg,.int .i64 rd] 28);have HQ1:Hid ((w.alloc (.cells #[.int .i64 md,.int .i64 ns,.int .i64 rs,.int .i64 mg,.int .i64 rd] 28)).heap.size=w.heap.size+1):=Lh (by simp);go_enter func30,ntmps30;go_wp2_with fail
 generalize w.alloc (.cells #[.int .i64 md,.int .i64 ns,.int .i64 rs,.int .i64 mg,.int .i64 rd] 28)=w1 at HB1 HK1 HQ1 |-;have hq1:=HQ1.out;have hlb0:=NB.new (B:=w.heap.size+1) w1 4;have hbl:=al1 w1 (.cells #[.int .i64 4,.slice none 0 0] 132);generalize w1.alloc (.cells #[.int .i64 4,.slice none 0 0] 132)=w2 at hlb0 hbl |-;rw[hq1] at hlb0 hbl
 try simp only[hq1]
 obtain⟨n0,hn0⟩:∃ n0,w.heap.size=n0:=⟨_,rfl⟩
 have hke2:blk w2 n0 28 #[.int .i64 md,.int .i64 ns,.int .i64 rs,.int .i64 mg,.int .i64 rd]:=yj (show Below w1.heap.size w1 w2 by rw[hq1];exact hbl) (by rw[<- hn0];exact HK1.out);have hb2:Below w.heap.size w w2:=HB1.out.trans (hbl.mono (by omega));rw[hn0] at hlb0;simp only[hn0];have HN0:=Lh hn0;have HNB2:=Lh hlb0;have HKE2:=Lh hke2;have HB2:=Lh hb2;have hz2:n0+2<=w2.heap.size:=by obtain⟨_,_,q,-⟩:=hlb0;exact yP q
 clear hlb0 hbl hke2 hb2 HB1 HK1 HQ1 hq1 hn0;obtain⟨S1,hS1⟩:∃ S,bb (ya6.getD md.toNat [])=S:=⟨_,rfl⟩
 obtain⟨S0,hS0⟩:∃ S,bb (ya6.getD (0:Int).toNat [])=S:=⟨_,rfl⟩
 have HS1:=Lh hS1;have HS0:=Lh hS0;clear hS1 hS0;have c0:=bc 0 HKE2.out;go_wp2_with fail
 refine(yjA md S1 w2 m0 m1 HS1).mono ?_;rintro e x1 ⟨rfl,hx1⟩;have HX1:=Lh hx1;clear hx1 c0;go_wp2_with fail
 refine(yjA 0 S0 x1 (by decide) (by decide) HS0).mono ?_;rintro e x2 ⟨rfl,hx2⟩;have HX2:=Lh (ya hx2 HX1.out);clear hx2 HX1;go_wp2_with fail
 have hzx:n0+2<=x2.heap.size:=by have:=HX2.out.size;omega
 have HNBx:=Lh (HNB2.out.below HX2.out);have HKEx:=Lh (yj HX2.out HKE2.out);have HBx:=Lh (HB2.out.trans (HX2.out.mono (by have:=HN0.out;omega)));clear HX2 HKE2 HNB2;refine(ydC (n0+1) (n0+1) 4 [] ⟨#[109,111,100,101]⟩ S1 S0 ycv (ya6.getD md.toNat []) (ya6.getD (0:Int).toNat []) x2 HNBx (Lh rfl) HS1 HS0 (Nat.le_refl _) (by decide)).mono ?_;rintro e w3 ⟨rfl,hnb,hkp⟩;have HNB3:=Lh hnb;have HKE3:=Lh (hkp.2 _ _ _ HKEx.out (by decide) (by omega));have HB3:=Lh (HBx.out.trans (hkp.1.mono (by have:=HN0.out;omega)));have hz3:n0+2<=w3.heap.size:=by obtain⟨_,_,q,-⟩:=hnb;exact yP q
 clear hnb hkp;have hl3:(ybw [] ycv (ya6.getD md.toNat []) (ya6.getD (0:Int).toNat [])).length<=1:=by have:=yaW [] ycv (ya6.getD md.toNat []) (ya6.getD (0:Int).toNat []);first | omega | (simp only[List.length_nil] at this;omega)
 obtain⟨l3,hl3'⟩:∃ l,ybw [] ycv (ya6.getD md.toNat []) (ya6.getD (0:Int).toNat [])=l:=⟨_,rfl⟩
 rw[hl3'] at hl3 HNB3;have HL3:=Lh hl3';clear hl3';have c1:=bc 1 HKE3.out;go_wp2_with fail
 refine(ybO (n0+1) (n0+1) 4 l3 ⟨#[110,111,100,101,115,101,112]⟩ yam ns 1 10000 w3 HNB3 (Lh (yt htb.out HB3.out)) (Lh rfl) (by decide) (Lh rfl) (Nat.le_refl _) (by omega) (by omega) (by omega)).mono ?_;rintro e w4 ⟨rfl,hnb,hkp⟩;have HNB4:=Lh hnb;have HKE4:=Lh (hkp.2 _ _ _ HKE3.out (by decide) (by omega));have HB4:=Lh (HB3.out.trans (hkp.1.mono (by have:=HN0.out;omega)));have hz4:n0+2<=w4.heap.size:=by obtain⟨_,_,q,-⟩:=hnb;exact yP q
 clear hnb hkp;clear c1;have hl4:(ybw l3 yam (yJ (ns*1)) (yJ (10000*1))).length<=2:=by have:=yaW l3 yam (yJ (ns*1)) (yJ (10000*1));first | omega | (simp only[List.length_nil] at this;omega)
 obtain⟨l4,hl4'⟩:∃ l,ybw l3 yam (yJ (ns*1)) (yJ (10000*1))=l:=⟨_,rfl⟩
 rw[hl4'] at hl4 HNB4;have HL4:=Lh hl4';clear hl4';have c2:=bc 2 HKE4.out;go_wp2_with fail
 refine(ybO (n0+1) (n0+1) 4 l4 ⟨#[114,97,110,107,115,101,112]⟩ yan rs 1 20000 w4 HNB4 (Lh (yt htb.out HB4.out)) (Lh rfl) (by decide) (Lh rfl) (Nat.le_refl _) (by omega) (by omega) (by omega)).mono ?_;rintro e w5 ⟨rfl,hnb,hkp⟩;have HNB5:=Lh hnb;have HKE5:=Lh (hkp.2 _ _ _ HKE4.out (by decide) (by omega));have HB5:=Lh (HB4.out.trans (hkp.1.mono (by have:=HN0.out;omega)));have hz5:n0+2<=w5.heap.size:=by obtain⟨_,_,q,-⟩:=hnb;exact yP q
 clear hnb hkp;clear c2;have hl5:(ybw l4 yan (yJ (rs*1)) (yJ (20000*1))).length<=3:=by have:=yaW l4 yan (yJ (rs*1)) (yJ (20000*1));first | omega | (simp only[List.length_nil] at this;omega)
 obtain⟨l5,hl5'⟩:∃ l,ybw l4 yan (yJ (rs*1)) (yJ (20000*1))=l:=⟨_,rfl⟩
 rw[hl5'] at hl5 HNB5;have HL5:=Lh hl5';clear hl5';have c3:=bc 3 HKE5.out;go_wp2_with fail
 refine(ybO (n0+1) (n0+1) 4 l5 ⟨#[109,97,114,103,105,110]⟩ yaM mg 1 5000 w5 HNB5 (Lh (yt htb.out HB5.out)) (Lh rfl) (by decide) (Lh rfl) (Nat.le_refl _) (by omega) (by omega) (by omega)).mono ?_;rintro e w6 ⟨rfl,hnb,hkp⟩;have HNB6:=Lh hnb;have HKE6:=Lh (hkp.2 _ _ _ HKE5.out (by decide) (by omega));have HB6:=Lh (HB5.out.trans (hkp.1.mono (by have:=HN0.out;omega)));have hz6:n0+2<=w6.heap.size:=by obtain⟨_,_,q,-⟩:=hnb;exact yP q
 clear hnb hkp;clear c3;have hl6:(ybw l5 yaM (yJ (mg*1)) (yJ (5000*1))).length<=4:=by have:=yaW l5 yaM (yJ (mg*1)) (yJ (5000*1));first | omega | (simp only[List.length_nil] at this;omega)
 obtain⟨l6,hl6'⟩:∃ l,ybw l5 yaM (yJ (mg*1)) (yJ (5000*1))=l:=⟨_,rfl⟩
 rw[hl6'] at hl6 HNB6;have HL6:=Lh hl6';clear hl6';have c4:=bc 4 HKE6.out;go_wp2_with fail
 refine(ybO (n0+1) (n0+1) 4 l6 ⟨#[114,111,117,110,100,115]⟩ yaN rd 1000 8 w6 HNB6 (Lh (yt htb.out HB6.out)) (Lh rfl) (by decide) (Lh rfl) (Nat.le_refl _) (by omega) (by omega) (by omega)).mono ?_;rintro e w7 ⟨rfl,hnb,hkp⟩;have HNB7:=Lh hnb;have HKE7:=Lh (hkp.2 _ _ _ HKE6.out (by decide) (by omega));have HB7:=Lh (HB6.out.trans (hkp.1.mono (by have:=HN0.out;omega)));have hz7:n0+2<=w7.heap.size:=by obtain⟨_,_,q,-⟩:=hnb;exact yP q
 clear hnb hkp;clear c4;have hl7:(ybw l6 yaN (yJ (rd*1000)) (yJ (8*1000))).length<=5:=by have:=yaW l6 yaN (yJ (rd*1000)) (yJ (8*1000));first | omega | (simp only[List.length_nil] at this;omega)
 obtain⟨l7,hl7'⟩:∃ l,ybw l6 yaN (yJ (rd*1000)) (yJ (8*1000))=l:=⟨_,rfl⟩
 rw[hl7'] at hl7 HNB7;have HL7:=Lh hl7';clear hl7';have hA:l7=yrb ⟨md,ns,rs,mg,rd⟩:=by rw[<- HL7.out,<- HL6.out,<- HL5.out,<- HL4.out,<- HL3.out];exact HEQ.out
 have HA:=Lh hA;clear hA HL7 HL6 HL5 HL4 HL3 HEQ;have HBN:Hid (∀ r∈l7,r.1.length<=maxLen/\r.2.length<=maxLen):=Lh (by rw[HA.out];exact HMX.out);obtain⟨ao,ac,hbx,hrx⟩:=HNB7.out;have u1:=bc 1 hbx;have HPR:=Lh (ye0 hrx (Nat.le_refl (n0+1)) HBN.out w7 (agree.self _ _ _));obtain⟨b0,hb0⟩:∃ b0,w7.heap.size=b0:=⟨_,rfl⟩
 clear hbx hrx;go_wp2_with fail
 go_loopw [4,28] (fun lv iv wr=>∃ (k:Nat) (D:List Sv),iv=.int .i64 k/\k<=l7.length/\RS b0 wr lv D/\D.map Sv.s=(l7.take k).map (fun a:Pr=>yfL a.1 a.2)/\Below b0 w7 wr) (fun _ iv _=>l7.length-(intOf iv).toNat)
 case atStart=>exact⟨0,[],rfl,Nat.zero_le _,RS.nil _ _,rfl,Below.refl _ _⟩
 case round =>
  obtain⟨k,D,rfl,hk,hrs,hD,hbw⟩:=hrel
  rename World=>wr
  obtain⟨vo,vc,rfl⟩:=hrs.form;have hDk:D.length<=300:=by rw[<- List.length_map (f:=Sv.s),hD,List.length_map,List.length_take];omega
  have HRS:=Lh hrs;have HD:=Lh hD;have HBW:=Lh hbw;have hzr:=hbw.size;clear hrs hD hbw u1
  by_cases hlt:k<l7.length
  case neg =>
   obtain rfl:k=l7.length:=by omega
   go_wp2;go_ret;refine⟨⟨_,D,rfl,HRS.out.lower (by have:=HN0.out;omega),?_⟩,HB7.out.trans (HBW.out.mono (by have:=HN0.out;omega))⟩;rw[HD.out,List.take_length,HA.out];exact HMP.out
  have HTK:=Lh (ycQ hlt);have hb9:=HBN.out _ (List.getElem_mem hlt);obtain⟨A,rfl,q0,q1,-,-⟩:=(HPR.out.keep (show Below w7.heap.size w7 wr by rw[hb0];exact HBW.out)).get hlt;obtain⟨x,hx⟩:∃ x,l7[k]=x:=⟨_,rfl⟩
  rw[hx] at q0 q1 hb9 HTK;obtain⟨xk,xv⟩:=x;clear hx;simp only at q0 q1 hb9;have HB9:=Lh hb9;obtain⟨X,hX⟩:∃ X,bb xk=X:=⟨_,rfl⟩
  obtain⟨V,hV⟩:∃ X,bb xv=X:=⟨_,rfl⟩
  rw[hX] at q0;rw[hV] at q1;have HX:=Lh hX;have HV:=Lh hV;clear hX hV hb9;have z5:(0:Int)<=(k:Int):=by omega
  have z6:(k:Int)<(l7.length:Int):=by omega
  have HB8:Hid (Below wr.heap.size wr ((wr.alloc (.cells #[.string X,.string V] 69)).alloc (.cells #[.string ⟨#[]⟩,.string V] 69))):=Lh (ya (al1 (wr.alloc (.cells #[.string X,.string V] 69)) (.cells #[.string ⟨#[]⟩,.string V] 69)) (al1 wr (.cells #[.string X,.string V] 69)));have hq7:(wr.alloc (.cells #[.string X,.string V] 69)).heap.size=wr.heap.size+1:=by simp
  have hk8:=yl (wr.alloc (.cells #[.string X,.string V] 69)) #[.string ⟨#[]⟩,.string V] 69;have hq8:((wr.alloc (.cells #[.string X,.string V] 69)).alloc (.cells #[.string ⟨#[]⟩,.string V] 69)).heap.size=wr.heap.size+2:=by simp
  rw[hq7] at hk8;have HRS8:=Lh (HRS.out.below HB8.out)
  have HXX:Hid (elS b0 ((wr.alloc (.cells #[.string X,.string V] 69)).alloc (.cells #[.string ⟨#[]⟩,.string V] 69)) (Value.slice vo D.length vc).ownBlock ⟨yfL xk xv,.slice none 0 0,.slice (some ⟨wr.heap.size+1,0,none⟩) 1 1,.slice none 0 0⟩):=Lh (by
   refine⟨wr.heap.size,((wr.alloc (.cells #[.string X,.string V] 69)).alloc (.cells #[.string ⟨#[]⟩,.string V] 69)).heap.size,by omega,Nat.le_refl _,fun q hq h2=>?_,fun U hU=>?_⟩
   ·have:=(HRS.out.lt q hq).2;omega
   ·have hq:=ye1 (a:=[]) (b:=xv) (hU.blk (g:=wr.heap.size+1) (by omega) (by omega) (by rw[show bb xv=V from HV.out];exact hk8)) (show 0<=maxLen by decide) HB9.out.2
    exact⟨HB9.out.1,Prs.nil U,hq,Sts.nil U⟩)
  have HK8:=Lh hk8;have HQ8:=Lh hq8;clear hk8 hq8 hq7;have HXE:Hid (svC ⟨yfL xk xv,.slice none 0 0,.slice (some ⟨wr.heap.size+1,0,none⟩) 1 1,.slice none 0 0⟩=[.int .i64 4,.string X,.slice none 0 0,.slice (some ⟨wr.heap.size+1,0,none⟩) 1 1,.slice none 0 0]):=Lh (by show [_,Value.string (bb xk),_,_,_]=_;rw[show bb xk=X from HX.out];rfl)
  go_wp2_with (at_builtin;refine yoX rfl (.tmp 32) (.tmp 40) rfl b0 _ D ⟨yfL xk xv,.slice none 0 0,.slice (some ⟨wr.heap.size+1,0,none⟩) 1 1,.slice none 0 0⟩ 4 X _ _ _ HXE.out (wr.heap.size+1+1) HQ8.out rfl rfl HRS8 HXX (by omega) (by rw[HQ8.out];omega) ⟨rfl,rfl,rfl⟩ ?_;intro gg cap V hrs9 hg9)
  have hB9:=yid HRS8.out hg9.out (by rw[HQ8.out];omega);have HBW9:=Lh (HBW.out.trans ((HB8.out.mono (by omega)).trans hB9));clear hB9;go_wp2
  go_roundw
  case rel=>exact⟨k+1,D++[⟨yfL xk xv,.slice none 0 0,.slice (some ⟨wr.heap.size+1,0,none⟩) 1 1,.slice none 0 0⟩],by go_num,by omega,hrs9.out,by rw[List.map_append,HD.out,HTK.out,List.map_append];rfl,HBW9.out⟩
  case measure=>simp[intOf];omega
end Go.Proofs.YtgmidodmmlmmeaaGreatDoor.xpt
