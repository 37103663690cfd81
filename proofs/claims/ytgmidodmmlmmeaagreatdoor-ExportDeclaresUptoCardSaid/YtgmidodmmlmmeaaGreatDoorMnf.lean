/-
  Contracts and plain facts of the layers below; conditions as each theorem states them.
-/
import Derived.Test.YtgmidodmmlmmeaaGreatDoorMne
import Derived.Test.YtgmidodmmlmmeaaGreatDoorMtd
import Derived.Test.YtgmidodmmlmmeaaGreatDoorMgd
set_option maxHeartbeats 8000000
set_option maxRecDepth 100000
namespace Go.Proofs.YtgmidodmmlmmeaaGreatDoor.nor
open Go.RowKit lex tre att
def ShN (l:List gra.Nd):Prop:=∀ x∈l,x.nm.length<=16/\x.ps.length<=8/\∀ p∈x.ps,p.1.length<=16
end Go.Proofs.YtgmidodmmlmmeaaGreatDoor.nor
namespace Go.Proofs.YtgmidodmmlmmeaaGreatDoor.nor
open lex tre att
theorem ynv (m:List Pr):∀ (l:List Int) (rs:List Pr),∀ e∈yaz l rs m,e.fr∈l/\e.to∈l
 | a::b::t,r::q::u,e,h=>by
  rw[yaz] at h
  rcases List.mem_cons.1 h with rfl | h
  ·exact⟨List.mem_cons_self ..,List.mem_cons_of_mem _ (List.mem_cons_self ..)⟩
  ·obtain⟨h1,h2⟩:=ynv m (b::t) (q::u) e h
   exact⟨List.mem_cons_of_mem _ h1,List.mem_cons_of_mem _ h2⟩
 | [],_,_,h=>by simp[yaz] at h
 | [_],_,_,h=>by simp[yaz] at h
 | _::_::_,[],_,h=>by simp[yaz] at h
 | _::_::_,[_],_,h=>by simp[yaz] at h
def EnOk (s:Sta):Prop:=∀ e∈s.en,(0<=e.fr/\e.fr<s.ns.length)/\0<=e.to/\e.to<s.ns.length
theorem Rel.enOk {c:Bs}{s:Sta}(h:Rel c s):EnOk s:=fun e he=>by
 rw[h.en] at he;unfold enF at he;obtain⟨x,hx,hm⟩:=List.mem_flatMap.1 he;obtain⟨h1,h2⟩:=ynv _ _ _ e hm;obtain⟨r,hr,e1⟩:=List.mem_map.1 h1;obtain⟨q,hq,e2⟩:=List.mem_map.1 h2;have a:=h.kn x hx r hr;have b:=h.kn x hx q hq;have a2:=ygQ r.1 c.ns 0;have b2:=ygQ q.1 c.ns 0;rw[h.ns,<- e1,<- e2];exact⟨⟨a,by omega⟩,b,by omega⟩
theorem ykw (n:Nm):∀ (l:List (Nm × Int)) (i:Nat),yda l n i<(i:Int)+l.length
 | [],i=>by simp only[yda,List.length_nil];omega
 | x::t,i=>by
  unfold yda;rw[List.length_cons]
  split
  ·omega
  ·have:=ykw n t (i+1);omega
theorem yiB {l:List (Nm × Int)}{n:Nm}(hl:l.length<=8)(h:ycC l n≠-2):Sml (ycC l n):=by
 have h1:=yn6 l n;refine⟨by omega,?_⟩;unfold ycC
 split
 ·omega
 ·have:=ykw n l 0;omega
theorem yfC {N:List gra.Nd}(h:ShN N)(i:Int):(ybT N i).length<=8:=by
 unfold ybT
 split
 ·rename_i x hx
  exact(h x (List.mem_of_getElem? hx)).2.1
 ·exact Nat.zero_le _
theorem ytR {N:List gra.Nd}{e:En}(hs:ShN N)(hg:Ga 2 e.ats)(h1:Sml e.fr)(h2:Sml e.to)(hb:yhT (yeR N e)=false):WfD (yeR N e):=by
 unfold yhT at hb;rw[Bool.or_eq_false_iff,decide_eq_false_iff_not,decide_eq_false_iff_not] at hb;exact⟨yfA (Or.inr rfl) hg.1,h1,h2,yiB (yfC hs _) hb.1,yiB (yfC hs _) hb.2,yhx (k:=2) (l:=e.ats) (c:=yV) (by right;decide),yhx (k:=2) (l:=e.ats) (c:=yej) (by right;decide)⟩
def Va (l:List Pr):Prop:=∀ r∈l,r.2.length<=20000
theorem Va.merge {l m:List Pr}(h:Va l)(hm:Va m):Va (yB l m):=fun r hr=>by
 rcases List.mem_append.1 (ygF _ r hr) with q | q
 ·exact h r q
 ·exact hm r q
def VaP (p:Pl):Prop:=Va p.dn/\Va p.de
def VaR (s:Sta):Prop:=(∀ a∈s.ats,Va a)/\∀ e∈s.en,Va e.ats
theorem VaR.ment {s:Sta}{p:Pl}(h:VaR s)(hp:VaP p)(n:Nm):VaR (yN s n p):=by
 unfold yN
 split
 ·refine⟨fun a ha=>?_,h.2⟩
  rcases List.mem_append.1 ha with q | q
  ·exact h.1 a q
  ·rw[List.mem_singleton] at q;subst q;exact hp.1
 ·exact h
theorem VaR.refs {p:Pl}(hp:VaP p):∀ (l:List Pr) (s:Sta),VaR s->VaR (y7 l s p)
 | [],_,h=>h
 | r::t,s,h=>by
  unfold y7
  split
  ·exact h
  ·exact VaR.refs hp t _ (h.ment hp _)
theorem VaR.edges {s:Sta}{r a:List Pr}{p:Pl}(h:VaR s)(hp:VaP p)(ha:Va a):VaR (yaL s r a p):=by
 have h1:=VaR.refs hp r s h;unfold yaL
 split
 ·exact h1
 ·refine⟨h1.1,fun e he=>?_⟩
  rcases List.mem_append.1 he with q | q
  ·exact h1.2 e q
  ·rw[yhv _ _ _ e q];exact hp.2.merge ha
theorem VaR.chg {s:Sta}(h:VaR s)(i:Int){m:List Pr}(hm:Va m):VaR ⟨s.ns,ycB s.ats i m,s.cs,s.en,s.e⟩ :=
 ⟨fun a ha=>by
  rcases ygT m s.ats i a ha with q | ⟨b,hb,rfl⟩
  ·exact h.1 a q
  ·exact(h.1 b hb).merge hm,h.2⟩
theorem VaP.dflt {p:Pl}(h:VaP p)(k:Int)(n:Nm){a:List Pr}(ha:Va a):VaP (dflt k n a p):=by
 unfold nor.dflt
 split
 ·split
  ·exact⟨h.1.merge ha,h.2⟩
  ·exact⟨h.1,h.2.merge ha⟩
 ·exact h
theorem yqM {s:St}(h:okS s):Va s.attrs:=fun r hr=>by
 obtain⟨⟨lv,h⟩,-⟩:=h;have:=((yiA h).1 r hr).1;omega
theorem ysz:(∀ x:St,∀ (p:Pl) (s:Sta),okS x->okB x.body->VaP p->VaR s->VaR (ya9 x p s)) /\
    ∀ l:List St,∀ (p:Pl) (s:Sta),okB l->VaP p->VaR s->VaR (yX l p s):=by
 refine ya2 (fun k n r a b hb p s ho hk hp hs=>?_) (fun p s _ _ hs=>?_) (fun x t hx ht p s ho hp hs=>?_)
 ·have ha:Va a:=yqM ho
  simp only[St.body] at hk;rw[ya9]
  by_cases h1:k=1
  ·rw[if_pos h1];exact(hs.ment hp n).chg _ ha
  rw[if_neg h1]
  by_cases h2:k=2
  ·rw[if_pos h2];exact hs.edges hp ha
  rw[if_neg h2]
  by_cases h5:k=5
  ·rw[if_pos h5]
   by_cases hc:yaw s.cs n=true\/0<=yG s.ns n 0
   ·rw[if_pos hc];exact hs
   ·rw[if_neg hc];exact hb _ _ hk ⟨hp.1,hp.2⟩ hs
  ·rw[if_neg h5];exact hs
 ·rw[ybc];exact hs
 ·obtain⟨o1,o2,o3⟩:=ybN ho
  rw[yaR]
  split
  ·exact hs
  ·split
   ·exact hs
   ·exact ht _ _ o3 (hp.dflt _ _ (yqM o1)) (hx p s o1 o2 hp hs)
structure FinOk (s:Sta)(N:List gra.Nd):Prop where
 hN:N=List.zipWith ygJ s.ns s.ats
 len:s.ns.length=s.ats.length
 wf:∀ x∈N,WfN x
 sh:ShN N
 en:EnOk s
 cs:∀ x∈s.cs,x.1.length<=16/\Sml x.2
 ga:GaR s
 va:VaR s
 nl:s.ns.length<=3000000
 el:s.en.length<=3000000
theorem ytS {T:Tr}(hv:yab T=0)(hwl:wl T.body<=2900000)(he:(yX T.body pl0 st0).e=0):FinOk (yX T.body pl0 st0) (List.zipWith ygJ (yX T.body pl0 st0).ns (yX T.body pl0 st0).ats):=by
 have hoB:okB T.body:=yqq hv;have hcnt:cnt T.body<=512:=((yaO T).1 hv).2.1;have hsz0:sz bs0+wl T.body<=3000000:=by unfold sz bs0;simp only[List.length_nil];omega
 obtain⟨q1,q2⟩:=yq6.2 T.body pl0 bs0 st0 rel0;have hr:=q2 he;have hga:=ysX.2 T.body pl0 bs0 hoB ⟨Ga.nil 1,Ga.nil 2⟩ ⟨fun a ha=>(by cases ha),fun c hc=>(by cases hc)⟩;have hnm:=ysv.2 T.body pl0 bs0 hoB ⟨fun a ha=>(by cases ha),fun c hc=>(by cases hc)⟩;have hwf:=ysx.2 T.body pl0 bs0 hoB hsz0 ⟨by decide,by decide⟩ ⟨fun a ha=>(by cases ha),fun c hc=>(by cases hc)⟩;have hln:=yn7.2 T.body pl0 bs0 rfl;have hroom:=yku.2 T.body pl0 st0 0 hoB (by unfold Room st0;simp only[List.length_nil];omega);have hz:List.zipWith ygJ (yX T.body pl0 st0).ns (yX T.body pl0 st0).ats=ylH (yhS T.body pl0 bs0).1:=by unfold ylH;rw[hr.ns,hr.ats]
 refine⟨rfl,by rw[hr.ns,hr.ats];exact hln,?_,?_,hr.enOk,by rw[hr.cs];exact hwf.2,ynk.2 T.body pl0 st0 hoB ⟨Ga.nil 1,Ga.nil 2⟩ ⟨fun a ha=>(by cases ha),fun c hc=>(by cases hc)⟩,ysz.2 T.body pl0 st0 hoB ⟨fun r hr=>(by cases hr),fun r hr=>(by cases hr)⟩ ⟨fun a ha=>(by cases ha),fun c hc=>(by cases hc)⟩,hroom.1,hroom.2.2.1⟩
 ·rw[hz];exact nd_wf hnm hwf hga
 ·rw[hz];exact yp8 hnm
end Go.Proofs.YtgmidodmmlmmeaaGreatDoor.nor
namespace Go.Proofs.YtgmidodmmlmmeaaGreatDoor.nor
open Go.RowKit lex tre att
theorem ysA:(Tryz.prog.info? 61).map (fun i=>(i.zero,i.size,i.bytes))=some (some (.agg #[.int .i64 0,.int .i64 0,.int .i64 0,.int .i64 0,.string ⟨#[]⟩,.int .i64 0,.int .i64 0]),7,64):=by kernel_rfl
theorem ycN {n:Int}(h:Sml n):(Lit.int .i64 n).wf=true:=by
 obtain⟨h1,h2⟩:=h;have e1:IntKind.i64.min=-9223372036854775808:=by decide
 have e2:IntKind.i64.max=9223372036854775807:=by decide
 show (decide (IntKind.i64.min<=n)&&decide (n<=IntKind.i64.max))=true
 rw[e1,e2,Bool.and_eq_true,decide_eq_true_eq,decide_eq_true_eq];omega
theorem yjc {α β:Type}{c:Nat}{P:World->Addr->β->Prop}{f:α->List Value}{m:α->β}(hf:∀ x,(f x).length=c){w:World}{B:Nat}{t:TypeId}{v:Value}{l:List α}(hP:∀ (b o:Nat) (x:α),x∈l->(∀ j,j<c->w.cell? ⟨b,o+j,none⟩=(f x)[j]?)->P w ⟨b,o,none⟩ (m x))
    (h:w.ownsRow B t c v l.length (l.flatMap f)):gra.Rw c P w v (l.map m):=by
 by_cases h0:l.length=0
 ·obtain⟨ao,cap,rfl,h1,h2⟩:=yu h
  exact⟨ao,cap,by rw[List.length_map],by rw[List.length_map];exact h1,h2,fun hn=>by rw[List.length_map] at hn;omega⟩
 ·obtain⟨g,cap,arr,rfl,hB',hk,h1,h2,h3⟩:=yaE h (by omega)
  refine⟨_,cap,by rw[List.length_map],by rw[List.length_map];exact h1,h2,fun _=>⟨_,rfl,fun i hi=>?_⟩⟩;rw[List.length_map] at hi;rw[att.add_at,Nat.zero_add,List.getElem_map];refine hP _ _ _ (List.getElem_mem hi) fun j hj=>?_
  have hlt:i*c+j<l.length*c:=by
   have:(i+1)*c<=l.length*c:=Nat.mul_le_mul_right c hi;rw[Nat.add_mul] at this;omega
  rw[yd hk,h3 _ hlt,yac f c hf l i j hi hj]
theorem yfD {n k:Nat}(h:n<=k)(hk:k<=1000):n<=maxLen:=by unfold maxLen;omega
theorem ynw {w:World}{v:Value}{l:List att.Pt}(h:Pos w v l)(hl:∀ p∈l,p.1.length<=16/\Sml p.2):gra.Pts w v l:=by
 obtain⟨ao,cap,rfl,hc,hm,hA⟩:=h;refine⟨ao,cap,rfl,hc,hm,fun hn=>?_⟩;obtain⟨A,rfl,h2⟩:=hA hn;refine⟨A,rfl,fun i hi=>?_⟩;obtain⟨a1,a2⟩:=h2 i hi;obtain⟨q1,q2⟩:=hl _ (List.getElem_mem hi);exact⟨a1,a2,yfD q1 (by decide),ycN q2⟩
theorem yqa {w:World}{B:Nat}{v:Value}{L:List (gra.Nd × Value)}(h:Frow w B v L)(hp:∀ y∈L,PosT w y.2 y.1.ps)(hw:∀ x∈L.map (·.1),WfN x):gra.Nds w v (L.map (·.1)) :=
 yjc (f:=nfC) (m:=fun y=>y.1) (fun _=>rfl) (fun b o x hx hc=>by
  obtain⟨w1,w2,w3,w4,w5,w6⟩:=hw _ (List.mem_map_of_mem hx);refine⟨?_,hc 1 (by decide),hc 2 (by decide),hc 3 (by decide),hc 4 (by decide),⟨x.2,hc 5 (by decide),ynw (hp x hx).pos w6⟩,yfD w1 (by decide),yfD w2 (by decide),ycN w3,ycN w4,ycN w5⟩;have:=hc 0 (by decide)
  rwa [Nat.add_zero] at this) h
theorem yqb {w:World}{B:Nat}{v:Value}{l:List gra.Ed}(h:ysy w B v l)(hw:∀ x∈l,WfD x):gra.Eds w v l:=by
 have:=yjc (P:=gra.edAt) (f:=edC) (m:=fun y=>y) (fun _=>rfl) (fun b o x hx hc=>by
  obtain⟨w1,w2,w3,w4,w5,w6,w7⟩:=hw _ hx;refine⟨?_,hc 1 (by decide),hc 2 (by decide),hc 3 (by decide),hc 4 (by decide),hc 5 (by decide),hc 6 (by decide),yfD w1 (by decide),ycN w2,ycN w3,ycN w4,ycN w5,ycN w6,ycN w7⟩;have:=hc 0 (by decide)
  rwa [Nat.add_zero] at this) h
 rwa [List.map_id'] at this
theorem yqc {w:World}{B:Nat}{v:Value}{l:List Cl}(h:Crow w B v l)(hw:∀ x∈l,x.1.length<=16/\Sml x.2):gra.Cls w v l:=by
 have:=yjc (P:=gra.ptAt) (f:=clC) (m:=fun y=>y) (fun _=>rfl) (fun b o x hx hc=>by
  obtain⟨w1,w2⟩:=hw _ hx;refine⟨?_,hc 1 (by decide),yfD w1 (by decide),ycN w2⟩;have:=hc 0 (by decide)
  rwa [Nat.add_zero] at this) h
 rwa [List.map_id'] at this
def gbx (W:World)(g:Nat):Prop:=blk W g 26 #[.string ⟨#[]⟩,.bool false,.slice none 0 0,.slice none 0 0,.slice none 0 0]
theorem yiC (w:World):gra.GrV w (.agg #[.string ⟨#[]⟩,.bool false,.slice none 0 0,.slice none 0 0,.slice none 0 0]) emG:=⟨_,_,_,rfl,Nat.zero_le _,gra.Rw.nil _ _ w,gra.Rw.nil _ _ w,gra.Rw.nil _ _ w⟩
theorem ykx (w:World):PrsT w (.slice none 0 0) []:=⟨Prs.nil w,fun g hg=>by cases hg⟩
theorem ycO {W:World}{g:Nat}{a0 a1 a2 a3 a4:Value}(h:blk W g 26 #[a0,a1,a2,a3,a4])(c0 c1 c2 c3 c4:Value):blk (((((W.setCell ⟨g,0,none⟩ c0).setCell ⟨g,1,none⟩ c1).setCell ⟨g,2,none⟩ c2).setCell ⟨g,3,none⟩ c3).setCell ⟨g,4,none⟩ c4) g 26 #[c0,c1,c2,c3,c4]:=by
 have h0:blk (W.setCell ⟨g,0,none⟩ c0) g 26 #[c0,a1,a2,a3,a4]:=yg h c0;have h1:blk ((W.setCell ⟨g,0,none⟩ c0).setCell ⟨g,1,none⟩ c1) g 26 #[c0,c1,a2,a3,a4]:=yg h0 c1;have h2:blk (((W.setCell ⟨g,0,none⟩ c0).setCell ⟨g,1,none⟩ c1).setCell ⟨g,2,none⟩ c2) g 26 #[c0,c1,c2,a3,a4]:=yg h1 c2;have h3:blk ((((W.setCell ⟨g,0,none⟩ c0).setCell ⟨g,1,none⟩ c1).setCell ⟨g,2,none⟩ c2).setCell ⟨g,3,none⟩ c3) g 26 #[c0,c1,c2,c3,a4]:=yg h2 c3;exact yg h3 c4
theorem gcl {W:World}{g:Nat}{t:TypeId}{a0 a1 a2 a3 a4:Value}(h:att.blk W g t #[a0,a1,a2,a3,a4]):W.cell? ⟨g,0,none⟩=some a0/\W.cell? ⟨g,1,none⟩=some a1/\W.cell? ⟨g,2,none⟩=some a2/\W.cell? ⟨g,3,none⟩=some a3/\W.cell? ⟨g,4,none⟩=some a4 :=
 ⟨yd h,yd h,yd h,yd h,yd h⟩
theorem yaq {B:Nat}{a W:World}{g:Nat}(h:Below B a W)(hg:B<=g)(c0 c1 c2 c3 c4:Value):Below B a (((((W.setCell ⟨g,0,none⟩ c0).setCell ⟨g,1,none⟩ c1).setCell ⟨g,2,none⟩ c2).setCell ⟨g,3,none⟩ c3).setCell ⟨g,4,none⟩ c4):=((((h.setCell hg _).setCell hg _).setCell hg _).setCell hg _).setCell hg _
structure GrR (W:World)(B:Nat)(s:Bs)(L:List (gra.Nd × Value))(nv ev cv:Value)(es:List gra.Ed):Prop where
 fr:Frow W B nv L
 er:ysy W B ev es
 cr:Crow W B cv s.cs
 pv:∀ y∈L,PosT W y.2 y.1.ps
theorem GrR.set {W:World}{B:Nat}{s:Bs}{L:List (gra.Nd × Value)}{nv ev cv:Value}{es:List gra.Ed}{g o:Nat}{arr:Array Value}(h:GrR W B s L nv ev cv es)(hg:blk W g 26 arr)(u:Value):GrR (W.setCell ⟨g,o,none⟩ u) B s L nv ev cv es :=
 ⟨yw h.fr hg (by decide) _,yw h.er hg (by decide) _,yw h.cr hg (by decide) _,fun y hy=>yaX (h.pv y hy) hg (by decide) _⟩
theorem GrR.set5 {W:World}{B:Nat}{s:Bs}{L:List (gra.Nd × Value)}{nv ev cv:Value}{es:List gra.Ed}{g:Nat}{arr:Array Value}(h:GrR W B s L nv ev cv es)(hg:blk W g 26 arr)(c0 c1 c2 c3 c4:Value):GrR (((((W.setCell ⟨g,0,none⟩ c0).setCell ⟨g,1,none⟩ c1).setCell ⟨g,2,none⟩ c2).setCell ⟨g,3,none⟩ c3).setCell ⟨g,4,none⟩ c4) B s L nv ev cv es :=
 ((((h.set hg c0).set (yg (o:=0) hg c0) c1).set (yg (o:=1) (yg (o:=0) hg c0) c1) c2).set (yg (o:=2) (yg (o:=1) (yg (o:=0) hg c0) c1) c2) c3).set (yg (o:=3) (yg (o:=2) (yg (o:=1) (yg (o:=0) hg c0) c1) c2) c3) c4
theorem GrR.below {W W':World}{B:Nat}{s:Bs}{L:List (gra.Nd × Value)}{nv ev cv:Value}{es:List gra.Ed}(h:GrR W B s L nv ev cv es)(hb:Below W.heap.size W W'):GrR W' B s L nv ev cv es :=
 ⟨yr h.fr hb,yr h.er hb,yr h.cr hb,fun y hy=>ybH (h.pv y hy) hb⟩
theorem GrR.graph {W:World}{B:Nat}{s:Bs}{L:List (gra.Nd × Value)}{nv ev cv:Value}{es:List gra.Ed}{nm:Nm}{d:Bool}(h:GrR W B s L nv ev cv es)(hn:nm.length<=maxLen)(hL:L.map (·.1)=ylH s)(h1:∀ x∈ylH s,WfN x)(h2:∀ e∈es,WfD e)(h3:∀ x∈s.cs,x.1.length<=16/\Sml x.2):gra.GrV W (.agg #[.string (bb nm),.bool d,nv,ev,cv]) ⟨nm,d,ylH s,es,s.cs⟩:=by
 refine⟨nv,ev,cv,rfl,hn,?_,yqb h.er h2,yqc h.cr h3⟩;have:=yqa h.fr h.pv (by rw[hL];exact h1);rw[hL] at this;exact this
def ynx (G:gra.Gr)(E:Int)(w:World)(e:Ending)(w':World):Prop:=∃ gv,e=.returned (.tuple #[gv,.int .i64 E])/\gra.GrV w' gv G/\Below w.heap.size w w'
end Go.Proofs.YtgmidodmmlmmeaaGreatDoor.nor
namespace Go.Proofs.YtgmidodmmlmmeaaGreatDoor.nor
open Go.RowKit lex tre att _root_.Go.Proofs.Tryz
theorem yky (v:Value)(l:List gra.Pt)(X:ByteArray)(n:Int)(w:World)(h:Hid (gra.Pts w v l))(hn:Hid (ycC l X.data.toList=n)) :
    Calls Tryz.prog 111 #[v,.string X] w fun e w'=>e=.returned (.int .i64 n)/\w=w':=by
 obtain⟨ao,cap,rfl,hc,hm,-⟩:=id h.out;unfold maxLen at hm;have hlm:l.length<=9223372036854775807:=by omega
 have hp:=hn.out;unfold ycC at hp;clear hc hm hn
 by_cases h0:X.data.toList=[]
 ·have b0:(X.toList==[])=true:=by rw[beq_iff_eq,ByteArray.toList_eq,h0]
  rw[if_pos h0] at hp;subst hp;clear h0;go_enter func111,ntmps111;go_wp2;go_ret;exact⟨rfl,rfl⟩
 have b0:(X.toList==[])=false:=by rw[beq_eq_false_iff_ne,ByteArray.toList_eq];exact h0
 rw[if_neg h0] at hp;have HP:Hid (yda (l.drop 0) X.data.toList 0=n):=Lh hp;clear hp h0;go_enter func111,ntmps111;go_wp2_with fail
 go_loop [5] (fun iv=>∃ k:Nat,iv=.int .i64 k/\k<=l.length/\yda (l.drop k) X.data.toList k=n) (fun iv=>l.length-(intOf iv).toNat)
 case atStart=>exact⟨0,rfl,Nat.zero_le _,HP.out⟩
 case round =>
  obtain⟨k,rfl,hk,hfe⟩:=hrel;have HFE:=Lh hfe;clear hfe HP
  by_cases hlt:k<l.length
  ·have hget:=h.out.get hlt
   have hst:=HFE.out;rw[List.drop_eq_getElem_cons hlt,yda] at hst;obtain⟨y,hy⟩:∃ y,l[k]=y:=⟨_,rfl⟩
   rw[hy] at hst hget;obtain⟨A,rfl,q0,-⟩:=hget;obtain⟨Y,hY⟩:∃ Y,gra.bb y.1=Y:=⟨_,rfl⟩
   have hY2:Y.data.toList=y.1:=by rw[<- hY]
   rw[hY] at q0;have i0:(0:Int)<=(k:Int):=by omega
   have i1:(k:Int)<(l.length:Int):=by omega
   by_cases hxy:y.1=X.data.toList
   ·have b1:(Y.toList==X.toList)=true:=by rw[beq_iff_eq,ByteArray.toList_eq,ByteArray.toList_eq,hY2];exact hxy
    rw[if_pos hxy] at hst;subst hst;clear hxy hy hY hY2;go_wp2;go_ret;exact⟨rfl,rfl⟩
   ·have b1:(Y.toList==X.toList)=false:=by rw[beq_eq_false_iff_ne,ByteArray.toList_eq,ByteArray.toList_eq,hY2];exact hxy
    rw[if_neg hxy] at hst;have HS:=Lh hst;clear hxy hy hst hY hY2;go_wp2
    go_round
    case rel=>exact⟨k+1,by go_num,by omega,HS.out⟩
    case measure=>simp[intOf];omega
  ·have hst:=HFE.out
   rw[List.drop_of_length_le (by omega),yda] at hst;subst hst;go_wp2;go_ret;exact⟨rfl,rfl⟩
theorem yd3 {W W':World}{B' c' n':Nat}{u:TypeId}{v v':Value}{ys:List Value}{l:List att.Pt}(h:PosT W v l)(hg:W.ownsRow B' u c' v' n' ys)(hw:W.grownBy W' v'.ownBlock)(hu:u≠192):PosT W' v l :=
 yhy h fun k arr fr hk=>hw.block k (yax hk) fun e=>by
  rcases hg.2 with ⟨rfl,_⟩ | ⟨k',cap',cur',rfl,_,h2',_⟩
  ·cases e
  ·obtain rfl:k=k':=Option.some.inj e
   rw[hk] at h2';cases h2'
   exact hu rfl
structure GrF (W:World)(B:Nat)(nm:Nm)(d:Bool)(cv:Value)(L:List (gra.Nd × Value))(nv ev:Value)(es:List gra.Ed):Prop where
 rb:gbx W B
 gb:blk W (B+1) 26 #[.string (bb nm),.bool d,nv,ev,cv]
 fr:Frow W B nv L
 er:ysy W B ev es
 pv:∀ y∈L,PosT W y.2 y.1.ps
section
variable {W W' Wd w1:World} {B:Nat} {nm:Nm} {d:Bool} {cv nv ev:Value} {L:List (gra.Nd × Value)} {es:List gra.Ed}
theorem GrF.below (h:GrF W B nm d cv L nv ev es)(hb:Below W.heap.size W W'):GrF W' B nm d cv L nv ev es :=
 ⟨ym h.rb hb,ym h.gb hb,yr h.fr hb,yr h.er hb,fun y hy=>ybH (h.pv y hy) hb⟩
theorem GrF.lt (h:GrF W B nm d cv L nv ev es):B+1<W.heap.size:=yax h.gb
theorem GrF.growN {nv':Value}{y:gra.Nd × Value}(h:GrF W B nm d cv L nv ev es)(hb:Below W.heap.size W Wd)(hg:Wd.grownBy w1 nv.ownBlock)(ho:Frow w1 B nv' (L++[y]))(hp:PosT Wd y.2 y.1.ps) :
    (blk w1 (B+1) 26 #[.string (bb nm),.bool d,nv,ev,cv]/\Below B W w1)/\GrF (w1.setCell ⟨B+1,2,none⟩ nv') B nm d cv (L++[y]) nv' ev es/\Below B W (w1.setCell ⟨B+1,2,none⟩ nv'):=by
 have k:=h.below hb;have hl:=h.lt;have hl2:=k.lt;have g1:=yaF k.gb k.fr hg (by decide);have r1:=yaF k.rb k.fr hg (by decide);have b1:Below B W w1:=(hb.mono (by omega)).trans (ybe k.fr hg (by omega));refine⟨⟨g1,b1⟩,⟨yW r1 (by omega) _,yg g1 nv',yw ho g1 (by decide) _,yw (yI k.er k.fr hg (by decide)) g1 (by decide) _,fun z hz=>?_⟩,b1.setCell (Nat.le_succ _) _⟩
 rcases List.mem_append.1 hz with q | q
 ·exact yaX (yd3 (k.pv z q) k.fr hg (by decide)) g1 (by decide) _
 ·rw[List.mem_singleton] at q;subst q
  exact yaX (yd3 hp k.fr hg (by decide)) g1 (by decide) _
theorem GrF.growE {ev':Value}{e:gra.Ed}(h:GrF W B nm d cv L nv ev es)(hb:Below W.heap.size W Wd)(hg:Wd.grownBy w1 ev.ownBlock)(ho:ysy w1 B ev' (es++[e])) :
    (blk w1 (B+1) 26 #[.string (bb nm),.bool d,nv,ev,cv]/\Below B W w1)/\GrF (w1.setCell ⟨B+1,3,none⟩ ev') B nm d cv L nv ev' (es++[e])/\Below B W (w1.setCell ⟨B+1,3,none⟩ ev'):=by
 have k:=h.below hb;have hl:=h.lt;have hl2:=k.lt;have g1:=yaF k.gb k.er hg (by decide);have r1:=yaF k.rb k.er hg (by decide);have b1:Below B W w1:=(hb.mono (by omega)).trans (ybe k.er hg (by omega));exact⟨⟨g1,b1⟩,⟨yW r1 (by omega) _,yg g1 ev',yw (yI k.fr k.er hg (by decide)) g1 (by decide) _,yw ho g1 (by decide) _,fun z hz=>yaX (yd3 (k.pv z hz) k.er hg (by decide)) g1 (by decide) _⟩,b1.setCell (Nat.le_succ _) _⟩
theorem GrF.port (h:GrF W B nm d cv L nv ev es){k:Nat}(hk:k<L.length):∃ g cap,nv=.slice (some ⟨g,0,none⟩) L.length cap/\g<W.heap.size/\W.cell? ⟨g,k*6+5,none⟩=some L[k].2:=by
 obtain⟨g,cap,arr,e,_,hg,_,_,h3⟩:=yaE h.fr (by omega);refine⟨g,cap,e,yax hg,?_⟩;rw[yd hg,h3 _ (by have:=Nat.mul_le_mul_right 6 (show k+1<=L.length from hk);rw[Nat.add_mul] at this;omega),yac nfC 6 (fun _=>rfl) L k 5 hk (by decide)];rfl
end
theorem yhA {W:World}{B:Nat}{v:Value}{l:List Cl}(h:Nrow W B v l){k:Nat}(hk:k<l.length):∃ A cap,v=.slice (some A) l.length cap/\W.cell? (A.add (k*6))=some (.string (bb l[k].1))/\W.cell? ⟨(A.add (k*6)).block,(A.add (k*6)).off+1,none⟩=some (.string ⟨#[]⟩)/\W.cell? ⟨(A.add (k*6)).block,(A.add (k*6)).off+2,none⟩=some (.int .i64 0)/\W.cell? ⟨(A.add (k*6)).block,(A.add (k*6)).off+3,none⟩=some (.int .i64 0)/\W.cell? ⟨(A.add (k*6)).block,(A.add (k*6)).off+4,none⟩=some (.int .i64 l[k].2)/\W.cell? ⟨(A.add (k*6)).block,(A.add (k*6)).off+5,none⟩=some (.slice none 0 0):=by
 obtain⟨g,cap,arr,e,_,hg,_,_,h3⟩:=yaE h (by omega)
 have key:∀ j,j<6->W.cell? ⟨g,0+k*6+j,none⟩=(ndC l[k])[j]?:=fun j hj=>by
  rw[Nat.zero_add,yd hg,h3 _ (by have:=Nat.mul_le_mul_right 6 (show k+1<=l.length from hk);rw[Nat.add_mul] at this;omega),yac ndC 6 (fun _=>rfl) l k j hk hj]
 refine⟨⟨g,0,none⟩,cap,e,?_⟩;rw[att.add_at];exact⟨key 0 (by decide),key 1 (by decide),key 2 (by decide),key 3 (by decide),key 4 (by decide),key 5 (by decide)⟩
theorem ysB {W:World}{B:Nat}{v:Value}{l:List (En × Value)}(h:Erow W B v l){k:Nat}(hk:k<l.length):∃ A cap,v=.slice (some A) l.length cap/\W.cell? (A.add (k*5))=some (.int .i64 l[k].1.fr)/\W.cell? ⟨(A.add (k*5)).block,(A.add (k*5)).off+1,none⟩=some (.int .i64 l[k].1.to)/\W.cell? ⟨(A.add (k*5)).block,(A.add (k*5)).off+2,none⟩=some (.string (bb l[k].1.fp))/\W.cell? ⟨(A.add (k*5)).block,(A.add (k*5)).off+3,none⟩=some (.string (bb l[k].1.tp))/\W.cell? ⟨(A.add (k*5)).block,(A.add (k*5)).off+4,none⟩=some l[k].2:=by
 obtain⟨g,cap,arr,e,_,hg,_,_,h3⟩:=yaE h (by omega)
 have key:∀ j,j<5->W.cell? ⟨g,0+k*5+j,none⟩=(enC l[k])[j]?:=fun j hj=>by
  rw[Nat.zero_add,yd hg,h3 _ (by have:=Nat.mul_le_mul_right 5 (show k+1<=l.length from hk);rw[Nat.add_mul] at this;omega),yac enC 5 (fun _=>rfl) l k j hk hj]
 refine⟨⟨g,0,none⟩,cap,e,?_⟩;rw[att.add_at];exact⟨key 0 (by decide),key 1 (by decide),key 2 (by decide),key 3 (by decide),key 4 (by decide)⟩
theorem ytT {w:World}{ops:Array Oper}{rest:List Oper}{o:Oper}{a:Act}{Q:Exit->Act->World->Prop}(hg:o.guard=none)(p y:Operand)(ho:o.op=.call { callee:=.builtin .append,args:=#[p,y],argTypes:=#[23,23] })
    (B:Nat) (v:Value) (l:List gra.Ed) (e:gra.Ed) (H:Nat) (hH:w.heap.size=H) (hs:a.eval p=v) (hx:a.eval y=.slice (some ⟨H,0,none⟩) 1 1) (h:Hid (ysy w B v l)) (hl:l.length<=30000000) (hB:B<=w.heap.size)
    (hK:∀ ao cap w',ysy w' B (.slice ao (l.length+1) cap) (l++[e])->w.grownBy w' v.ownBlock->wpList Tryz.prog ops Q rest (a.put o.dst (.slice ao (l.length+1) cap)) w'):wpList Tryz.prog ops Q (o::rest) a (w.alloc (.cells #[.int .i64 e.fr,.int .i64 e.to,.int .i64 e.fp,.int .i64 e.tp,.string (bb e.lb),.int .i64 e.wt,.int .i64 e.ln] 61)):=by
 subst hH;obtain⟨i0,hi,hz0,hz1,hz2⟩:=ycM ysA;refine wpList_append_own _ hg p y 23 ho B 61 i0 _ 7 64 underlying23 hi hz0 hz1 hz2 rfl (by decide) v l.length _ hs (World.ownsRow.alloc h.out _) ⟨w.heap.size,0,none⟩ 1 1 (edC e) hx rfl ?_ (by simp[Value.oneCell',edC]) (by unfold maxLen;omega) (by omega) (by simp;omega) ?_
 ·intro j u hj
  rw[att.add_at,Nat.zero_add,yd (yl w #[.int .i64 e.fr,.int .i64 e.to,.int .i64 e.fp,.int .i64 e.tp,.string (bb e.lb),.int .i64 e.wt,.int .i64 e.ln] 61),<- hj];simp[edC]
 ·intro v' w' hown hgrow _
  obtain⟨ao,cap,rfl,_,_⟩:=yu hown;refine hK ao cap w' ?_ ?_
  ·unfold ysy;rw[List.length_append,List.flatMap_append];simpa using hown
  ·refine⟨hgrow.os,hgrow.tape,hgrow.output,Nat.le_trans (by simp) hgrow.size,fun k hk hne=>?_⟩
   rw[hgrow.block k (by simp;omega) hne,heap_alloc_old w _ (h:=hk)]
theorem ycW {N:List gra.Nd}{l:List En}{j:Nat}(hj:j<l.length)(h:((l.take j).map (yeR N)).any yhT=false)(h2:yhT (yeR N l[j])=false):((l.take (j+1)).map (yeR N)).any yhT=false:=by
 rw[List.take_succ_eq_append_getElem hj,List.map_append,List.any_append,h];simp[h2]
theorem ysC {N:List gra.Nd}{l:List En}{j:Nat}(hj:j<l.length)(h2:yhT (yeR N l[j])=true):(l.map (yeR N)).any yhT=true :=
 List.any_eq_true.2 ⟨_,List.mem_map_of_mem (List.getElem_mem hj),h2⟩
theorem yny {W:World}{g:Nat}{a0 a1 a2 a3 a4 a5 a6:Value}(h:blk W g 61 #[a0,a1,a2,a3,a4,a5,a6])(c0 c1 c2 c3 c4 c5 c6:Value):blk (((((((W.setCell ⟨g,0,none⟩ c0).setCell ⟨g,1,none⟩ c1).setCell ⟨g,2,none⟩ c2).setCell ⟨g,3,none⟩ c3).setCell ⟨g,4,none⟩ c4).setCell ⟨g,5,none⟩ c5).setCell ⟨g,6,none⟩ c6) g 61 #[c0,c1,c2,c3,c4,c5,c6]:=by
 have h0:blk (W.setCell ⟨g,0,none⟩ c0) g 61 #[c0,a1,a2,a3,a4,a5,a6]:=yg h c0;have h1:blk ((W.setCell ⟨g,0,none⟩ c0).setCell ⟨g,1,none⟩ c1) g 61 #[c0,c1,a2,a3,a4,a5,a6]:=yg h0 c1;have h2:blk (((W.setCell ⟨g,0,none⟩ c0).setCell ⟨g,1,none⟩ c1).setCell ⟨g,2,none⟩ c2) g 61 #[c0,c1,c2,a3,a4,a5,a6]:=yg h1 c2;have h3:blk ((((W.setCell ⟨g,0,none⟩ c0).setCell ⟨g,1,none⟩ c1).setCell ⟨g,2,none⟩ c2).setCell ⟨g,3,none⟩ c3) g 61 #[c0,c1,c2,c3,a4,a5,a6]:=yg h2 c3;have h4:blk (((((W.setCell ⟨g,0,none⟩ c0).setCell ⟨g,1,none⟩ c1).setCell ⟨g,2,none⟩ c2).setCell ⟨g,3,none⟩ c3).setCell ⟨g,4,none⟩ c4) g 61 #[c0,c1,c2,c3,c4,a5,a6]:=yg h3 c4;have h5:blk ((((((W.setCell ⟨g,0,none⟩ c0).setCell ⟨g,1,none⟩ c1).setCell ⟨g,2,none⟩ c2).setCell ⟨g,3,none⟩ c3).setCell ⟨g,4,none⟩ c4).setCell ⟨g,5,none⟩ c5) g 61 #[c0,c1,c2,c3,c4,c5,a6]:=yg h4 c5;exact yg h5 c6
theorem ygw {B:Nat}{a W:World}{g:Nat}(h:Below B a W)(hg:B<=g)(c0 c1 c2 c3 c4 c5 c6:Value):Below B a (((((((W.setCell ⟨g,0,none⟩ c0).setCell ⟨g,1,none⟩ c1).setCell ⟨g,2,none⟩ c2).setCell ⟨g,3,none⟩ c3).setCell ⟨g,4,none⟩ c4).setCell ⟨g,5,none⟩ c5).setCell ⟨g,6,none⟩ c6):=((((((h.setCell hg _).setCell hg _).setCell hg _).setCell hg _).setCell hg _).setCell hg _).setCell hg _
theorem ygx {N:List gra.Nd}{L:List (gra.Nd × Value)}(h:L.map (·.1)=N){k:Nat}(hk:k<L.length):ybT N (k:Int)=L[k].1.ps:=by
 subst h;unfold ybT;rw[Int.toNat_natCast,List.getElem?_map,List.getElem?_eq_getElem hk];rfl
theorem yqN {W:World}{v:Value}{l:List att.Pt}{N:List gra.Nd}{L:List (gra.Nd × Value)}(hw:∀ x∈N,WfN x)(h:L.map (·.1)=N){k:Nat}(hk:k<L.length)(hl:L[k].1.ps=l)(hp:PosT W v l):gra.Pts W v l :=
 ynw hp.pos (by rw[<- hl];exact(hw L[k].1 (by rw[<- h];exact List.mem_map_of_mem (List.getElem_mem hk))).2.2.2.2.2)
theorem ynz (B b:Nat)(nm:Nm)(d:Bool)(s:Sta)(x:StV)(N:List gra.Nd)(RS:gra.Gr × Int)(w:World)(hS:Hid (StB w B b nm d s x))(hok:Hid (FinOk s N))(hnm:Hid (nm.length<=maxLen))(hR:Hid ((if yeT (yeS nm d s)=true then (emG,5) else if gra.validE (yeS nm d s)≠0 then (emG,gra.validE (yeS nm d s)) else (yeS nm d s,0))=RS)) :
    Calls Tryz.prog 49 #[.pointer (some ⟨b,0,none⟩)] w (ynx RS.1 RS.2 w):=by
 have hN0:=hok.out.hN;have HNN:Hid (yeS nm d s=⟨nm,d,N,s.en.map (yeR N),s.cs⟩):=Lh (by unfold yeS;rw[<- hN0]);have HNO:Hid (yeT (yeS nm d s)=(s.en.map (yeR N)).any yhT):=Lh (by rw[HNN.out];rfl);have HNL:Hid (N.length=s.ns.length):=Lh (by rw[hN0,List.length_zipWith,hok.out.len,Nat.min_self])
 have HNG:Hid (∀ i (h:i<s.ns.length) (h2:i<s.ats.length),N.take (i+1)=N.take i++[ygJ s.ns[i] s.ats[i]]):=Lh (fun i h h2=>by
  rw[List.take_succ_eq_append_getElem (by rw[HNL.out];exact h)]
  congr 2
  subst hN0
  rw[List.getElem_zipWith])
 obtain⟨nv,cv,av,sv,avs,evs⟩:=x;obtain⟨no,nc,hnv,-,hm1⟩:=yu hS.out.nr;obtain⟨co,cc,hcv,-,-⟩:=yu hS.out.cr;obtain⟨ao,ac,hav,-⟩:=ygu hS.out.ar;obtain⟨eo,ec,hev,-,hm2⟩:=yu hS.out.er;simp only at hnv hcv hav hev;subst hnv hcv hav hev;have hal:avs.length=s.ats.length:=hS.out.al;have hel:evs.length=s.en.length:=by rw[<- hS.out.el,List.length_map]
 have HAL:=Lh (hal.trans hok.out.len.symm);have HEL:=Lh hel;have hnl:s.ns.length<=3000000:=hok.out.nl;have hell:evs.length<=3000000:=by rw[hel];exact hok.out.el
 have hb1:=al1 w (.cells #[.string ⟨#[]⟩,.bool false,.slice none 0 0,.slice none 0 0,.slice none 0 0] 26);have hs1:=hS.out.below hb1;have hr1:=yl w #[.string ⟨#[]⟩,.bool false,.slice none 0 0,.slice none 0 0,.slice none 0 0] 26;have HB1:=Lh hb1;have hblt:b<w.heap.size:=hS.out.lt;clear hal hel hb1 hm1 hm2 hN0;go_enter func49,ntmps49;go_wp2_with fail
 have hsz1:(w.alloc (.cells #[.string ⟨#[]⟩,.bool false,.slice none 0 0,.slice none 0 0,.slice none 0 0] 26)).heap.size=w.heap.size+1:=by simp
 generalize w.alloc (.cells #[.string ⟨#[]⟩,.bool false,.slice none 0 0,.slice none 0 0,.slice none 0 0] 26)=w1 at *;obtain⟨b0,b1⟩:=b2c hs1.box;have b4:=bc 4 hs1.box;refine wp_region_held_drew (S:=(fun W:World=>W.cell? ⟨b,0,none⟩=some (.string (bb nm))/\W.cell? ⟨b,1,none⟩=some (.bool d)/\W.cell? ⟨b,4,none⟩=some (.slice co s.cs.length cc))) (by kernel_rfl) (⟨yf b0,yf b1,yf b4⟩) (fun hHeld=>?_);refine tk 0 10 (.pointer (some ⟨b,0,none⟩)) ?_;refine tk 1 11 (.pointer (some ⟨b,0,none⟩)) ?_;refine tk 2 12 (.pointer (some ⟨b,0,none⟩)) ?_;refine tk 3 13 (.pointer (some ⟨b,0,none⟩)) ?_;refine tk 4 14 (.string (bb nm)) ?_;refine tk 5 15 (.pointer (some ⟨b,0,none⟩)) ?_;refine tk 6 16 (.pointer (some ⟨b,0,none⟩)) ?_;refine tk 7 17 (.pointer (some ⟨b,0,none⟩)) ?_;refine tk 8 18 (.pointer (some ⟨b,1,none⟩)) ?_;refine tk 9 19 (.bool d) ?_;refine tk 10 20 (.pointer (some ⟨b,0,none⟩)) ?_;refine tk 11 21 (.pointer (some ⟨b,0,none⟩)) ?_;refine tk 12 22 (.pointer (some ⟨b,0,none⟩)) ?_;refine tk 13 23 (.pointer (some ⟨b,4,none⟩)) ?_;refine tk 14 24 (.slice co s.cs.length cc) ?_;refine tk 15 25 (.agg #[.string (bb nm),.bool d,.slice none 0 0,.slice none 0 0,.slice co s.cs.length cc]) ?_
 try simp only[sA,sB,sC]
 refine wpAnyH_ready (rs:=[16]) (by kernel_rfl) (by simp) ?_;refine AllReadyH.cons rfl (fun K hK=>?_) AllReadyH.nil;go_simp;refine hK.out _ _ ⟨yh (yf b0),yh (yf b1),yh (yf b4)⟩ (fun hHeld=>?_);clear hK K
 try simp only[sA,sB,sC]
 refine wpAnyH_ready (rs:=[17]) (by kernel_rfl) (by simp) ?_;refine AllReadyH.cons rfl (fun K hK=>?_) AllReadyH.nil;go_simp;have hg3:blk ((w1.alloc (.cells #[.string (bb nm),.bool d,.slice none 0 0,.slice none 0 0,.slice co s.cs.length cc] 26)).drew) (w.heap.size+1) 26 #[.string (bb nm),.bool d,.slice none 0 0,.slice none 0 0,.slice co s.cs.length cc]:=by have:=yl w1 #[.string (bb nm),.bool d,.slice none 0 0,.slice none 0 0,.slice co s.cs.length cc] 26;rw[hsz1] at this;exact this
 have hb2:Below w1.heap.size w1 ((w1.alloc (.cells #[.string (bb nm),.bool d,.slice none 0 0,.slice none 0 0,.slice co s.cs.length cc] 26)).drew):=((Below.refl w1.heap.size w1).alloc (Nat.le_refl _) _).drew;have hr3:gbx ((w1.alloc (.cells #[.string (bb nm),.bool d,.slice none 0 0,.slice none 0 0,.slice co s.cs.length cc] 26)).drew) w.heap.size:=ym hr1 hb2;have hb3:Below w.heap.size w ((w1.alloc (.cells #[.string (bb nm),.bool d,.slice none 0 0,.slice none 0 0,.slice co s.cs.length cc] 26)).drew):=HB1.out.trans (hb2.mono (by omega));refine hK.out _ _ ⟨yh (yf b0),yh (yf b1),yh (yf b4)⟩ (fun hHeld=>?_);clear hK K
 try simp only[sA,sB,sC]
 refine wpAnyH_done (by kernel_rfl) ?_ _;have HGF:Hid (GrF ((w1.alloc (.cells #[.string (bb nm),.bool d,.slice none 0 0,.slice none 0 0,.slice co s.cs.length cc] 26)).drew) w.heap.size nm d (.slice co s.cs.length cc) [] (.slice none 0 0) (.slice none 0 0) []):=Lh ⟨hr3,hg3,World.ownsRow_nil ..,World.ownsRow_nil ..,fun y hy=>(by cases hy)⟩;have HB3:=Lh hb3;clear hb3 hr3 hg3 hb2 b0 b1 b4 hs1 hr1 HB1 hHeld;generalize ((w1.alloc (.cells #[.string (bb nm),.bool d,.slice none 0 0,.slice none 0 0,.slice co s.cs.length cc] 26)).drew)=w3 at *;go_wp2_with fail
 go_loopw [5] (fun iv wr=>∃ (i:Nat) (L:List (gra.Nd × Value)) (lv:Value),iv=.int .i64 i/\i<=s.ns.length/\L.length=i/\GrF wr w.heap.size nm d (.slice co s.cs.length cc) L lv (.slice none 0 0) []/\L.map (·.1)=N.take i/\Below w.heap.size w wr) (fun iv _=>s.ns.length-(intOf iv).toNat)
 case atStart=>exact⟨0,[],_,rfl,Nat.zero_le _,rfl,HGF.out,rfl,HB3.out⟩
 case round =>
  obtain⟨i,L,lv,rfl,hi,hLi,hgf,hmp,hb⟩:=hrel
  rename World=>wr
  have hst:=hS.out.below hb;have c2:=hst.box.read.1;simp only at c2;have HGR:=Lh hgf;have HMP:=Lh hmp;have HBR:=Lh hb;have HLI:=Lh hLi;clear hgf hmp hb HGF HB3 hLi
  by_cases hlt:i<s.ns.length
  case neg =>
   have hmp:=HMP.out;have hir:i=s.ns.length:=by omega
   rw[hir,List.take_of_length_le (by rw[HNL.out];exact Nat.le_refl _)] at hmp;have HLN:=Lh hmp;have HLL:Hid (L.length=s.ns.length):=Lh (HLI.out.trans hir);obtain⟨lo,lc,rfl,_,_⟩:=yu HGR.out.fr;clear hmp HMP HLI;clear hir;go_wp2_with fail
   clear c2 hst
   go_loopw [6] (fun iv wq=>∃ (j:Nat) (es:List gra.Ed) (ev:Value),iv=.int .i64 j/\j<=evs.length/\GrF wq w.heap.size nm d (.slice co s.cs.length cc) L (.slice lo L.length lc) ev es/\es=(s.en.take j).map (yeR N)/\es.any yhT=false/\Below w.heap.size w wq) (fun iv _=>evs.length-(intOf iv).toNat)
   case atStart=>exact⟨0,[],_,rfl,Nat.zero_le _,HGR.out,rfl,rfl,HBR.out⟩
   case round =>
    obtain⟨j,es,ev,rfl,hj,hgf,hes,hany,hb⟩:=hrel
    rename World=>wq
    have hst:=hS.out.below hb;have c6:=hst.box.read.2.2.2.1;simp only at c6;have HGF:=Lh hgf;have HES:=Lh hes;have HANY:=Lh hany;have HBQ:=Lh hb;clear hgf hes hany hb HGR HBR
    by_cases hlt:j<evs.length
    case neg =>
     have hjr:j=s.en.length:=by have:=HEL.out;omega
     have hes:=HES.out;rw[hjr,List.take_of_length_le (Nat.le_refl _)] at hes;have hfin:yeS nm d s=⟨nm,d,N,es,s.cs⟩:=by rw[HNN.out,hes]
     have HRS:Hid ((if gra.validE ⟨nm,d,N,es,s.cs⟩≠0 then (emG,gra.validE ⟨nm,d,N,es,s.cs⟩) else (⟨nm,d,N,es,s.cs⟩,0))=RS):=Lh (by have h:=hR.out;rw[HNO.out,<- hes,HANY.out,if_neg (by decide),hfin] at h;exact h);have HNC:Hid (ylH ⟨s.ns,s.ats,s.cs,[]⟩=N):=Lh (by unfold ylH;exact hok.out.hN.symm)
     have hwd:∀ e∈es,WfD e:=fun e he=>by
      have hb:=List.any_eq_false.1 HANY.out e he;rw[hes] at he;obtain⟨e0,h0,rfl⟩:=List.mem_map.1 he;obtain⟨⟨a0,a1⟩,a2,a3⟩:=hok.out.en e0 h0;exact ytR hok.out.sh (hok.out.ga.2 e0 h0) ⟨by omega,by omega⟩ ⟨by omega,by omega⟩ (by simpa using hb)
     have HWD:=Lh hwd;obtain⟨vo,vc,rfl,_,_⟩:=yu HGF.out.er;have HGR2:Hid (GrR wq B ⟨s.ns,s.ats,s.cs,[]⟩ L (.slice lo L.length lc) (.slice vo es.length vc) (.slice co s.cs.length cc) es):=Lh ⟨yhu HGF.out.fr hS.out.base,yhu HGF.out.er hS.out.base,hst.cr,HGF.out.pv⟩
     have HMK:Hid (∀ W,GrR W B ⟨s.ns,s.ats,s.cs,[]⟩ L (.slice lo L.length lc) (.slice vo es.length vc) (.slice co s.cs.length cc) es->gra.GrV W (.agg #[.string (bb nm),.bool d,.slice lo L.length lc,.slice vo es.length vc,.slice co s.cs.length cc]) ⟨nm,d,N,es,s.cs⟩):=Lh (fun W h=>by
      have h2:=h.graph (nm:=nm) (d:=d) hnm.out (by rw[HNC.out];exact HLN.out) (by rw[HNC.out];exact hok.out.wf) HWD.out hok.out.cs
      rw[HNC.out] at h2;exact h2)
     obtain⟨V,hV⟩:∃ V,gra.validE ⟨nm,d,N,es,s.cs⟩=V:=⟨_,rfl⟩
     have HV:=Lh hV;rw[hV] at HRS;have hgb:=HGF.out.gb;obtain⟨q0,q1,q2,q3,q4⟩:=b5c hgb;have hje:j=evs.length:=by omega
     clear hjr hes hfin hwd hgb hV hst;subst hje;clear hlt hj;go_wp2_with fail
     refine(gra.gvalid_of _ _ V wq (Lh (HMK.out wq HGR2.out)) HV).mono ?_;rintro e w11 ⟨rfl,hb11⟩;have HGF11:=Lh (HGF.out.below hb11);have HGR11:=Lh (HGR2.out.below hb11);have HB11:=Lh (ya hb11 HBQ.out);clear hb11 q0 q1 q2 q3 q4 c6;have hrb:=HGF11.out.rb
     by_cases hz:V=0
     case neg =>
      have bR:(V != 0)=true:=by rw[bne_iff_ne];exact hz
      have HE:Hid (RS=(emG,V)):=Lh (by rw[<- HRS.out,if_pos hz]);obtain rfl:=HE.out;clear hz HE;obtain⟨n0,n1,n2,n3,n4⟩:=b5c hrb;have m0:=yi hrb 0;have m1:=yi hrb 1;have m2:=yi hrb 2;have m3:=yi hrb 3;have m4:=yi hrb 4;go_wp2;have hgx:=ycO hrb (.string ⟨#[]⟩) (.bool false) (.slice none 0 0) (.slice none 0 0) (.slice none 0 0);obtain⟨r0,r1,r2,r3,r4⟩:=gcl hgx;refine bodyPost_ret (v:=.tuple #[.agg #[.string ⟨#[]⟩,.bool false,.slice none 0 0,.slice none 0 0,.slice none 0 0],.int .i64 V]) (by simp[results,results49,go_sem,r0,r1,r2,r3,r4]) rfl ?_;exact⟨_,rfl,yiC _,yaq HB11.out (Nat.le_refl _) _ _ _ _ _⟩
     subst hz;have HE:Hid (RS=(⟨nm,d,N,es,s.cs⟩,0)):=Lh (by rw[<- HRS.out,if_neg (by simp)]);obtain rfl:=HE.out;have hgb:=HGF11.out.gb;obtain⟨q0,q1,q2,q3,q4⟩:=b5c hgb;clear hgb HE;obtain⟨n0,n1,n2,n3,n4⟩:=b5c hrb;have m0:=yi hrb 0;have m1:=yi hrb 1;have m2:=yi hrb 2;have m3:=yi hrb 3;have m4:=yi hrb 4;go_wp2;have hgx:=ycO hrb (.string (bb nm)) (.bool d) (.slice lo L.length lc) (.slice vo es.length vc) (.slice co s.cs.length cc);obtain⟨r0,r1,r2,r3,r4⟩:=gcl hgx;refine bodyPost_ret (v:=.tuple #[.agg #[.string (bb nm),.bool d,.slice lo L.length lc,.slice vo es.length vc,.slice co s.cs.length cc],.int .i64 0]) (by simp[results,results49,go_sem,r0,r1,r2,r3,r4]) rfl ?_;exact⟨_,rfl,HMK.out _ (HGR11.out.set5 hrb _ _ _ _ _),yaq HB11.out (Nat.le_refl _) _ _ _ _ _⟩
    case pos =>
     have hj2:j<s.en.length:=by have:=HEL.out;omega
     obtain⟨A,ec',eA,q0,q1,q2,q3,q4⟩:=ysB hst.er hlt;cases eA
     have hen:evs[j].1=s.en[j]:=by
      have h:=hS.out.el;simp only at h;have h2:(evs.map (·.1))[j]'(by rw[List.length_map];exact hlt)=s.en[j]:=by simp only[h]
      rwa [List.getElem_map] at h2
     have hpt:=hst.ep evs[j] (List.getElem_mem hlt);have hga:=hok.out.ga.2 _ (List.getElem_mem hj2);have hva:=hok.out.va.2 _ (List.getElem_mem hj2);obtain⟨⟨ha0,ha1⟩,hc0,hc1⟩:=hok.out.en _ (List.getElem_mem hj2);have HANX:Hid (yhT (yeR N s.en[j])=false->((s.en.take (j+1)).map (yeR N)).any yhT=false):=Lh (ycW hj2 (by rw[<- HES.out];exact HANY.out));have HALL:Hid (yhT (yeR N s.en[j])=true->(s.en.map (yeR N)).any yhT=true):=Lh (ysC hj2);have HTKE:Hid ((s.en.take (j+1)).map (yeR N)=es++[yeR N s.en[j]]):=Lh (by rw[HES.out,List.take_succ_eq_append_getElem hj2,List.map_append];rfl);rw[<- hen] at hga hva ha0 ha1 hc0 hc1 HANX HALL HTKE;obtain⟨y,hy⟩:∃ y,evs[j]=y:=⟨_,rfl⟩
     rw[hy] at q0 q1 q2 q3 q4 hpt hga hva ha0 ha1 hc0 hc1 HANX HALL HTKE;obtain⟨⟨fr,t,fp,tp,l⟩,av⟩:=y;simp only at q0 q1 q2 q3 q4 hpt hga hva ha0 ha1 hc0 hc1 HANX HALL HTKE;obtain⟨na,rfl⟩:∃ na:Nat,fr=na:=⟨fr.toNat,by omega⟩
     obtain⟨nc,rfl⟩:∃ nc:Nat,t=nc:=⟨t.toNat,by omega⟩
     obtain⟨uo,uc,rfl,_,_,_⟩:=id hpt.prs;have hLL:=HLL.out;have hna:na<L.length:=by omega
     have hnc:nc<L.length:=by omega
     obtain⟨g,gc,hgv,hgl,p5⟩:=HGF.out.port hna;cases hgv
     obtain⟨g',gc',hgv,_,p6⟩:=HGF.out.port hnc;cases hgv
     have hpa:=HGF.out.pv _ (List.getElem_mem hna);have hpc:=HGF.out.pv _ (List.getElem_mem hnc);obtain⟨pl1,hpl1⟩:∃ q,L[na].1.ps=q:=⟨_,rfl⟩
     obtain⟨pl2,hpl2⟩:∃ q,L[nc].1.ps=q:=⟨_,rfl⟩
     have hpo1:=ygx HLN.out hna;have hpo2:=ygx HLN.out hnc;have HPT1:Hid (∀ W v,PosT W v pl1->gra.Pts W v pl1):=Lh (fun W v h=>yqN hok.out.wf HLN.out hna hpl1 h);have HPT2:Hid (∀ W v,PosT W v pl2->gra.Pts W v pl2):=Lh (fun W v h=>yqN hok.out.wf HLN.out hnc hpl2 h);rw[hpl1] at hpa hpo1;rw[hpl2] at hpc hpo2;obtain⟨v1,hv1⟩:∃ q,L[na].2=q:=⟨_,rfl⟩
     obtain⟨v2,hv2⟩:∃ q,L[nc].2=q:=⟨_,rfl⟩
     rw[hv1] at hpa p5;rw[hv2] at hpc p6;obtain⟨o1,k1,rfl,_,_,_⟩:=id hpa.pos;obtain⟨o2,k2,rfl,_,_,_⟩:=id hpc.pos;obtain⟨lb,hlb⟩:∃ q,yai l yE=q:=⟨_,rfl⟩
     obtain⟨lb,lbb⟩:=lb;obtain⟨wt,hwt⟩:∃ q,ycA 2 l yV=q:=⟨_,rfl⟩
     obtain⟨ln,hln⟩:∃ q,ycA 2 l yej=q:=⟨_,rfl⟩
     obtain⟨fn,hfn⟩:∃ q,ycC pl1 fp=q:=⟨_,rfl⟩
     obtain⟨tn,htn⟩:∃ q,ycC pl2 tp=q:=⟨_,rfl⟩
     have HFE:Hid (yeR N ⟨(na:Int),(nc:Int),fp,tp,l⟩=⟨(na:Int),(nc:Int),fn,tn,lb,wt,ln⟩):=Lh (by
      unfold yeR;simp only;rw[hpo1,hpo2,hlb,hwt,hln,hfn,htn])
     rw[HFE.out] at HANX HALL HTKE;have HLB:Hid (yai l (⟨#[108,97,98,101,108]⟩:ByteArray).data.toList=(lb,lbb)):=Lh hlb;have HWT:Hid (ycA 2 l (⟨#[119,101,105,103,104,116]⟩:ByteArray).data.toList=wt):=Lh hwt;have HLN2:Hid (ycA 2 l (⟨#[108,101,110]⟩:ByteArray).data.toList=ln):=Lh hln;have HFN:Hid (ycC pl1 (bb fp).data.toList=fn):=Lh hfn;have HTN:Hid (ycC pl2 (bb tp).data.toList=tn):=Lh htn;have HVA:=Lh hva;have HPQ:=Lh hpt;have HPA:=Lh hpa;have HPC:=Lh hpc;have i0:(0:Int)<=(j:Int):=by omega
     have i1:(j:Int)<(evs.length:Int):=by omega
     have j0:(0:Int)<=(na:Int):=by omega
     have j1:(na:Int)<(L.length:Int):=by omega
     have j2:(0:Int)<=(nc:Int):=by omega
     have j3:(nc:Int)<(L.length:Int):=by omega
     have hbx:=al1 wq (.cells #[.int .i64 na,.int .i64 nc,.string (bb fp),.string (bb tp),.slice uo l.length uc] 189);have hx2:=yl wq #[.int .i64 na,.int .i64 nc,.string (bb fp),.string (bb tp),.slice uo l.length uc] 189;have hsz2:(wq.alloc (.cells #[.int .i64 na,.int .i64 nc,.string (bb fp),.string (bb tp),.slice uo l.length uc] 189)).heap.size=wq.heap.size+1:=by simp
     have hgq:=HGF.out.lt;clear hpt hga hva ha0 ha1 hc0 hc1 hy hen hpa hpc hpl1 hpl2 hpo1 hpo2 hv1 hv2 hlb hwt hln hfn htn hLL hst hj2;go_wp2_with fail
     generalize wq.alloc (.cells #[.int .i64 na,.int .i64 nc,.string (bb fp),.string (bb tp),.slice uo l.length uc] 189)=w2 at *;clear q0 q1 q2 q3 q4 c6;obtain⟨H,hH⟩:∃ H,wq.heap.size=H:=⟨_,rfl⟩
     have HX2:=Lh hx2;rw[hH] at HX2;simp only[hH] at hsz2 hgl hgq |-;obtain⟨x0,x1⟩:=b2c HX2.out;have x4:=bc 4 HX2.out;have hbd:Below w2.heap.size w2 w2.drew:=(Below.refl w2.heap.size w2).drew;have HBX:=Lh hbx;have HH:=Lh hH;have HSZ2:=Lh hsz2;clear hx2 hbx hH hsz2;refine wp_region_held_drew (S:=(fun W:World=>W.cell? ⟨H,0,none⟩=some (.int .i64 na)/\W.cell? ⟨H,1,none⟩=some (.int .i64 nc)/\W.cell? ⟨H,4,none⟩=some (.slice uo l.length uc))) (by kernel_rfl) (⟨yf x0,yf x1,yf x4⟩) (fun hHeld=>?_);refine tk 0 73 (.pointer (some ⟨H,0,none⟩)) ?_;refine tk 1 74 (.int .i64 na) ?_;refine tk 2 75 (.pointer (some ⟨H,1,none⟩)) ?_;refine tk 3 76 (.int .i64 nc) ?_;refine tk 4 77 (.pointer (some ⟨H,4,none⟩)) ?_;refine tk 5 78 (.slice uo l.length uc) ?_;refine tk 7 80 (.pointer (some ⟨H,4,none⟩)) ?_;refine tk 8 81 (.slice uo l.length uc) ?_
     try simp only[sA,sB,sC]
     refine wpAnyH_ready (rs:=[6,11]) (by kernel_rfl) (by simp) ?_;refine AllReadyH.cons rfl (fun K hK=>?_) (AllReadyH.cons rfl (fun K hK=>?_) AllReadyH.nil);go_simp;refine(yck 2 _ l ⟨#[119,101,105,103,104,116]⟩ wt w2.drew (Lh ((HPQ.out.keep HBX.out).keep hbd).prs) HVA HWT).mono ?_;rintro e wa ⟨rfl,hbn⟩;have bwa:=hbd.trans (hbn.mono hbd.size);have ywa0:=yb bwa x0;have ywa1:=yb bwa x1;have ywa4:=yb bwa x4;clear hbn hHeld;refine hK.out _ _ ⟨ywa0,ywa1,ywa4⟩ (fun hHeld=>?_);clear hK K
     try simp only[sA,sB,sC]
     refine wpAnyH_ready (rs:=[9,11]) (by kernel_rfl) (by simp) ?_;refine AllReadyH.cons rfl (fun K hK=>?_) (AllReadyH.cons rfl (fun K hK=>?_) AllReadyH.nil);go_simp;refine(yck 2 _ l ⟨#[108,101,110]⟩ ln wa (Lh ((HPQ.out.keep HBX.out).keep bwa).prs) HVA HLN2).mono ?_;rintro e wc ⟨rfl,hbn⟩;have bwc:=bwa.trans (hbn.mono bwa.size);have ywc0:=yb bwc x0;have ywc1:=yb bwc x1;have ywc4:=yb bwc x4;clear hbn hHeld;refine hK.out _ _ ⟨ywc0,ywc1,ywc4⟩ (fun hHeld=>?_);clear hK K
     try simp only[sA,sB,sC]
     refine tk 10 83 (.agg #[.int .i64 na,.int .i64 nc,.int .i64 0,.int .i64 0,.string ⟨#[]⟩,.int .i64 wt,.int .i64 ln]) ?_
     try simp only[sA,sB,sC]
     refine wpAnyH_ready (rs:=[11]) (by kernel_rfl) (by simp) ?_;refine AllReadyH.cons rfl (fun K hK=>?_) AllReadyH.nil;go_simp;have ba:Below w2.heap.size w2 (wc.alloc (.cells #[.int .i64 0,.int .i64 0,.int .i64 0,.int .i64 0,.string ⟨#[]⟩,.int .i64 0,.int .i64 0] 61)):=bwc.alloc bwc.size _;refine hK.out _ _ ⟨yb ba x0,yb ba x1,yb ba x4⟩ (fun hHeld=>?_);clear hK K
     try simp only[sA,sB,sC]
     refine wpAnyH_ready (rs:=[12]) (by kernel_rfl) (by simp) ?_;refine AllReadyH.cons rfl (fun K hK=>?_) AllReadyH.nil;go_simp;have HB8:Hid (Below w2.heap.size w2 (wc.alloc (.cells #[.int .i64 na,.int .i64 nc,.int .i64 0,.int .i64 0,.string ⟨#[]⟩,.int .i64 wt,.int .i64 ln] 61))):=Lh (bwc.alloc bwc.size _);have he8:=yl wc #[.int .i64 na,.int .i64 nc,.int .i64 0,.int .i64 0,.string ⟨#[]⟩,.int .i64 wt,.int .i64 ln] 61;refine hK.out _ _ ⟨yb HB8.out x0,yb HB8.out x1,yb HB8.out x4⟩ (fun hHeld=>?_);clear hK K
     try simp only[sA,sB,sC]
     refine wpAnyH_done (by kernel_rfl) ?_ _;obtain⟨Eb,hEb⟩:∃ Eb,wc.heap.size=Eb:=⟨_,rfl⟩
     have hEl:H<Eb:=by have h9:=HSZ2.out;have h8:=bwc.size;omega
     have hEl2:w2.heap.size<=Eb:=by have h8:=bwc.size;omega
     rw[hEb] at he8;simp only[hEb];have HE8:=Lh he8;clear hHeld hEb he8 ba ywa0 ywa1 ywa4 ywc0 ywc1 ywc4;generalize wc.alloc (.cells #[.int .i64 na,.int .i64 nc,.int .i64 0,.int .i64 0,.string ⟨#[]⟩,.int .i64 wt,.int .i64 ln] 61)=w8 at *;clear bwa bwc
     rotate_left
     go_simp;have ba:Below w2.heap.size w2 (wa.alloc (.cells #[.int .i64 0,.int .i64 0,.int .i64 0,.int .i64 0,.string ⟨#[]⟩,.int .i64 0,.int .i64 0] 61)):=bwa.alloc bwa.size _;have ea:blk (wa.alloc (.cells #[.int .i64 0,.int .i64 0,.int .i64 0,.int .i64 0,.string ⟨#[]⟩,.int .i64 0,.int .i64 0] 61)) wa.heap.size 61 #[.int .i64 0,.int .i64 0,.int .i64 0,.int .i64 0,.string ⟨#[]⟩,.int .i64 0,.int .i64 0]:=yl wa #[.int .i64 0,.int .i64 0,.int .i64 0,.int .i64 0,.string ⟨#[]⟩,.int .i64 0,.int .i64 0] 61;refine hK.out _ _ ⟨yb ba x0,yb ba x1,yb ba x4⟩ (fun hHeld=>?_);clear hK K
     try simp only[sA,sB,sC]
     obtain⟨Eb,hEb⟩:∃ Eb,wa.heap.size=Eb:=⟨_,rfl⟩
     have hEl:H<Eb:=by have h9:=HSZ2.out;have h8:=bwa.size;omega
     have hEl2:w2.heap.size<=Eb:=by have h8:=bwa.size;omega
     rw[hEb] at ea;simp only[hEb];generalize (wa.alloc (.cells #[.int .i64 0,.int .i64 0,.int .i64 0,.int .i64 0,.string ⟨#[]⟩,.int .i64 0,.int .i64 0] 61))=wd at *;clear hHeld hEb;refine wpAnyH_ready (rs:=[9]) (by kernel_rfl) (by simp) ?_;refine AllReadyH.cons rfl (fun K hK=>?_) AllReadyH.nil;go_simp;refine(yck 2 _ l ⟨#[108,101,110]⟩ ln wd (Lh ((HPQ.out.keep HBX.out).keep ba).prs) HVA HLN2).mono ?_;rintro e wc ⟨rfl,hbn⟩;have bwc:=ba.trans (hbn.mono ba.size);have ewc:=ym ea hbn;have ywc0:=yb bwc x0;have ywc1:=yb bwc x1;have ywc4:=yb bwc x4;clear hbn hHeld;refine hK.out _ _ ⟨ywc0,ywc1,ywc4⟩ (fun hHeld=>?_);clear hK K
     try simp only[sA,sB,sC]
     refine tk 10 83 (.agg #[.int .i64 na,.int .i64 nc,.int .i64 0,.int .i64 0,.string ⟨#[]⟩,.int .i64 wt,.int .i64 ln]) ?_
     try simp only[sA,sB,sC]
     obtain⟨t0,t1,t2,t3,t4,t5,t6⟩:=b7c ewc;have z0:=yi ewc 0;have z1:=yi ewc 1;have z2:=yi ewc 2;have z3:=yi ewc 3;have z4:=yi ewc 4;have z5:=yi ewc 5;have z6:=yi ewc 6;refine wpAnyH_ready (rs:=[12]) (by kernel_rfl) (by simp) ?_;refine AllReadyH.cons rfl (fun K hK=>?_) AllReadyH.nil;go_simp;have HE8:Hid (blk (((((((wc.setCell ⟨Eb,0,none⟩ (.int .i64 na)).setCell ⟨Eb,1,none⟩ (.int .i64 nc)).setCell ⟨Eb,2,none⟩ (.int .i64 0)).setCell ⟨Eb,3,none⟩ (.int .i64 0)).setCell ⟨Eb,4,none⟩ (.string ⟨#[]⟩)).setCell ⟨Eb,5,none⟩ (.int .i64 wt)).setCell ⟨Eb,6,none⟩ (.int .i64 ln)) Eb 61 #[.int .i64 na,.int .i64 nc,.int .i64 0,.int .i64 0,.string ⟨#[]⟩,.int .i64 wt,.int .i64 ln]):=Lh (yny ewc _ _ _ _ _ _ _);have HB8:Hid (Below w2.heap.size w2 (((((((wc.setCell ⟨Eb,0,none⟩ (.int .i64 na)).setCell ⟨Eb,1,none⟩ (.int .i64 nc)).setCell ⟨Eb,2,none⟩ (.int .i64 0)).setCell ⟨Eb,3,none⟩ (.int .i64 0)).setCell ⟨Eb,4,none⟩ (.string ⟨#[]⟩)).setCell ⟨Eb,5,none⟩ (.int .i64 wt)).setCell ⟨Eb,6,none⟩ (.int .i64 ln))):=Lh (ygw bwc (by omega) _ _ _ _ _ _ _);refine hK.out _ _ ⟨yb HB8.out x0,yb HB8.out x1,yb HB8.out x4⟩ (fun hHeld=>?_);clear hK K
     try simp only[sA,sB,sC]
     refine wpAnyH_done (by kernel_rfl) ?_ _;clear hHeld t0 t1 t2 t3 t4 t5 t6 z0 z1 z2 z3 z4 z5 z6;generalize (((((((wc.setCell ⟨Eb,0,none⟩ (.int .i64 na)).setCell ⟨Eb,1,none⟩ (.int .i64 nc)).setCell ⟨Eb,2,none⟩ (.int .i64 0)).setCell ⟨Eb,3,none⟩ (.int .i64 0)).setCell ⟨Eb,4,none⟩ (.string ⟨#[]⟩)).setCell ⟨Eb,5,none⟩ (.int .i64 wt)).setCell ⟨Eb,6,none⟩ (.int .i64 ln))=w8 at *;clear bwa bwc ba ea ewc ywa0 ywa1 ywa4 ywc0 ywc1 ywc4
     rotate_left
     go_simp;have ba:Below w2.heap.size w2 ((w2.alloc (.cells #[.int .i64 0,.int .i64 0,.int .i64 0,.int .i64 0,.string ⟨#[]⟩,.int .i64 0,.int .i64 0] 61)).drew):=((Below.refl w2.heap.size w2).alloc (Nat.le_refl _) _).drew;have ea:blk ((w2.alloc (.cells #[.int .i64 0,.int .i64 0,.int .i64 0,.int .i64 0,.string ⟨#[]⟩,.int .i64 0,.int .i64 0] 61)).drew) w2.heap.size 61 #[.int .i64 0,.int .i64 0,.int .i64 0,.int .i64 0,.string ⟨#[]⟩,.int .i64 0,.int .i64 0]:=yl w2 #[.int .i64 0,.int .i64 0,.int .i64 0,.int .i64 0,.string ⟨#[]⟩,.int .i64 0,.int .i64 0] 61;refine hK.out _ _ ⟨yb ba x0,yb ba x1,yb ba x4⟩ (fun hHeld=>?_);clear hK K
     try simp only[sA,sB,sC]
     obtain⟨Eb,hEb⟩:∃ Eb,w2.heap.size=Eb:=⟨_,rfl⟩
     have hEl:H<Eb:=by have h9:=HSZ2.out;have h8:=hbd.size;omega
     have hEl2:w2.heap.size<=Eb:=by have h8:=hbd.size;omega
     rw[hEb] at ea;simp only[hEb];generalize ((w2.alloc (.cells #[.int .i64 0,.int .i64 0,.int .i64 0,.int .i64 0,.string ⟨#[]⟩,.int .i64 0,.int .i64 0] 61)).drew)=wd at *;clear hHeld hEb;refine wpAnyH_ready (rs:=[6]) (by kernel_rfl) (by simp) ?_;refine AllReadyH.cons rfl (fun K hK=>?_) AllReadyH.nil;go_simp;refine(yck 2 _ l ⟨#[119,101,105,103,104,116]⟩ wt wd (Lh ((HPQ.out.keep HBX.out).keep ba).prs) HVA HWT).mono ?_;rintro e wa ⟨rfl,hbn⟩;have bwa:=ba.trans (hbn.mono ba.size);have ewa:=ym ea hbn;have ywa0:=yb bwa x0;have ywa1:=yb bwa x1;have ywa4:=yb bwa x4;clear hbn hHeld;refine hK.out _ _ ⟨ywa0,ywa1,ywa4⟩ (fun hHeld=>?_);clear hK K
     try simp only[sA,sB,sC]
     refine wpAnyH_ready (rs:=[9]) (by kernel_rfl) (by simp) ?_;refine AllReadyH.cons rfl (fun K hK=>?_) AllReadyH.nil;go_simp;refine(yck 2 _ l ⟨#[108,101,110]⟩ ln wa (Lh ((HPQ.out.keep HBX.out).keep bwa).prs) HVA HLN2).mono ?_;rintro e wc ⟨rfl,hbn⟩;have bwc:=bwa.trans (hbn.mono bwa.size);have ewc:=ym ewa hbn;have ywc0:=yb bwc x0;have ywc1:=yb bwc x1;have ywc4:=yb bwc x4;clear hbn hHeld;refine hK.out _ _ ⟨ywc0,ywc1,ywc4⟩ (fun hHeld=>?_);clear hK K
     try simp only[sA,sB,sC]
     refine tk 10 83 (.agg #[.int .i64 na,.int .i64 nc,.int .i64 0,.int .i64 0,.string ⟨#[]⟩,.int .i64 wt,.int .i64 ln]) ?_
     try simp only[sA,sB,sC]
     obtain⟨t0,t1,t2,t3,t4,t5,t6⟩:=b7c ewc;have z0:=yi ewc 0;have z1:=yi ewc 1;have z2:=yi ewc 2;have z3:=yi ewc 3;have z4:=yi ewc 4;have z5:=yi ewc 5;have z6:=yi ewc 6;refine wpAnyH_ready (rs:=[12]) (by kernel_rfl) (by simp) ?_;refine AllReadyH.cons rfl (fun K hK=>?_) AllReadyH.nil;go_simp;have HE8:Hid (blk (((((((wc.setCell ⟨Eb,0,none⟩ (.int .i64 na)).setCell ⟨Eb,1,none⟩ (.int .i64 nc)).setCell ⟨Eb,2,none⟩ (.int .i64 0)).setCell ⟨Eb,3,none⟩ (.int .i64 0)).setCell ⟨Eb,4,none⟩ (.string ⟨#[]⟩)).setCell ⟨Eb,5,none⟩ (.int .i64 wt)).setCell ⟨Eb,6,none⟩ (.int .i64 ln)) Eb 61 #[.int .i64 na,.int .i64 nc,.int .i64 0,.int .i64 0,.string ⟨#[]⟩,.int .i64 wt,.int .i64 ln]):=Lh (yny ewc _ _ _ _ _ _ _);have HB8:Hid (Below w2.heap.size w2 (((((((wc.setCell ⟨Eb,0,none⟩ (.int .i64 na)).setCell ⟨Eb,1,none⟩ (.int .i64 nc)).setCell ⟨Eb,2,none⟩ (.int .i64 0)).setCell ⟨Eb,3,none⟩ (.int .i64 0)).setCell ⟨Eb,4,none⟩ (.string ⟨#[]⟩)).setCell ⟨Eb,5,none⟩ (.int .i64 wt)).setCell ⟨Eb,6,none⟩ (.int .i64 ln))):=Lh (ygw bwc (by omega) _ _ _ _ _ _ _);refine hK.out _ _ ⟨yb HB8.out x0,yb HB8.out x1,yb HB8.out x4⟩ (fun hHeld=>?_);clear hK K
     try simp only[sA,sB,sC]
     refine wpAnyH_done (by kernel_rfl) ?_ _;clear hHeld t0 t1 t2 t3 t4 t5 t6 z0 z1 z2 z3 z4 z5 z6;generalize (((((((wc.setCell ⟨Eb,0,none⟩ (.int .i64 na)).setCell ⟨Eb,1,none⟩ (.int .i64 nc)).setCell ⟨Eb,2,none⟩ (.int .i64 0)).setCell ⟨Eb,3,none⟩ (.int .i64 0)).setCell ⟨Eb,4,none⟩ (.string ⟨#[]⟩)).setCell ⟨Eb,5,none⟩ (.int .i64 wt)).setCell ⟨Eb,6,none⟩ (.int .i64 ln))=w8 at *;clear bwa bwc ba ea ewa ewc ywa0 ywa1 ywa4 ywc0 ywc1 ywc4
     all_goals
      have HBW8:Hid (Below wq.heap.size wq w8):=Lh (HBX.out.trans (HB8.out.mono HBX.out.size));have HY8:=Lh (ym HX2.out HB8.out);have y4:=bc 4 HY8.out;have e4:=bc 4 HE8.out;have z4:=yi HE8.out 4;clear x0 x1 x4 hbd HB8 HX2 HBX hEl2 HSZ2;go_wp2_with fail
      refine(ydU _ l ⟨#[108,97,98,101,108]⟩ lb lbb w8 (Lh (HPQ.out.keep HBW8.out).prs) HLB).mono ?_;rintro e w9 ⟨rfl,hw9⟩;subst w9;have HE9:Hid (blk (w8.setCell ⟨Eb,4,none⟩ (.string (bb lb))) Eb 61 #[.int .i64 na,.int .i64 nc,.int .i64 0,.int .i64 0,.string (bb lb),.int .i64 wt,.int .i64 ln]):=Lh (yg HE8.out _);have HY9:=Lh (yW (o:=4) HY8.out (show H≠Eb by omega) (.string (bb lb)));have HB9:Hid (Below wq.heap.size wq (w8.setCell ⟨Eb,4,none⟩ (.string (bb lb)))):=Lh (HBW8.out.setCell (by have h9:=HH.out;simp only;omega) _);clear HE8 HY8 HBW8;go_wp2_with fail
      generalize w8.setCell ⟨Eb,4,none⟩ (.string (bb lb))=w9 at *;clear y4 e4 z4;have hgf9:=HGF.out.below HB9.out;have g2:=bc 2 hgf9.gb;obtain⟨x0,x1,x2,x3⟩:=b4c HY9.out;have p5b:=yb HB9.out p5;have p6b:=yb HB9.out p6;have e2:=bc 2 HE9.out;have e3:=bc 3 HE9.out;have z2:=yi HE9.out 2;have z3:=yi HE9.out 3;have hQ1:gra.Pts w9.drew (.slice o1 pl1.length k1) pl1:=HPT1.out _ _ (ybH HPA.out HB9.out.drew);have hQ2:gra.Pts w9.drew (.slice o2 pl2.length k2) pl2:=HPT2.out _ _ (ybH HPC.out HB9.out.drew);have HQ1:=Lh hQ1;have HQ2:=Lh hQ2;clear hgf9 hQ1 hQ2;refine wp_region_held_drew (S:=(fun W:World=>W.cell? ⟨w.heap.size+1,2,none⟩=some (.slice (some ⟨g,0,none⟩) L.length lc)/\W.cell? ⟨H,0,none⟩=some (.int .i64 na)/\W.cell? ⟨H,1,none⟩=some (.int .i64 nc)/\W.cell? ⟨H,2,none⟩=some (.string (bb fp))/\W.cell? ⟨H,3,none⟩=some (.string (bb tp))/\W.cell? ⟨g,na*6+5,none⟩=some (.slice o1 pl1.length k1)/\W.cell? ⟨g,nc*6+5,none⟩=some (.slice o2 pl2.length k2))) (by kernel_rfl) (⟨yf g2,yf x0,yf x1,yf x2,yf x3,yf p5b,yf p6b⟩) (fun hHeld=>?_);refine tk 0 91 (.pointer (some ⟨(w.heap.size+1),2,none⟩)) ?_;refine tk 1 92 (.slice (some ⟨g,0,none⟩) L.length lc) ?_;refine tk 2 93 (.pointer (some ⟨H,0,none⟩)) ?_;refine tk 3 94 (.int .i64 na) ?_;refine tk 4 95 (.pointer (some ⟨g,na*6,none⟩)) ?_;refine tk 5 96 (.pointer (some ⟨g,na*6+5,none⟩)) ?_;refine tk 6 97 (.slice o1 pl1.length k1) ?_;refine tk 7 98 (.pointer (some ⟨H,2,none⟩)) ?_;refine tk 8 99 (.string (bb fp)) ?_
      refine tk 10 101 (.pointer (some ⟨(w.heap.size+1),2,none⟩)) ?_;refine tk 11 102 (.slice (some ⟨g,0,none⟩) L.length lc) ?_;refine tk 12 103 (.pointer (some ⟨H,1,none⟩)) ?_;refine tk 13 104 (.int .i64 nc) ?_;refine tk 14 105 (.pointer (some ⟨g,nc*6,none⟩)) ?_;refine tk 15 106 (.pointer (some ⟨g,nc*6+5,none⟩)) ?_;refine tk 16 107 (.slice o2 pl2.length k2) ?_;refine tk 17 108 (.pointer (some ⟨H,3,none⟩)) ?_;refine tk 18 109 (.string (bb tp)) ?_
      try simp only[sA,sB,sC]
      refine wpAnyH_ready (rs:=[9]) (by kernel_rfl) (by simp) ?_;refine AllReadyH.cons rfl (fun K hK=>?_) AllReadyH.nil;go_simp;refine(yky _ pl1 (bb fp) fn w9.drew HQ1 HFN).mono ?_;rintro e wz ⟨rfl,hwz⟩;subst wz;refine hK.out _ _ ⟨yf g2,yf x0,yf x1,yf x2,yf x3,yf p5b,yf p6b⟩ (fun hHeld=>?_);clear hK K
      try simp only[sA,sB,sC]
      refine tk 20 111 (.pointer (some ⟨Eb,2,none⟩)) ?_
      try simp only[sA,sB,sC]
      refine wpAnyH_ready (rs:=[19]) (by kernel_rfl) (by simp) ?_;refine AllReadyH.cons rfl (fun K hK=>?_) AllReadyH.nil;go_simp;refine(yky _ pl2 (bb tp) tn w9.drew HQ2 HTN).mono ?_;rintro e wz ⟨rfl,hwz⟩;subst wz;refine hK.out _ _ ⟨yf g2,yf x0,yf x1,yf x2,yf x3,yf p5b,yf p6b⟩ (fun hHeld=>?_);clear hK K
      try simp only[sA,sB,sC]
      refine wpAnyH_ready (rs:=[21]) (by kernel_rfl) (by simp) ?_;refine AllReadyH.cons rfl (fun K hK=>?_) AllReadyH.nil;go_simp;refine hK.out _ _ ⟨yC (by simp only;omega) (yf g2),yC (by simp only;omega) (yf x0),yC (by simp only;omega) (yf x1),yC (by simp only;omega) (yf x2),yC (by simp only;omega) (yf x3),yC (by simp only;omega) (yf p5b),yC (by simp only;omega) (yf p6b)⟩ (fun hHeld=>?_);clear hK K
      try simp only[sA,sB,sC]
      refine tk 22 112 (.pointer (some ⟨Eb,3,none⟩)) ?_;refine wpAnyH_ready (rs:=[23]) (by kernel_rfl) (by simp) ?_;refine AllReadyH.cons rfl (fun K hK=>?_) AllReadyH.nil;go_simp;refine hK.out _ _ ⟨yC (by simp only;omega) (yC (by simp only;omega) (yf g2)),yC (by simp only;omega) (yC (by simp only;omega) (yf x0)),yC (by simp only;omega) (yC (by simp only;omega) (yf x1)),yC (by simp only;omega) (yC (by simp only;omega) (yf x2)),yC (by simp only;omega) (yC (by simp only;omega) (yf x3)),yC (by simp only;omega) (yC (by simp only;omega) (yf p5b)),yC (by simp only;omega) (yC (by simp only;omega) (yf p6b))⟩ (fun hHeld=>?_);clear hK K
      try simp only[sA,sB,sC]
      refine wpAnyH_done (by kernel_rfl) ?_ _;have HE10:Hid (blk (((w9.setCell ⟨Eb,2,none⟩ (.int .i64 fn)).setCell ⟨Eb,3,none⟩ (.int .i64 tn)).drew) Eb 61 #[.int .i64 na,.int .i64 nc,.int .i64 fn,.int .i64 tn,.string (bb lb),.int .i64 wt,.int .i64 ln]):=Lh (by have h9:=yg (o:=3) (yg (o:=2) HE9.out (.int .i64 fn)) (.int .i64 tn);exact h9);have HB10:Hid (Below wq.heap.size wq (((w9.setCell ⟨Eb,2,none⟩ (.int .i64 fn)).setCell ⟨Eb,3,none⟩ (.int .i64 tn)).drew)):=Lh (((HB9.out.setCell (by have h9:=HH.out;simp only;omega) _).setCell (by have h9:=HH.out;simp only;omega) _).drew);clear HE9 HY9 HB9 g2 x0 x1 x2 x3 p5b p6b e2 e3 z2 z3 HQ1 HQ2 hHeld p5 p6;generalize (((w9.setCell ⟨Eb,2,none⟩ (.int .i64 fn)).setCell ⟨Eb,3,none⟩ (.int .i64 tn)).drew)=w10 at *;have hgf10:=HGF.out.below HB10.out;have HGF10:=Lh hgf10;have HBW10:=Lh (HBQ.out.trans (HB10.out.mono (Nat.le_trans (Nat.le_succ _) (Nat.le_of_lt HGF.out.lt))));obtain⟨e0,e1,e2,e3,e4,e5,e6⟩:=b7c HE10.out
      by_cases hf:fn=-2
      case pos =>
       have df:decide (fn=-2)=true:=decide_eq_true hf;have HBAD:=Lh hf;clear hf;have HRS:Hid (RS=(emG,5)):=Lh (by rw[<- hR.out,HNO.out,HALL.out (by unfold yhT;simp[HBAD.out]),if_pos rfl]);obtain rfl:=HRS.out;have hrb:=HGF10.out.rb;obtain⟨n0,n1,n2,n3,n4⟩:=b5c hrb;have m0:=yi hrb 0;have m1:=yi hrb 1;have m2:=yi hrb 2;have m3:=yi hrb 3;have m4:=yi hrb 4;go_wp2;have hgx:=ycO hrb (.string ⟨#[]⟩) (.bool false) (.slice none 0 0) (.slice none 0 0) (.slice none 0 0);obtain⟨r0,r1,r2,r3,r4⟩:=gcl hgx;refine bodyPost_ret (v:=.tuple #[.agg #[.string ⟨#[]⟩,.bool false,.slice none 0 0,.slice none 0 0,.slice none 0 0],.int .i64 5]) (by simp[results,results49,go_sem,r0,r1,r2,r3,r4]) rfl ?_;exact⟨_,rfl,yiC _,yaq HBW10.out (Nat.le_refl _) _ _ _ _ _⟩
      by_cases ht:tn=-2
      case pos =>
       have df:decide (fn=-2)=false:=decide_eq_false hf;have dt:decide (tn=-2)=true:=decide_eq_true ht;have bf:(fn == -2)=false:=by rw[beq_eq_false_iff_ne];exact hf
       have bt:(tn == -2)=true:=by rw[beq_iff_eq];exact ht
       have HBAD:=Lh ht;clear hf ht;have HRS:Hid (RS=(emG,5)):=Lh (by rw[<- hR.out,HNO.out,HALL.out (by unfold yhT;simp[HBAD.out]),if_pos rfl]);obtain rfl:=HRS.out;have hrb:=HGF10.out.rb;obtain⟨n0,n1,n2,n3,n4⟩:=b5c hrb;have m0:=yi hrb 0;have m1:=yi hrb 1;have m2:=yi hrb 2;have m3:=yi hrb 3;have m4:=yi hrb 4;go_wp2;have hgx:=ycO hrb (.string ⟨#[]⟩) (.bool false) (.slice none 0 0) (.slice none 0 0) (.slice none 0 0);obtain⟨r0,r1,r2,r3,r4⟩:=gcl hgx;refine bodyPost_ret (v:=.tuple #[.agg #[.string ⟨#[]⟩,.bool false,.slice none 0 0,.slice none 0 0,.slice none 0 0],.int .i64 5]) (by simp[results,results49,go_sem,r0,r1,r2,r3,r4]) rfl ?_;exact⟨_,rfl,yiC _,yaq HBW10.out (Nat.le_refl _) _ _ _ _ _⟩
      have df:decide (fn=-2)=false:=decide_eq_false hf;have dt:decide (tn=-2)=false:=decide_eq_false ht;have bf:(fn == -2)=false:=by rw[beq_eq_false_iff_ne];exact hf
      have bt:(tn == -2)=false:=by rw[beq_eq_false_iff_ne];exact ht
      have HNB:Hid (yhT ⟨(na:Int),(nc:Int),fn,tn,lb,wt,ln⟩=false):=Lh (by unfold yhT;simp[hf,ht]);obtain⟨vo,vc,rfl,_,_⟩:=yu hgf10.er;have g3:=bc 3 hgf10.gb;have HER:=Lh hgf10.er;have hgl10:=hgf10.lt;have hsz10:w.heap.size<=w10.heap.size:=by omega
      have hes:es.length<=30000000:=by rw[HES.out,List.length_map,List.length_take];omega
      clear hf ht hgf10
      go_wp2_with (at_builtin;refine ytT rfl (.tmp 123) (.tmp 125) rfl w.heap.size _ es ⟨(na:Int),(nc:Int),fn,tn,lb,wt,ln⟩ _ rfl rfl rfl HER hes hsz10 ?_)
      intro xo xc w12 hrow12 hgr12;obtain⟨⟨hg12,hb12⟩,hgf13,hb13⟩:=HGF10.out.growE (Below.refl _ _) hgr12 hrow12;have c12:=bc 3 hg12;have f12:=yi hg12 3;have HGF13:=Lh hgf13;have HB13:=Lh (HBW10.out.trans hb13);clear hgf13 hb13 hg12 hb12 hgr12 hrow12;go_wp2
      go_roundw
      case rel=>exact⟨j+1,es++[⟨(na:Int),(nc:Int),fn,tn,lb,wt,ln⟩],_,by go_num,by omega,HGF13.out,HTKE.out.symm,by rw[<- HTKE.out];exact HANX.out HNB.out,HB13.out⟩
      case measure=>simp[intOf];omega
  case pos =>
   have hlt2:i<avs.length:=by have:=HAL.out;omega
   have hlt3:i<s.ats.length:=by have:=hok.out.len;omega
   obtain⟨A,nc',eA,q0,q1,q2,q3,q4,q5⟩:=yhA hst.nr hlt;cases eA
   obtain⟨ao',ac',eB,hA⟩:=ygu hst.ar;cases eB
   obtain⟨Ar,rfl,r0⟩:=hA i hlt2;have hpt:=hst.ap i hlt2 hlt3;have c5:=hst.box.read.2.2.1;simp only at c5 hpt;have HGA:=Lh (hok.out.ga.1 _ (List.getElem_mem hlt3));have HVA:=Lh (hok.out.va.1 _ (List.getElem_mem hlt3));have HTK:=Lh (HNG.out i hlt hlt3);obtain⟨u,hu⟩:∃ u,avs[i]=u:=⟨_,rfl⟩
   obtain⟨l,hl⟩:∃ l,s.ats[i]=l:=⟨_,rfl⟩
   obtain⟨c,hc⟩:∃ c,s.ns[i]=c:=⟨_,rfl⟩
   rw[hu] at r0 hpt;have HUQ:=Lh hu;have HCQ:=Lh hc;rw[hl] at hpt HGA HVA HTK;rw[hc] at q0 q4 HTK;obtain⟨uo,uc,rfl,_,_,_⟩:=id hpt.prs;obtain⟨lo,lc,rfl,_,_⟩:=yu HGR.out.fr;have HPT:=Lh hpt;have g2:=bc 2 HGR.out.gb;have hgl:=HGR.out.lt;have hLl:L.length<=30000000:=by have:=HLI.out;omega
   have hAb:(A.add (i*6)).block<wr.heap.size:=World.block_lt_of_cell? _ _ q0;have i0:(0:Int)<=(i:Int):=by omega
   have i1:(i:Int)<(s.ns.length:Int):=by omega
   have i2:(i:Int)<(avs.length:Int):=by omega
   obtain⟨i9,hi0,hz0,hz1,hz2⟩:=ycM yng;clear hpt hu hl hc hA hst hlt3;go_wp2_with fail
   have hBd:Below wr.heap.size wr wr.drew:=(Below.refl wr.heap.size wr).drew;refine wp_region_held_drew (S:=(fun W:World=>W.cell? ⟨b,2,none⟩=some (.slice (some A) s.ns.length nc)/\W.cell? ⟨b,5,none⟩=some (.slice (some Ar) avs.length ac)/\W.cell? (A.add (i*6))=some (.string (bb c.1))/\W.cell? ⟨(A.add (i*6)).block,(A.add (i*6)).off+1,none⟩=some (.string ⟨#[]⟩)/\W.cell? ⟨(A.add (i*6)).block,(A.add (i*6)).off+2,none⟩=some (.int .i64 0)/\W.cell? ⟨(A.add (i*6)).block,(A.add (i*6)).off+3,none⟩=some (.int .i64 0)/\W.cell? ⟨(A.add (i*6)).block,(A.add (i*6)).off+4,none⟩=some (.int .i64 c.2)/\W.cell? ⟨(A.add (i*6)).block,(A.add (i*6)).off+5,none⟩=some (.slice none 0 0)/\W.cell? (Ar.add i)=some (.slice uo l.length uc))) (by kernel_rfl) (⟨yf c2,yf c5,yf q0,yf q1,yf q2,yf q3,yf q4,yf q5,yf r0⟩) (fun hHeld=>?_);refine tk 0 36 (.pointer (some ⟨(w.heap.size+1),2,none⟩)) ?_;refine tk 2 38 (.pointer (some ⟨b,0,none⟩)) ?_;refine tk 3 39 (.pointer (some ⟨b,0,none⟩)) ?_;refine tk 4 40 (.pointer (some ⟨b,0,none⟩)) ?_;refine tk 5 41 (.pointer (some ⟨b,2,none⟩)) ?_;refine tk 6 42 (.slice (some A) s.ns.length nc) ?_;refine tk 7 43 (.int .i64 (i:Int)) ?_;refine tk 8 44 (.pointer (some (A.add (i*6)))) ?_;refine tk 9 45 (.agg #[.string (bb c.1),.string ⟨#[]⟩,.int .i64 0,.int .i64 0,.int .i64 c.2,.slice none 0 0]) ?_;refine tk 10 46 (.pointer (some ⟨b,0,none⟩)) ?_;refine tk 11 47 (.pointer (some ⟨b,0,none⟩)) ?_;refine tk 12 48 (.pointer (some ⟨b,5,none⟩)) ?_;refine tk 13 49 (.slice (some Ar) avs.length ac) ?_
   refine tk 14 50 (.int .i64 (i:Int)) ?_;refine tk 15 51 (.pointer (some (Ar.add i))) ?_;refine tk 16 52 (.slice uo l.length uc) ?_
   try simp only[sA,sB,sC]
   refine wpAnyH_ready (rs:=[1,17]) (by kernel_rfl) (by simp) ?_;refine AllReadyH.cons rfl (fun K hK=>?_) (AllReadyH.cons rfl (fun K hK=>?_) AllReadyH.nil)
   ·
    go_simp;refine hK.out _ _ ⟨yf c2,yf c5,yf q0,yf q1,yf q2,yf q3,yf q4,yf q5,yf r0⟩ (fun hHeld=>?_);clear hK K
    try simp only[sA,sB,sC]
    refine wpAnyH_ready (rs:=[17]) (by kernel_rfl) (by simp) ?_;refine AllReadyH.cons rfl (fun K hK=>?_) AllReadyH.nil;go_simp;refine(yfB c l _ wr.drew (Lh (HPT.out.prs.keep hBd)) HGA HVA).mono ?_;rintro e w6 ⟨pv,rfl,hpt6,hb6⟩;have hb66:Below wr.heap.size wr w6:=ya hb6 hBd;obtain⟨po,pc,hpv,_,_,_⟩:=id hpt6.pos;obtain⟨Y,hY⟩:∃ Y,ygJ c l=Y:=⟨_,rfl⟩
    rw[hY] at hpt6 HTK hpv;simp only[hY];subst hpv;have HP6:=Lh hpt6;have c26:=yb hb66 c2;have c56:=yb hb66 c5;have q06:=yb hb66 q0;have q16:=yb hb66 q1;have q26:=yb hb66 q2;have q36:=yb hb66 q3;have q46:=yb hb66 q4;have q56:=yb hb66 q5;have r06:=yb hb66 r0;have g26:=yb hb66 g2;have HB66:=Lh hb66;have hsz6:=hb66.size;clear hpt6 hb6 hb66 hY hHeld;refine hK.out _ _ ⟨c26,c56,q06,q16,q26,q36,q46,q56,r06⟩ (fun hHeld=>?_);clear hK K
    try simp only[sA,sB,sC]
    refine wpAnyH_ready (rs:=[18]) (by kernel_rfl) (by simp) ?_;refine AllReadyH.cons rfl (fun K hK=>?_) AllReadyH.nil;go_simp;refine hK.out _ _ ⟨yh c26,yh c56,yh q06,yh q16,yh q26,yh q36,yh q46,yh q56,yh r06⟩ (fun hHeld=>?_);clear hK K
    try simp only[sA,sB,sC]
    refine wpAnyH_ready (rs:=[19]) (by kernel_rfl) (by simp) ?_;refine AllReadyH.cons rfl (fun K hK=>?_) AllReadyH.nil;refine step_append_lies _ (by rfl) _ _ _ (by rfl) w.heap.size 59 i9 _ 6 80 underlying22 hi0 hz0 hz1 hz2 rfl (by omega) (.slice lo L.length lc) L.length (L.flatMap nfC) (by rfl) (by exact yr (yr HGR.out.fr HB66.out) (by repeat (first | (with_reducible exact Below.refl _ _) | (with_reducible refine Below.drew ?_) | (with_reducible refine yy ?_ ?_) | (simp;done) | omega))) ⟨w6.heap.size,0,none⟩ 1 1 [.string (bb Y.nm),.string (bb Y.lb),.int .i64 Y.w,.int .i64 Y.h,.int .i64 Y.cl,.slice po Y.ps.length pc] (by rfl) (by rfl) (by exact World.news_of_block (cs:=#[.string (bb Y.nm),.string (bb Y.lb),.int .i64 Y.w,.int .i64 Y.h,.int .i64 Y.cl,.slice po Y.ps.length pc]) (t:=59) (fr:=(0,0)) (heap_alloc_new _ _)) (by simp[Value.oneCell']) (by omega) (by unfold maxLen;omega) (by omega) (by simp;omega) (w6.heap.size+1) (by simp) ?_;intro gg cap1 w7 hown7 hgrow7 hat7 hlt7;have hbd7:Below w6.heap.size w6 (w6.alloc (.cells #[.string (bb Y.nm),.string (bb Y.lb),.int .i64 Y.w,.int .i64 Y.h,.int .i64 Y.cl,.slice po Y.ps.length pc] 59)):=al1 ..;obtain⟨⟨hg7,hb7⟩,hgf7,hb8⟩:=(HGR.out.below HB66.out).growN (y:=(Y,.slice po Y.ps.length pc)) (nv':=.slice (some ⟨gg,0,none⟩) (L.length+1) cap1) (by exact(by repeat (first | (with_reducible exact Below.refl _ _) | (with_reducible refine Below.drew ?_) | (with_reducible refine yy ?_ ?_) | (simp;done) | omega))) hgrow7 (by show World.ownsRow _ _ _ _ _ (L++[_]).length _;rw[List.length_append,List.flatMap_append];exact hown7) (by exact ybH HP6.out (by repeat (first | (with_reducible exact Below.refl _ _) | (with_reducible refine Below.drew ?_) | (with_reducible refine yy ?_ ?_) | (simp;done) | omega)))
    have hfz7:=yi hg7 2;have hc7:=bc 2 hg7;have HGF8:=Lh hgf7;have hbw7:Below w.heap.size w w7:=(HBR.out.trans (HB66.out.mono (by omega))).trans hb7;have HB8:=Lh ((HBR.out.trans (HB66.out.mono (by omega))).trans hb8);have hst7:=hS.out.below hbw7
    have hrest:∀ W,Below w.heap.size w W->(W.cell? ⟨b,2,none⟩=some (.slice (some A) s.ns.length nc)/\W.cell? ⟨b,5,none⟩=some (.slice (some Ar) avs.length ac)/\W.cell? (A.add (i*6))=some (.string (bb c.1))/\W.cell? ⟨(A.add (i*6)).block,(A.add (i*6)).off+1,none⟩=some (.string ⟨#[]⟩)/\W.cell? ⟨(A.add (i*6)).block,(A.add (i*6)).off+2,none⟩=some (.int .i64 0)/\W.cell? ⟨(A.add (i*6)).block,(A.add (i*6)).off+3,none⟩=some (.int .i64 0)/\W.cell? ⟨(A.add (i*6)).block,(A.add (i*6)).off+4,none⟩=some (.int .i64 c.2)/\W.cell? ⟨(A.add (i*6)).block,(A.add (i*6)).off+5,none⟩=some (.slice none 0 0)/\W.cell? (Ar.add i)=some (.slice uo l.length uc)):=fun W hW=>by
     have hst:=hS.out.below hW;obtain⟨A',nc',eA,t0,t1,t2,t3,t4,t5⟩:=yhA hst.nr hlt;cases eA
     obtain⟨ao',ac',eB,hA⟩:=ygu hst.ar;cases eB
     obtain⟨Ar',eC,t6⟩:=hA i (by have:=HAL.out;omega);cases eC
     rw[HCQ.out] at t0 t4;rw[HUQ.out] at t6;exact⟨by rw[yd hst.box];rfl,by rw[yd hst.box];rfl,t0,t1,t2,t3,t4,t5,t6⟩
    clear hgf7 hb7 hgrow7 hat7 hlt7 hown7 hg7 hst7 hHeld;refine hK.out _ _ (hrest w7 hbw7) (fun hHeld=>?_);clear hK K
    try simp only[sA,sB,sC]
    refine tk 20 56 (.pointer (some ⟨(w.heap.size+1),2,none⟩)) ?_
    try simp only[sA,sB,sC]
    refine wpAnyH_ready (rs:=[21]) (by kernel_rfl) (by simp) ?_;refine AllReadyH.cons rfl (fun K hK=>?_) AllReadyH.nil;go_simp;refine hK.out _ _ (hrest _ HB8.out) (fun hHeld=>?_);clear hK K
    try simp only[sA,sB,sC]
    refine wpAnyH_done (by kernel_rfl) ?_ _;clear hfz7 hc7 hrest hbw7 hHeld;go_wp2
    go_roundw
    case rel=>exact⟨i+1,L++[_],_,by go_num,by omega,by rw[List.length_append,HLI.out];rfl,HGF8.out,by rw[List.map_append,HMP.out,HTK.out];rfl,HB8.out⟩
    case measure=>simp[intOf];omega
   ·
    go_simp;refine(yfB c l _ wr.drew (Lh (HPT.out.prs.keep hBd)) HGA HVA).mono ?_;rintro e w6 ⟨pv,rfl,hpt6,hb6⟩;have hb66:Below wr.heap.size wr w6:=ya hb6 hBd;obtain⟨po,pc,hpv,_,_,_⟩:=id hpt6.pos;obtain⟨Y,hY⟩:∃ Y,ygJ c l=Y:=⟨_,rfl⟩
    rw[hY] at hpt6 HTK hpv;simp only[hY];subst hpv;have HP6:=Lh hpt6;have c26:=yb hb66 c2;have c56:=yb hb66 c5;have q06:=yb hb66 q0;have q16:=yb hb66 q1;have q26:=yb hb66 q2;have q36:=yb hb66 q3;have q46:=yb hb66 q4;have q56:=yb hb66 q5;have r06:=yb hb66 r0;have g26:=yb hb66 g2;have HB66:=Lh hb66;have hsz6:=hb66.size;clear hpt6 hb6 hb66 hY hHeld;refine hK.out _ _ ⟨c26,c56,q06,q16,q26,q36,q46,q56,r06⟩ (fun hHeld=>?_);clear hK K
    try simp only[sA,sB,sC]
    refine wpAnyH_ready (rs:=[1,18]) (by kernel_rfl) (by simp) ?_;refine AllReadyH.cons rfl (fun K hK=>?_) (AllReadyH.cons rfl (fun K hK=>?_) AllReadyH.nil)
    ·
     go_simp;refine hK.out _ _ ⟨c26,c56,q06,q16,q26,q36,q46,q56,r06⟩ (fun hHeld=>?_);clear hK K
     try simp only[sA,sB,sC]
     refine wpAnyH_ready (rs:=[18]) (by kernel_rfl) (by simp) ?_;refine AllReadyH.cons rfl (fun K hK=>?_) AllReadyH.nil;go_simp;refine hK.out _ _ ⟨yh c26,yh c56,yh q06,yh q16,yh q26,yh q36,yh q46,yh q56,yh r06⟩ (fun hHeld=>?_);clear hK K
     try simp only[sA,sB,sC]
     refine wpAnyH_ready (rs:=[19]) (by kernel_rfl) (by simp) ?_;refine AllReadyH.cons rfl (fun K hK=>?_) AllReadyH.nil;refine step_append_lies _ (by rfl) _ _ _ (by rfl) w.heap.size 59 i9 _ 6 80 underlying22 hi0 hz0 hz1 hz2 rfl (by omega) (.slice lo L.length lc) L.length (L.flatMap nfC) (by rfl) (by exact yr (yr HGR.out.fr HB66.out) (by repeat (first | (with_reducible exact Below.refl _ _) | (with_reducible refine Below.drew ?_) | (with_reducible refine yy ?_ ?_) | (simp;done) | omega))) ⟨w6.heap.size,0,none⟩ 1 1 [.string (bb Y.nm),.string (bb Y.lb),.int .i64 Y.w,.int .i64 Y.h,.int .i64 Y.cl,.slice po Y.ps.length pc] (by rfl) (by rfl) (by exact World.news_of_block (cs:=#[.string (bb Y.nm),.string (bb Y.lb),.int .i64 Y.w,.int .i64 Y.h,.int .i64 Y.cl,.slice po Y.ps.length pc]) (t:=59) (fr:=(0,0)) (heap_alloc_new _ _)) (by simp[Value.oneCell']) (by omega) (by unfold maxLen;omega) (by omega) (by simp;omega) (w6.heap.size+1) (by simp) ?_;intro gg cap1 w7 hown7 hgrow7 hat7 hlt7;have hbd7:Below w6.heap.size w6 (w6.alloc (.cells #[.string (bb Y.nm),.string (bb Y.lb),.int .i64 Y.w,.int .i64 Y.h,.int .i64 Y.cl,.slice po Y.ps.length pc] 59)):=al1 ..;obtain⟨⟨hg7,hb7⟩,hgf7,hb8⟩:=(HGR.out.below HB66.out).growN (y:=(Y,.slice po Y.ps.length pc)) (nv':=.slice (some ⟨gg,0,none⟩) (L.length+1) cap1) (by exact(by repeat (first | (with_reducible exact Below.refl _ _) | (with_reducible refine Below.drew ?_) | (with_reducible refine yy ?_ ?_) | (simp;done) | omega))) hgrow7 (by show World.ownsRow _ _ _ _ _ (L++[_]).length _;rw[List.length_append,List.flatMap_append];exact hown7) (by exact ybH HP6.out (by repeat (first | (with_reducible exact Below.refl _ _) | (with_reducible refine Below.drew ?_) | (with_reducible refine yy ?_ ?_) | (simp;done) | omega)))
     have hfz7:=yi hg7 2;have hc7:=bc 2 hg7;have HGF8:=Lh hgf7;have hbw7:Below w.heap.size w w7:=(HBR.out.trans (HB66.out.mono (by omega))).trans hb7;have HB8:=Lh ((HBR.out.trans (HB66.out.mono (by omega))).trans hb8);have hst7:=hS.out.below hbw7
     have hrest:∀ W,Below w.heap.size w W->(W.cell? ⟨b,2,none⟩=some (.slice (some A) s.ns.length nc)/\W.cell? ⟨b,5,none⟩=some (.slice (some Ar) avs.length ac)/\W.cell? (A.add (i*6))=some (.string (bb c.1))/\W.cell? ⟨(A.add (i*6)).block,(A.add (i*6)).off+1,none⟩=some (.string ⟨#[]⟩)/\W.cell? ⟨(A.add (i*6)).block,(A.add (i*6)).off+2,none⟩=some (.int .i64 0)/\W.cell? ⟨(A.add (i*6)).block,(A.add (i*6)).off+3,none⟩=some (.int .i64 0)/\W.cell? ⟨(A.add (i*6)).block,(A.add (i*6)).off+4,none⟩=some (.int .i64 c.2)/\W.cell? ⟨(A.add (i*6)).block,(A.add (i*6)).off+5,none⟩=some (.slice none 0 0)/\W.cell? (Ar.add i)=some (.slice uo l.length uc)):=fun W hW=>by
      have hst:=hS.out.below hW;obtain⟨A',nc',eA,t0,t1,t2,t3,t4,t5⟩:=yhA hst.nr hlt;cases eA
      obtain⟨ao',ac',eB,hA⟩:=ygu hst.ar;cases eB
      obtain⟨Ar',eC,t6⟩:=hA i (by have:=HAL.out;omega);cases eC
      rw[HCQ.out] at t0 t4;rw[HUQ.out] at t6;exact⟨by rw[yd hst.box];rfl,by rw[yd hst.box];rfl,t0,t1,t2,t3,t4,t5,t6⟩
     clear hgf7 hb7 hgrow7 hat7 hlt7 hown7 hg7 hst7 hHeld;refine hK.out _ _ (hrest w7 hbw7) (fun hHeld=>?_);clear hK K
     try simp only[sA,sB,sC]
     refine tk 20 56 (.pointer (some ⟨(w.heap.size+1),2,none⟩)) ?_
     try simp only[sA,sB,sC]
     refine wpAnyH_ready (rs:=[21]) (by kernel_rfl) (by simp) ?_;refine AllReadyH.cons rfl (fun K hK=>?_) AllReadyH.nil;go_simp;refine hK.out _ _ (hrest _ HB8.out) (fun hHeld=>?_);clear hK K
     try simp only[sA,sB,sC]
     refine wpAnyH_done (by kernel_rfl) ?_ _;clear hfz7 hc7 hrest hbw7 hHeld;go_wp2
     go_roundw
     case rel=>exact⟨i+1,L++[_],_,by go_num,by omega,by rw[List.length_append,HLI.out];rfl,HGF8.out,by rw[List.map_append,HMP.out,HTK.out];rfl,HB8.out⟩
     case measure=>simp[intOf];omega
    ·
     go_simp;refine hK.out _ _ ⟨yh c26,yh c56,yh q06,yh q16,yh q26,yh q36,yh q46,yh q56,yh r06⟩ (fun hHeld=>?_);clear hK K
     try simp only[sA,sB,sC]
     have g2a:=yh (o:=.cells #[.string (bb Y.nm),.string (bb Y.lb),.int .i64 Y.w,.int .i64 Y.h,.int .i64 Y.cl,.slice po Y.ps.length pc] 59) g26;refine wpAnyH_ready (rs:=[1]) (by kernel_rfl) (by simp) ?_;refine AllReadyH.cons rfl (fun K hK=>?_) AllReadyH.nil;go_simp;refine hK.out _ _ ⟨yh c26,yh c56,yh q06,yh q16,yh q26,yh q36,yh q46,yh q56,yh r06⟩ (fun hHeld=>?_);clear hK K
     try simp only[sA,sB,sC]
     refine wpAnyH_ready (rs:=[19]) (by kernel_rfl) (by simp) ?_;refine AllReadyH.cons rfl (fun K hK=>?_) AllReadyH.nil;refine step_append_lies _ (by rfl) _ _ _ (by rfl) w.heap.size 59 i9 _ 6 80 underlying22 hi0 hz0 hz1 hz2 rfl (by omega) (.slice lo L.length lc) L.length (L.flatMap nfC) (by rfl) (by exact yr (yr HGR.out.fr HB66.out) (by repeat (first | (with_reducible exact Below.refl _ _) | (with_reducible refine Below.drew ?_) | (with_reducible refine yy ?_ ?_) | (simp;done) | omega))) ⟨w6.heap.size,0,none⟩ 1 1 [.string (bb Y.nm),.string (bb Y.lb),.int .i64 Y.w,.int .i64 Y.h,.int .i64 Y.cl,.slice po Y.ps.length pc] (by rfl) (by rfl) (by exact World.news_of_block (cs:=#[.string (bb Y.nm),.string (bb Y.lb),.int .i64 Y.w,.int .i64 Y.h,.int .i64 Y.cl,.slice po Y.ps.length pc]) (t:=59) (fr:=(0,0)) (heap_alloc_new _ _)) (by simp[Value.oneCell']) (by omega) (by unfold maxLen;omega) (by omega) (by simp;omega) (w6.heap.size+1) (by simp) ?_;intro gg cap1 w7 hown7 hgrow7 hat7 hlt7;have hbd7:Below w6.heap.size w6 (w6.alloc (.cells #[.string (bb Y.nm),.string (bb Y.lb),.int .i64 Y.w,.int .i64 Y.h,.int .i64 Y.cl,.slice po Y.ps.length pc] 59)):=al1 ..;obtain⟨⟨hg7,hb7⟩,hgf7,hb8⟩:=(HGR.out.below HB66.out).growN (y:=(Y,.slice po Y.ps.length pc)) (nv':=.slice (some ⟨gg,0,none⟩) (L.length+1) cap1) (by exact(by repeat (first | (with_reducible exact Below.refl _ _) | (with_reducible refine Below.drew ?_) | (with_reducible refine yy ?_ ?_) | (simp;done) | omega))) hgrow7 (by show World.ownsRow _ _ _ _ _ (L++[_]).length _;rw[List.length_append,List.flatMap_append];exact hown7) (by exact ybH HP6.out (by repeat (first | (with_reducible exact Below.refl _ _) | (with_reducible refine Below.drew ?_) | (with_reducible refine yy ?_ ?_) | (simp;done) | omega)))
     have hfz7:=yi hg7 2;have hc7:=bc 2 hg7;have HGF8:=Lh hgf7;have hbw7:Below w.heap.size w w7:=(HBR.out.trans (HB66.out.mono (by omega))).trans hb7;have HB8:=Lh ((HBR.out.trans (HB66.out.mono (by omega))).trans hb8);have hst7:=hS.out.below hbw7
     have hrest:∀ W,Below w.heap.size w W->(W.cell? ⟨b,2,none⟩=some (.slice (some A) s.ns.length nc)/\W.cell? ⟨b,5,none⟩=some (.slice (some Ar) avs.length ac)/\W.cell? (A.add (i*6))=some (.string (bb c.1))/\W.cell? ⟨(A.add (i*6)).block,(A.add (i*6)).off+1,none⟩=some (.string ⟨#[]⟩)/\W.cell? ⟨(A.add (i*6)).block,(A.add (i*6)).off+2,none⟩=some (.int .i64 0)/\W.cell? ⟨(A.add (i*6)).block,(A.add (i*6)).off+3,none⟩=some (.int .i64 0)/\W.cell? ⟨(A.add (i*6)).block,(A.add (i*6)).off+4,none⟩=some (.int .i64 c.2)/\W.cell? ⟨(A.add (i*6)).block,(A.add (i*6)).off+5,none⟩=some (.slice none 0 0)/\W.cell? (Ar.add i)=some (.slice uo l.length uc)):=fun W hW=>by
      have hst:=hS.out.below hW;obtain⟨A',nc',eA,t0,t1,t2,t3,t4,t5⟩:=yhA hst.nr hlt;cases eA
      obtain⟨ao',ac',eB,hA⟩:=ygu hst.ar;cases eB
      obtain⟨Ar',eC,t6⟩:=hA i (by have:=HAL.out;omega);cases eC
      rw[HCQ.out] at t0 t4;rw[HUQ.out] at t6;exact⟨by rw[yd hst.box];rfl,by rw[yd hst.box];rfl,t0,t1,t2,t3,t4,t5,t6⟩
     clear hgf7 hb7 hgrow7 hat7 hlt7 hown7 hg7 hst7 hHeld;refine hK.out _ _ (hrest w7 hbw7) (fun hHeld=>?_);clear hK K
     try simp only[sA,sB,sC]
     refine tk 20 56 (.pointer (some ⟨(w.heap.size+1),2,none⟩)) ?_
     try simp only[sA,sB,sC]
     refine wpAnyH_ready (rs:=[21]) (by kernel_rfl) (by simp) ?_;refine AllReadyH.cons rfl (fun K hK=>?_) AllReadyH.nil;go_simp;refine hK.out _ _ (hrest _ HB8.out) (fun hHeld=>?_);clear hK K
     try simp only[sA,sB,sC]
     refine wpAnyH_done (by kernel_rfl) ?_ _;clear hfz7 hc7 hrest hbw7 hHeld;go_wp2
     go_roundw
     case rel=>exact⟨i+1,L++[_],_,by go_num,by omega,by rw[List.length_append,HLI.out];rfl,HGF8.out,by rw[List.map_append,HMP.out,HTK.out];rfl,HB8.out⟩
     case measure=>simp[intOf];omega
end Go.Proofs.YtgmidodmmlmmeaaGreatDoor.nor
