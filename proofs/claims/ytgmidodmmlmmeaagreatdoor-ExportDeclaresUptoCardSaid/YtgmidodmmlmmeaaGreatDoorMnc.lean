/-
  Contracts and plain facts of the layers below; conditions as each theorem states them.
-/
import Derived.Test.YtgmidodmmlmmeaaGreatDoorMnb
set_option maxHeartbeats 1000000
set_option maxRecDepth 100000
namespace Go.Proofs.YtgmidodmmlmmeaaGreatDoor.nor
open lex tre att
def Room (s:Sta)(n:Nat):Prop:=s.ns.length+n<=3000000/\s.ats.length+n<=3000000/\s.en.length+n<=3000000/\s.cs.length+n<=3000000
theorem Room.le {s:Sta}{n m:Nat}(h:Room s n)(hm:m<=n):Room s m:=by
 obtain⟨h1,h2,h3,h4⟩:=h;exact⟨by omega,by omega,by omega,by omega⟩
theorem Room.ment {s:Sta}{n:Nat}(h:Room s (n+1))(m:Nm)(p:Pl):Room (yN s m p) n:=by
 obtain⟨h1,h2,h3,h4⟩:=h;unfold yN Room
 split
 ·simp only[List.length_append,List.length_singleton];omega
 ·simp only;omega
theorem Room.refs {p:Pl}:∀ (l:List Pr) (s:Sta) (n:Nat),Room s (n+l.length)->Room (y7 l s p) n
 | [],_,_,h=>h
 | r::t,s,n,h=>by
  unfold y7;rw[List.length_cons] at h
  split
  ·exact h.le (by omega)
  ·exact Room.refs t _ n (Room.ment (h.le (by omega)) _ _)
theorem ynj (p:Pl):∀ (l:List Pr) (s:Sta),(y7 l s p).en=s.en
 | [],_=>rfl
 | r::t,s=>by
  unfold y7
  split
  ·rfl
  ·rw[ynj p t,yqW]
theorem Room.edges {s:Sta}{n:Nat}{r a:List Pr}{p:Pl}(h:Room s (n+r.length)):Room (yaL s r a p) n:=by
 have h1:=Room.refs (p:=p) r s n h;unfold yaL
 split
 ·exact h1
 ·refine⟨h1.1,h1.2.1,?_,h1.2.2.2⟩
  have h2:=yhV (ybb r s p) r (yB p.de a);have h3:=h.2.2.1;simp only[List.length_append,ynj];omega
theorem Room.chg {s:Sta}{n:Nat}(h:Room s n)(i:Int)(m:List Pr):Room ⟨s.ns,ycB s.ats i m,s.cs,s.en,s.e⟩ n :=
 ⟨h.1,by show (ycB s.ats i m).length+n<=_;rw[ygS];exact h.2.1,h.2.2.1,h.2.2.2⟩
theorem Room.err {s:Sta}{n:Nat}(h:Room s n)(e:Int):Room ⟨s.ns,s.ats,s.cs,s.en,e⟩ n:=h
theorem Room.clu {s:Sta}{n:Nat}(h:Room s (n+1))(c:Cl)(e:Int):Room ⟨s.ns,s.ats,s.cs++[c],s.en,e⟩ n:=by
 obtain⟨h1,h2,h3,h4⟩:=h;exact⟨by show s.ns.length+n<=_;omega,by show s.ats.length+n<=_;omega,by show s.en.length+n<=_;omega,by simp only[List.length_append,List.length_singleton];omega⟩
theorem yku:(∀ x:St,∀ (p:Pl) (s:Sta) (m:Nat),okS x->okB x.body->Room s ((2+x.refs.length+wl x.body)+m)->Room (ya9 x p s) m) /\
    ∀ l:List St,∀ (p:Pl) (s:Sta) (m:Nat),okB l->Room s (wl l+m)->Room (yX l p s) m:=by
 refine ya2 (fun k n r a b hb p s m ho hk hs=>?_) (fun p s m _ hs=>?_) (fun x t hx ht p s m ho hs=>?_)
 ·simp only[St.body,St.refs] at hk hs
  rw[ya9]
  by_cases h1:k=1
  ·rw[if_pos h1];exact(Room.ment (hs.le (by omega)) n p).chg _ _
  rw[if_neg h1]
  by_cases h2:k=2
  ·rw[if_pos h2];exact Room.edges (hs.le (by omega))
  rw[if_neg h2]
  by_cases h5:k=5
  ·rw[if_pos h5]
   by_cases hc:yaw s.cs n=true\/0<=yG s.ns n 0
   ·rw[if_pos hc];exact(hs.le (by omega)).err 6
   ·rw[if_neg hc];exact hb _ _ m hk ((hs.le (by omega)).clu _ _)
  ·rw[if_neg h5];exact hs.le (by omega)
 ·rw[ybc];exact hs.le (by omega)
 ·obtain⟨o1,o2,o3⟩:=ybN ho
  rw[ydd] at hs;rw[yaR]
  split
  ·exact hs.le (by omega)
  ·split
   ·exact hs.le (by omega)
   ·exact ht _ _ m o3 (hx p s (wl t+m) o1 o2 (hs.le (by omega)))
def GaR (s:Sta):Prop:=(∀ a∈s.ats,Ga 1 a)/\∀ e∈s.en,Ga 2 e.ats
theorem GaR.ment {s:Sta}{p:Pl}(h:GaR s)(hp:GaP p)(n:Nm):GaR (yN s n p):=by
 unfold yN
 split
 ·refine⟨fun a ha=>?_,h.2⟩
  rcases List.mem_append.1 ha with q | q
  ·exact h.1 a q
  ·rw[List.mem_singleton] at q;subst q;exact hp.1
 ·exact h
theorem GaR.refs {p:Pl}(hp:GaP p):∀ (l:List Pr) (s:Sta),GaR s->GaR (y7 l s p)
 | [],_,h=>h
 | r::t,s,h=>by
  unfold y7
  split
  ·exact h
  ·exact GaR.refs hp t _ (h.ment hp _)
theorem yhv (m:List Pr):∀ (l:List Int) (rs:List Pr),∀ e∈yaz l rs m,e.ats=m
 | a::b::t,r::q::u,e,h=>by
  rw[yaz] at h
  rcases List.mem_cons.1 h with rfl | h
  ·rfl
  ·exact yhv m (b::t) (q::u) e h
 | [],_,_,h=>by simp[yaz] at h
 | [_],_,_,h=>by simp[yaz] at h
 | _::_::_,[],_,h=>by simp[yaz] at h
 | _::_::_,[_],_,h=>by simp[yaz] at h
theorem GaR.edges {s:Sta}{r a:List Pr}{p:Pl}(h:GaR s)(hp:GaP p)(ha:yb1 2 a=0):GaR (yaL s r a p):=by
 have h1:=GaR.refs hp r s h;unfold yaL
 split
 ·exact h1
 ·refine⟨h1.1,fun e he=>?_⟩
  rcases List.mem_append.1 he with q | q
  ·exact h1.2 e q
  ·rw[yhv _ _ _ e q];exact hp.2.merge ha
theorem GaR.chg {s:Sta}(h:GaR s)(i:Int){m:List Pr}(hm:yb1 1 m=0):GaR ⟨s.ns,ycB s.ats i m,s.cs,s.en,s.e⟩ :=
 ⟨fun a ha=>by
  rcases ygT m s.ats i a ha with q | ⟨b,hb,rfl⟩
  ·exact h.1 a q
  ·exact(h.1 b hb).merge hm,h.2⟩
theorem ynk:(∀ x:St,∀ (p:Pl) (s:Sta),okS x->okB x.body->stE x.kind x.name x.attrs=0->GaP p->GaR s->GaR (ya9 x p s)) /\
    ∀ l:List St,∀ (p:Pl) (s:Sta),okB l->GaP p->GaR s->GaR (yX l p s):=by
 refine ya2 (fun k n r a b hb p s ho hk he hp hs=>?_) (fun p s _ _ hs=>?_) (fun x t hx ht p s ho hp hs=>?_)
 ·simp only[St.body,St.kind,St.name,St.attrs] at hk he
  rw[ya9]
  by_cases h1:k=1
  ·rw[if_pos h1];subst h1;exact(hs.ment hp n).chg _ (ysV he)
  rw[if_neg h1]
  by_cases h2:k=2
  ·rw[if_pos h2];subst h2;exact hs.edges hp (ysW he)
  rw[if_neg h2]
  by_cases h5:k=5
  ·rw[if_pos h5]
   by_cases hc:yaw s.cs n=true\/0<=yG s.ns n 0
   ·rw[if_pos hc];exact hs
   ·rw[if_neg hc];exact hb _ _ hk ⟨hp.1,hp.2⟩ hs
  ·rw[if_neg h5];exact hs
 ·rw[ybc];exact hs
 ·obtain⟨o1,o2,o3⟩:=ybN ho
  rw[yaR]
  split
  ·exact hs
  ·split
   ·exact hs
   ·rename_i he
    have he':stE x.kind x.name x.attrs=0:=by simpa using he
    exact ht _ _ o3 (hp.dflt he' (ye6 o1)) (hx p s o1 o2 he' hp hs)
theorem ynl {l:List St}{i:Nat}(hi:i<l.length)(p:Pl)(s:Sta):yX (l.drop i) p s=if s.e≠0 then s else if stE l[i].kind l[i].name l[i].attrs≠0 then ⟨s.ns,s.ats,s.cs,s.en,stE l[i].kind l[i].name l[i].attrs⟩ else yX (l.drop (i+1)) (dflt l[i].kind l[i].name l[i].attrs p) (ya9 l[i] p s):=by
 rw[List.drop_eq_getElem_cons hi,yaR]
end Go.Proofs.YtgmidodmmlmmeaaGreatDoor.nor
namespace Go.Proofs.YtgmidodmmlmmeaaGreatDoor.nor
open Go.RowKit lex tre att _root_.Go.Proofs.Tryz
theorem ypY:(Tryz.prog.info? 63).map (fun i=>(i.zero,i.size,i.bytes))=some (some (.agg #[.string ⟨#[]⟩,.int .i64 0]),2,24):=by kernel_rfl
theorem yqJ {P:Program}{fn:Func}{R:Ending->World->Prop}{a:Act}{w:World}(hr:fn.results=#[])(hd:a.defers=[])(hR:R (.returned (.tuple #[])) w):bodyPost P fn R .ret a w :=
 bodyPost_ret (results_none hr _ _ _) hd hR
def BlkR (l:List St):Prop:=∀ (w0:World) (b:Nat) (nm:Nm) (d:Bool) (s:Sta) (x:StV) (bv:Value) (p:Pl) (dv ev:Value) (w:World),StB w w0.heap.size b nm d s x->Below w0.heap.size w0 w->s.e=0->PrsT w dv p.dn->PrsT w ev p.de->Sts w0 bv l->okB l->Room s (wl l)->GaR s->GaP p ->
 Calls Tryz.prog 48 #[.pointer (some ⟨b,0,none⟩),bv,.agg #[.int .i64 p.cl,dv,ev]] w fun e w'=>e=.returned (.tuple #[])/\yc4 w0.heap.size b nm d (yX l p s) w w'
theorem BlkR.use {l:List St}(h:Hid (BlkR l))(w0:World)(b:Nat)(nm:Nm)(d:Bool)(s:Sta)(x:StV)(bv:Value)(p:Pl)(dv ev:Value)(S':Sta)(w:World)(hS:Hid (StB w w0.heap.size b nm d s x))(hO:Hid (Below w0.heap.size w0 w))(h0:Hid (s.e=0))(hp:Hid (PrsT w dv p.dn))(hq:Hid (PrsT w ev p.de))(hs:Hid (Sts w0 bv l))(ho:Hid (okB l))(hz:Hid (Room s (wl l)))(hg:Hid (GaR s))(hgp:Hid (GaP p))(hR:Hid (yX l p s=S')) :
    Calls Tryz.prog 48 #[.pointer (some ⟨b,0,none⟩),bv,.agg #[.int .i64 p.cl,dv,ev]] w fun e w'=>e=.returned (.tuple #[])/\yc4 w0.heap.size b nm d S' w w':=by
 have:=h.out w0 b nm d s x bv p dv ev w hS.out hO.out h0.out hp.out hq.out hs.out ho.out hz.out hg.out hgp.out;rw[hR.out] at this;exact this
theorem ydY (w0:World)(b:Nat)(nm:Nm)(d:Bool)(s:Sta)(x:StV)(k:Int)(n:Nm)(ro ao:Option Addr)(rn rc an ac:Nat)(bv:Value)(bd:List St)(p:Pl)(dv ev:Value)(S':Sta)(w:World)(hIH:Hid (BlkR bd))(hS:Hid (StB w w0.heap.size b nm d s x))(hO:Hid (Below w0.heap.size w0 w))(h0:Hid (s.e=0))(hp:Hid (PrsT w dv p.dn))(hq:Hid (PrsT w ev p.de))(hB:Hid (Sts w0 bv bd))(ho:Hid (okB bd))(hz:Hid (Room s (1+wl bd)))(hga:Hid (GaR s))(hgp:Hid (GaP p))(hE:Hid ((if yaw s.cs n=true\/0<=yG s.ns n 0 then ⟨s.ns,s.ats,s.cs,s.en,6⟩ else yX bd ⟨s.cs.length,p.dn,p.de⟩ ⟨s.ns,s.ats,s.cs++[(n,p.cl)],s.en,s.e⟩)=S')) :
    Calls Tryz.prog 107 #[.pointer (some ⟨b,0,none⟩),.agg #[.int .i64 k,.string (bb n),.slice ro rn rc,.slice ao an ac,bv],.agg #[.int .i64 p.cl,dv,ev]] w fun e w'=>e=.returned (.tuple #[])/\yc4 w0.heap.size b nm d S' w w':=by
 obtain⟨po,pc,rfl,_,_,_⟩:=id hp.out.prs;obtain⟨eo,ec,rfl,_,_,_⟩:=id hq.out.prs;obtain⟨bo,bq,rfl,_,_,_⟩:=id hB.out;have hb1:=al2 w (.cells #[.int .i64 k,.string (bb n),.slice ro rn rc,.slice ao an ac,.slice bo bd.length bq] 67) (.cells #[.int .i64 p.cl,.slice po p.dn.length pc,.slice eo p.de.length ec] 104);have hs1:=hS.out.below hb1;have hsb:blk ((w.alloc (.cells #[.int .i64 k,.string (bb n),.slice ro rn rc,.slice ao an ac,.slice bo bd.length bq] 67)).alloc (.cells #[.int .i64 p.cl,.slice po p.dn.length pc,.slice eo p.de.length ec] 104)) w.heap.size 67 #[.int .i64 k,.string (bb n),.slice ro rn rc,.slice ao an ac,.slice bo bd.length bq]:=(TFr.alloc _ _).blk (yl ..) rfl;have hbp:blk ((w.alloc (.cells #[.int .i64 k,.string (bb n),.slice ro rn rc,.slice ao an ac,.slice bo bd.length bq] 67)).alloc (.cells #[.int .i64 p.cl,.slice po p.dn.length pc,.slice eo p.de.length ec] 104)) (w.heap.size+1) 104 #[.int .i64 p.cl,.slice po p.dn.length pc,.slice eo p.de.length ec]:=by have:=yl (w.alloc (.cells #[.int .i64 k,.string (bb n),.slice ro rn rc,.slice ao an ac,.slice bo bd.length bq] 67)) #[.int .i64 p.cl,.slice po p.dn.length pc,.slice eo p.de.length ec] 104;rwa [show (w.alloc (.cells #[.int .i64 k,.string (bb n),.slice ro rn rc,.slice ao an ac,.slice bo bd.length bq] 67)).heap.size=w.heap.size+1 by simp] at this
 have HPP:=Lh (hp.out.keep hb1);have HQP:=Lh (hq.out.keep hb1);have HT1:Hid (TFr w ((w.alloc (.cells #[.int .i64 k,.string (bb n),.slice ro rn rc,.slice ao an ac,.slice bo bd.length bq] 67)).alloc (.cells #[.int .i64 p.cl,.slice po p.dn.length pc,.slice eo p.de.length ec] 104))):=Lh (TFr.below hb1);have HB1:Hid (Below w0.heap.size w ((w.alloc (.cells #[.int .i64 k,.string (bb n),.slice ro rn rc,.slice ao an ac,.slice bo bd.length bq] 67)).alloc (.cells #[.int .i64 p.cl,.slice po p.dn.length pc,.slice eo p.de.length ec] 104))):=Lh (hb1.mono hS.out.base);have HS1:=Lh hs1;have HSB:=Lh hsb;have HBP:=Lh hbp;have hPb:w.heap.size≠b:=Nat.ne_of_gt hS.out.lt;have hlt0:b<w.heap.size:=hS.out.lt;obtain⟨R,hR1⟩:∃ R,yaw s.cs n=R:=⟨_,rfl⟩
 obtain⟨i,hi1⟩:∃ i,yG s.ns n 0=i:=⟨_,rfl⟩
 have HRQ:Hid ((if R=true\/0<=i then ⟨s.ns,s.ats,s.cs,s.en,6⟩ else yX bd ⟨s.cs.length,p.dn,p.de⟩ ⟨s.ns,s.ats,s.cs++[(n,p.cl)],s.en,s.e⟩)=S'):=Lh (by rw[<- hE.out,hR1,hi1]);have HR1:Hid (yaw s.cs (bb n).data.toList=R):=Lh hR1;have HI1:Hid (yG s.ns (bb n).data.toList 0=i):=Lh hi1;have hcl:s.cs.length<=3000000:=by have:=hz.out.2.2.2;omega
 obtain⟨nv,cv,av,sv,avs,evs⟩:=x;obtain⟨co,cc,hcv,-,-⟩:=yu HS1.out.cr;simp only at hcv;subst hcv;have HN:Hid (yja ((w.alloc (.cells #[.int .i64 k,.string (bb n),.slice ro rn rc,.slice ao an ac,.slice bo bd.length bq] 67)).alloc (.cells #[.int .i64 p.cl,.slice po p.dn.length pc,.slice eo p.de.length ec] 104)) 6 nv s.ns):=Lh (yhs (fun _=>rfl) (fun _=>rfl) hs1.nr);have HC:Hid (yja ((w.alloc (.cells #[.int .i64 k,.string (bb n),.slice ro rn rc,.slice ao an ac,.slice bo bd.length bq] 67)).alloc (.cells #[.int .i64 p.cl,.slice po p.dn.length pc,.slice eo p.de.length ec] 104)) 2 (.slice co s.cs.length cc) s.cs):=Lh (yhs (fun _=>rfl) (fun _=>rfl) hs1.cr);have b2:((w.alloc (.cells #[.int .i64 k,.string (bb n),.slice ro rn rc,.slice ao an ac,.slice bo bd.length bq] 67)).alloc (.cells #[.int .i64 p.cl,.slice po p.dn.length pc,.slice eo p.de.length ec] 104)).cell? ⟨b,2,none⟩=some nv:=HS1.out.box.read.1;have b4:((w.alloc (.cells #[.int .i64 k,.string (bb n),.slice ro rn rc,.slice ao an ac,.slice bo bd.length bq] 67)).alloc (.cells #[.int .i64 p.cl,.slice po p.dn.length pc,.slice eo p.de.length ec] 104)).cell? ⟨b,4,none⟩=some (.slice co s.cs.length cc):=HS1.out.box.read.2.1;have hfz:=HS1.out.box.open 7;have c7:((w.alloc (.cells #[.int .i64 k,.string (bb n),.slice ro rn rc,.slice ao an ac,.slice bo bd.length bq] 67)).alloc (.cells #[.int .i64 p.cl,.slice po p.dn.length pc,.slice eo p.de.length ec] 104)).cell? ⟨b,7,none⟩=some (.int .i64 s.e):=HS1.out.box.read.2.2.2.2;obtain⟨X,hX⟩:∃ X,bb n=X:=⟨_,rfl⟩
 rw[hX] at HR1 HI1;obtain⟨W1,hW1⟩:∃ W1,(w.alloc (.cells #[.int .i64 k,.string (bb n),.slice ro rn rc,.slice ao an ac,.slice bo bd.length bq] 67)).alloc (.cells #[.int .i64 p.cl,.slice po p.dn.length pc,.slice eo p.de.length ec] 104)=W1:=⟨_,rfl⟩
 have HW1:Hid ((w.alloc (.cells #[.int .i64 k,.string X,.slice ro rn rc,.slice ao an ac,.slice bo bd.length bq] 67)).alloc (.cells #[.int .i64 p.cl,.slice po p.dn.length pc,.slice eo p.de.length ec] 104)=W1):=Lh (by rw[<- hX];exact hW1);rw[hW1] at HPP HQP HT1 HB1 HS1 HSB HBP HN HC b2 b4 hfz c7;have a1:W1.cell? ⟨w.heap.size,1,none⟩=some (.string X):=by rw[yd HSB.out,<- hX];rfl
 have HX:=Lh hX;rw[hX];clear hs1 hb1 hsb hbp hE hS hp hq hR1 hi1 hW1 hX;go_enter func107,ntmps107;go_wp2_with fail
 rw[HW1.out];clear HW1;refine(yed b _ s.cs X R W1 b4 HC HR1).mono ?_;rintro e w1 ⟨rfl,hw1⟩;subst w1;clear b4;cases R
 case true =>
  obtain rfl:=HRQ.out;clear b2 a1 HRQ;go_wp2;obtain⟨m1,m2,m3⟩:=HS1.out.err 6;refine yqJ rfl rfl ?_;exact⟨rfl,_,m1,HT1.out.trans m2,HB1.out.trans m3⟩
 go_wp2_with fail
 refine(yhg b _ s.ns X i W1 b2 HN HI1).mono ?_;rintro e w1 ⟨rfl,hw1⟩;subst w1;clear b2
 by_cases g:0<=i
 case pos =>
  have dg:decide (0<=i)=true:=decide_eq_true g;obtain rfl:=HRQ.out;clear a1 HRQ;go_wp2;obtain⟨m1,m2,m3⟩:=HS1.out.err 6;refine yqJ rfl rfl ?_;exact⟨rfl,_,m1,HT1.out.trans m2,HB1.out.trans m3⟩
 have dg:decide (0<=i)=false:=decide_eq_false g;have HRB:Hid (yX bd ⟨s.cs.length,p.dn,p.de⟩ ⟨s.ns,s.ats,s.cs++[(n,p.cl)],s.en,s.e⟩=S'):=Lh (by have h:=HRQ.out;rw[if_neg (by simpa using g)] at h;exact h);clear HRQ HN HC HR1 HI1 g hfz c7;go_wp2_with fail
 clear a1 dg;have hs1:=bc 1 HSB.out;have hs2:=bc 0 HBP.out;have hc4:W1.drew.cell? ⟨b,4,none⟩=some (.slice co s.cs.length cc):=HS1.out.box.read.2.1;obtain⟨i9,hi0,hz0,hz1,hz2⟩:=ycM ypY;have hbase:=HS1.out.base;have hblt:=HS1.out.lt;refine wp_region_held_drew (S:=(fun W:World=>W.cell? ⟨w.heap.size,1,none⟩=some (.string (bb n))/\W.cell? ⟨w.heap.size+1,0,none⟩=some (.int .i64 p.cl))) (by kernel_rfl) (⟨yf hs1,yf hs2⟩) (fun hHeld=>?_);refine tk 0 20 (.pointer (some ⟨b,0,none⟩)) ?_;refine tk 1 21 (.pointer (some ⟨b,0,none⟩)) ?_;refine tk 2 22 (.pointer (some ⟨b,0,none⟩)) ?_;refine tk 3 23 (.pointer (some ⟨b,0,none⟩)) ?_;refine tk 4 24 (.pointer (some ⟨b,4,none⟩)) ?_;refine tk 6 26 (.pointer (some ⟨w.heap.size,1,none⟩)) ?_;refine tk 7 27 (.string (bb n)) ?_;refine tk 8 28 (.pointer (some ⟨(w.heap.size+1),0,none⟩)) ?_;refine tk 9 29 (.int .i64 p.cl) ?_;refine tk 10 30 (.agg #[.string (bb n),.int .i64 p.cl]) ?_
 try simp only[sA,sB,sC]
 refine wpAnyH_ready (rs:=[5,11]) (by kernel_rfl) (by simp) ?_;refine AllReadyH.cons rfl (fun K hK=>?_) (AllReadyH.cons rfl (fun K hK=>?_) AllReadyH.nil)
 ·
  go_simp;refine hK.out _ _ ⟨yf hs1,yf hs2⟩ (fun hHeld=>?_);clear hK K
  try simp only[sA,sB,sC]
  refine wpAnyH_ready (rs:=[11]) (by kernel_rfl) (by simp) ?_;refine AllReadyH.cons rfl (fun K hK=>?_) AllReadyH.nil;go_simp;refine hK.out _ _ ⟨yh (yf hs1),yh (yf hs2)⟩ (fun hHeld=>?_);clear hK K
  try simp only[sA,sB,sC]
  refine wpAnyH_ready (rs:=[12]) (by kernel_rfl) (by simp) ?_;refine AllReadyH.cons rfl (fun K hK=>?_) AllReadyH.nil;refine step_append_lies _ (by rfl) _ _ _ (by rfl) w0.heap.size 63 i9 _ 2 24 underlying24 hi0 hz0 hz1 hz2 rfl (by omega) (.slice co s.cs.length cc) s.cs.length (s.cs.flatMap clC) (by rfl) (by exact yr HS1.out.cr (by repeat (first | (with_reducible exact Below.refl _ _) | (with_reducible refine Below.drew ?_) | (with_reducible refine yy ?_ ?_) | (simp;done) | omega))) ⟨W1.heap.size,0,none⟩ 1 1 [.string (bb n),.int .i64 p.cl] (by rfl) (by rfl) (by exact World.news_of_block (cs:=#[.string (bb n),.int .i64 p.cl]) (t:=63) (fr:=(0,0)) (heap_alloc_new _ _)) (by simp[Value.oneCell']) (by omega) (by unfold maxLen;omega) (by omega) (by simp;omega) (W1.heap.size+1) (by simp) ?_;intro gg cap1 w5 hown1 hgrow hat1 hlt5;obtain⟨⟨hx1,ht5,hb5⟩,hs5,ht6,hb6⟩:=HS1.out.growC (c:=(n,p.cl)) (by exact(by repeat (first | (with_reducible exact Below.refl _ _) | (with_reducible refine Below.drew ?_) | (with_reducible refine yy ?_ ?_) | (simp;done) | omega))) hgrow (by show World.ownsRow _ _ _ _ _ (s.cs++[(n,p.cl)]).length _;rw[List.length_append,List.flatMap_append];exact hown1);have hfz:=hx1.open 4;have hc9:=hx1.read.2.1;have HS5:=Lh hs5;have HT5:=Lh (HT1.out.trans ht6);have HB5:=Lh (HB1.out.trans hb6);have HP5:=Lh (ht6.prs HPP.out);have HQ5:=Lh (ht6.prs HQP.out);have HSB5:=Lh (ht6.blk HSB.out rfl);have HBP5:=Lh (ht6.blk HBP.out rfl);have m0:=bc 1 (ht5.blk HSB.out rfl)
  have m1:=bc 0 (ht5.blk HBP.out rfl);clear hs5 ht5 hb5 ht6 hb6 hx1;refine hK.out _ _ ⟨m0,m1⟩ (fun hHeld=>?_);clear hK K
  try simp only[sA,sB,sC]
  refine tk 13 33 (.pointer (some ⟨b,0,none⟩)) ?_;refine tk 14 34 (.pointer (some ⟨b,0,none⟩)) ?_;refine tk 15 35 (.pointer (some ⟨b,4,none⟩)) ?_;refine wpAnyH_ready (rs:=[16]) (by kernel_rfl) (by simp) ?_;refine AllReadyH.cons rfl (fun K hK=>?_) AllReadyH.nil;go_simp;refine hK.out _ _ ⟨yC (by simp only;omega) m0,yC (by simp only;omega) m1⟩ (fun hHeld=>?_);clear hK K
  try simp only[sA,sB,sC]
  refine wpAnyH_done (by kernel_rfl) ?_ _;clear hc9 hfz hc4 hs1 hs2 m0 m1 hHeld;generalize w5.setCell ⟨b,4,none⟩ (.slice (some ⟨gg,0,none⟩) (s.cs.length+1) cap1)=w6 at HS5 HT5 HB5 HP5 HQ5 HSB5 HBP5 |-;have hBf:Below w6.heap.size w6 w6.drew:=(Below.refl w6.heap.size w6).drew;have HS6:=Lh (HS5.out.below hBf);have HT6:=Lh (HT5.out.trans (TFr.below hBf));have HB6:=Lh (HB5.out.trans (hBf.mono HS5.out.base));have HP6:=Lh (HP5.out.keep hBf);have HQ6:=Lh (HQ5.out.keep hBf);have a4:=bc 4 ((TFr.below hBf).blk HSB5.out rfl);have e1:=bc 1 ((TFr.below hBf).blk HBP5.out rfl);have e2:=bc 2 ((TFr.below hBf).blk HBP5.out rfl);have b4:w6.drew.cell? ⟨b,4,none⟩=some (.slice (some ⟨gg,0,none⟩) (s.cs.length+1) cap1):=HS6.out.box.read.2.1;clear HS5 HT5 HB5 HP5 HQ5 HSB5 HBP5 hBf;go_wp2_with fail
  refine wp_region_still_tail 15 (by kernel_rfl) (by kernel_rfl) ?_
  change wpStill _ _ w6.drew (fun a'=>wpList _ _ _ _ a' w6.drew) _ _
  generalize w6.drew=w7 at *;simp only[List.take_succ_cons,List.take_zero,List.drop_succ_cons,List.drop_zero]
  repeat still_step
  refine wpStill_nil ?_;clear a4 e1 e2 b4;go_wp2_with fail
  refine(BlkR.use hIH w0 b nm d ⟨s.ns,s.ats,s.cs++[(n,p.cl)],s.en,s.e⟩ _ _ ⟨s.cs.length,p.dn,p.de⟩ _ _ S' w7 (Lh HS6.out) (Lh (hO.out.trans HB6.out)) (Lh h0.out) HP6 HQ6 hB ho (Lh (Room.clu (hz.out.le (by omega)) _ _)) (Lh ⟨hga.out.1,hga.out.2⟩) (Lh ⟨hgp.out.1,hgp.out.2⟩) HRB).mono ?_;rintro e w8 ⟨rfl,x8,hs8,ht8,hb8⟩;have HM8:Hid (yc4 w0.heap.size b nm d S' w w8):=Lh ⟨x8,hs8,HT6.out.trans ht8,HB6.out.trans hb8⟩;clear hs8 ht8 hb8;go_wp2;refine ypX rfl rfl ?_;exact⟨rfl,HM8.out⟩
 ·
  have hc4a:((W1.alloc (.cells #[.string (bb n),.int .i64 p.cl] 63)).drew).cell? ⟨b,4,none⟩=some (.slice co s.cs.length cc):=yh (o:=.cells #[.string (bb n),.int .i64 p.cl] 63) (show W1.cell? _=_ from hc4);go_simp;refine hK.out _ _ ⟨yh (yf hs1),yh (yf hs2)⟩ (fun hHeld=>?_);clear hK K
  try simp only[sA,sB,sC]
  refine wpAnyH_ready (rs:=[5]) (by kernel_rfl) (by simp) ?_;refine AllReadyH.cons rfl (fun K hK=>?_) AllReadyH.nil;go_simp;refine hK.out _ _ ⟨yh (yf hs1),yh (yf hs2)⟩ (fun hHeld=>?_);clear hK K
  try simp only[sA,sB,sC]
  refine wpAnyH_ready (rs:=[12]) (by kernel_rfl) (by simp) ?_;refine AllReadyH.cons rfl (fun K hK=>?_) AllReadyH.nil;refine step_append_lies _ (by rfl) _ _ _ (by rfl) w0.heap.size 63 i9 _ 2 24 underlying24 hi0 hz0 hz1 hz2 rfl (by omega) (.slice co s.cs.length cc) s.cs.length (s.cs.flatMap clC) (by rfl) (by exact yr HS1.out.cr (by repeat (first | (with_reducible exact Below.refl _ _) | (with_reducible refine Below.drew ?_) | (with_reducible refine yy ?_ ?_) | (simp;done) | omega))) ⟨W1.heap.size,0,none⟩ 1 1 [.string (bb n),.int .i64 p.cl] (by rfl) (by rfl) (by exact World.news_of_block (cs:=#[.string (bb n),.int .i64 p.cl]) (t:=63) (fr:=(0,0)) (heap_alloc_new _ _)) (by simp[Value.oneCell']) (by omega) (by unfold maxLen;omega) (by omega) (by simp;omega) (W1.heap.size+1) (by simp) ?_;intro gg cap1 w5 hown1 hgrow hat1 hlt5;obtain⟨⟨hx1,ht5,hb5⟩,hs5,ht6,hb6⟩:=HS1.out.growC (c:=(n,p.cl)) (by exact(by repeat (first | (with_reducible exact Below.refl _ _) | (with_reducible refine Below.drew ?_) | (with_reducible refine yy ?_ ?_) | (simp;done) | omega))) hgrow (by show World.ownsRow _ _ _ _ _ (s.cs++[(n,p.cl)]).length _;rw[List.length_append,List.flatMap_append];exact hown1);have hfz:=hx1.open 4;have hc9:=hx1.read.2.1;have HS5:=Lh hs5;have HT5:=Lh (HT1.out.trans ht6);have HB5:=Lh (HB1.out.trans hb6);have HP5:=Lh (ht6.prs HPP.out);have HQ5:=Lh (ht6.prs HQP.out);have HSB5:=Lh (ht6.blk HSB.out rfl);have HBP5:=Lh (ht6.blk HBP.out rfl);have m0:=bc 1 (ht5.blk HSB.out rfl)
  have m1:=bc 0 (ht5.blk HBP.out rfl);clear hs5 ht5 hb5 ht6 hb6 hx1;refine hK.out _ _ ⟨m0,m1⟩ (fun hHeld=>?_);clear hK K
  try simp only[sA,sB,sC]
  refine tk 13 33 (.pointer (some ⟨b,0,none⟩)) ?_;refine tk 14 34 (.pointer (some ⟨b,0,none⟩)) ?_;refine tk 15 35 (.pointer (some ⟨b,4,none⟩)) ?_;refine wpAnyH_ready (rs:=[16]) (by kernel_rfl) (by simp) ?_;refine AllReadyH.cons rfl (fun K hK=>?_) AllReadyH.nil;go_simp;refine hK.out _ _ ⟨yC (by simp only;omega) m0,yC (by simp only;omega) m1⟩ (fun hHeld=>?_);clear hK K
  try simp only[sA,sB,sC]
  refine wpAnyH_done (by kernel_rfl) ?_ _;clear hc9 hfz hc4 hs1 hs2 m0 m1 hHeld;generalize w5.setCell ⟨b,4,none⟩ (.slice (some ⟨gg,0,none⟩) (s.cs.length+1) cap1)=w6 at HS5 HT5 HB5 HP5 HQ5 HSB5 HBP5 |-;have hBf:Below w6.heap.size w6 w6.drew:=(Below.refl w6.heap.size w6).drew;have HS6:=Lh (HS5.out.below hBf);have HT6:=Lh (HT5.out.trans (TFr.below hBf));have HB6:=Lh (HB5.out.trans (hBf.mono HS5.out.base));have HP6:=Lh (HP5.out.keep hBf);have HQ6:=Lh (HQ5.out.keep hBf);have a4:=bc 4 ((TFr.below hBf).blk HSB5.out rfl);have e1:=bc 1 ((TFr.below hBf).blk HBP5.out rfl);have e2:=bc 2 ((TFr.below hBf).blk HBP5.out rfl);have b4:w6.drew.cell? ⟨b,4,none⟩=some (.slice (some ⟨gg,0,none⟩) (s.cs.length+1) cap1):=HS6.out.box.read.2.1;clear HS5 HT5 HB5 HP5 HQ5 HSB5 HBP5 hBf;go_wp2_with fail
  refine wp_region_still_tail 15 (by kernel_rfl) (by kernel_rfl) ?_
  change wpStill _ _ w6.drew (fun a'=>wpList _ _ _ _ a' w6.drew) _ _
  generalize w6.drew=w7 at *;simp only[List.take_succ_cons,List.take_zero,List.drop_succ_cons,List.drop_zero]
  repeat still_step
  refine wpStill_nil ?_;clear a4 e1 e2 b4;go_wp2_with fail
  refine(BlkR.use hIH w0 b nm d ⟨s.ns,s.ats,s.cs++[(n,p.cl)],s.en,s.e⟩ _ _ ⟨s.cs.length,p.dn,p.de⟩ _ _ S' w7 (Lh HS6.out) (Lh (hO.out.trans HB6.out)) (Lh h0.out) HP6 HQ6 hB ho (Lh (Room.clu (hz.out.le (by omega)) _ _)) (Lh ⟨hga.out.1,hga.out.2⟩) (Lh ⟨hgp.out.1,hgp.out.2⟩) HRB).mono ?_;rintro e w8 ⟨rfl,x8,hs8,ht8,hb8⟩;have HM8:Hid (yc4 w0.heap.size b nm d S' w w8):=Lh ⟨x8,hs8,HT6.out.trans ht8,HB6.out.trans hb8⟩;clear hs8 ht8 hb8;go_wp2;refine ypX rfl rfl ?_;exact⟨rfl,HM8.out⟩
end Go.Proofs.YtgmidodmmlmmeaaGreatDoor.nor
namespace Go.Proofs.YtgmidodmmlmmeaaGreatDoor.nor
open Go.RowKit lex tre att
theorem TFr.grow {w0 w w':World}{row:Option Nat}(h:TFr w0 w)(hg:w.grownBy w' row)(hr:∀ k,row=some k->w0.heap.size<=k):TFr w0 w':=by
 refine⟨hg.os.trans h.os,hg.tape.trans h.tape,hg.output.trans h.output,Nat.le_trans h.size hg.size,fun k o hk hc=>?_⟩;have h1:=h.block k o hk hc;rw[hg.block k (yax h1) (fun e=>by have:=hr k e.symm;have:=yax hk;omega)];exact h1
theorem yd1 {W W':World}{B c n:Nat}{t:TypeId}{v:Value}{xs:List Value}(h:W.ownsRow B t c v n xs)(ht:TFr W W')(hc:hot t=false):W'.ownsRow B t c v n xs:=by
 refine⟨h.1,?_⟩
 rcases h.2 with ⟨a,b⟩ | ⟨k,cap,cur,rfl,h1,h2,h3⟩
 ·exact Or.inl ⟨a,b⟩
 ·exact Or.inr ⟨k,cap,cur,rfl,h1,ht.block _ _ h2 hc,h3⟩
theorem yfw {W W':World}{B' c' n':Nat}{u:TypeId}{v v':Value}{ys:List Value}{l:List Pr}(h:PrsT W v l)(hg:W.ownsRow B' u c' v' n' ys)(hw:W.grownBy W' v'.ownBlock)(hu:u≠69):PrsT W' v l:=by
 have key:∀ (g:Nat) (o:Obj),W.heap[g]?=some o->(∃ arr fr,o=.cells arr 69 fr)->W'.heap[g]?=some o:=by
  intro g o ho ⟨arr,fr,hof⟩;rw[hw.block g (yax ho) ?_]
  ·exact ho
  ·intro e
   rcases hg.2 with ⟨rfl,_⟩ | ⟨k',cap',cur',rfl,_,h2',_⟩
   ·cases e
   ·obtain rfl:g=k':=Option.some.inj e
    rw[ho,hof] at h2';cases h2'
    exact hu rfl
 obtain⟨⟨ao,cap,rfl,hc,hm,hA⟩,hT⟩:=h;refine⟨⟨ao,cap,rfl,hc,hm,fun hn=>?_⟩,fun g hg'=>?_⟩
 ·obtain⟨A,rfl,h2⟩:=hA hn
  obtain⟨arr,fr,hk⟩:=hT A.block rfl;have e:W'.heap[A.block]?=W.heap[A.block]?:=by rw[key _ _ hk ⟨_,_,rfl⟩,hk]
  refine⟨A,rfl,fun i hi=>?_⟩;obtain⟨a1,a2,a3⟩:=h2 i hi;have eb:(A.add (i*2)).block=A.block:=by unfold Addr.add;split <;> rfl
  have e1:W'.heap[(A.add (i*2)).block]?=W.heap[(A.add (i*2)).block]?:=by rw[eb];exact e
  exact⟨(World.cell?_of_block (a:=A.add (i*2)) e1).trans a1,(World.cell?_of_block (a:=⟨(A.add (i*2)).block,(A.add (i*2)).off+1,none⟩) e1).trans a2,a3⟩
 ·obtain⟨arr,fr,hk⟩:=hT g hg'
  exact⟨arr,fr,key _ _ hk ⟨_,_,rfl⟩⟩
def inC (n:Int):List Value:=[.int .i64 n]
abbrev Irow (W:World)(B:Nat)(v:Value)(l:List Int):Prop:=W.ownsRow B 3 1 v l.length (l.flatMap inC)
theorem StB.growI {W W':World}{B b B':Nat}{nm:Nm}{d:Bool}{s:Sta}{x:StV}{v:Value}{l:List Int}(h:StB W B b nm d s x)(hi:Irow W B' v l)(hg:W.grownBy W' v.ownBlock):StB W' B b nm d s x :=
 ⟨h.low,yaF h.box hi hg (by decide),yI h.nr hi hg (by decide),yI h.cr hi hg (by decide),yI h.ar hi hg (by decide),yI h.er hi hg (by decide),h.al,fun i h1 h2=>yfw (h.ap i h1 h2) hi hg (by decide),h.el,fun y hy=>yfw (h.ep y hy) hi hg (by decide)⟩
theorem ypZ {rs:List Pr}{i:Nat}(h:i<rs.length)(s:Sta)(p:Pl):y7 (rs.drop i) s p=if s.e≠0 then s else y7 (rs.drop (i+1)) (yN s rs[i].1 p) p:=by
 rw[List.drop_eq_getElem_cons h,y7]
theorem yp0 {rs:List Pr}{i:Nat}(h:i<rs.length)(s:Sta)(p:Pl):ybb (rs.drop i) s p=if s.e≠0 then [] else ybS s rs[i].1::ybb (rs.drop (i+1)) (yN s rs[i].1 p) p:=by
 rw[List.drop_eq_getElem_cons h,ybb]
theorem ynm {s:Sta}{p:Pl}(h:s.e≠0):∀ rs,y7 rs s p=s
 | []=>rfl
 | r::t=>by rw[y7,if_pos h]
theorem ynn {s:Sta}{p:Pl}(h:s.e≠0):∀ rs,ybb rs s p=[]
 | []=>rfl
 | r::t=>by rw[ybb,if_pos h]
theorem yp1 (s:Sta)(n:Nm)(p:Pl):(yN s n p).ns.length<=s.ns.length+1/\(yN s n p).ats.length<=s.ats.length+1/\(yN s n p).en=s.en:=by
 unfold yN
 split
 ·exact⟨by simp,by simp,rfl⟩
 ·exact⟨by simp,by simp,rfl⟩
abbrev ed5 (W:World)(P:Nat)(A A2:Addr)(k rc:Nat)(n:Nm)(c:Int)(pv dv:Value):Prop:=W.cell? ⟨P,2,none⟩=some (.slice (some A) k rc)/\W.cell? A2=some (.string (bb n))/\W.cell? ⟨P+1,0,none⟩=some (.int .i64 c)/\W.cell? ⟨P+1,1,none⟩=some pv/\W.cell? ⟨P+1,2,none⟩=some dv
theorem ed5_drew {W:World}{P:Nat}{A A2:Addr}{k rc:Nat}{n:Nm}{c:Int}{pv dv:Value}(h:ed5 W P A A2 k rc n c pv dv):ed5 W.drew P A A2 k rc n c pv dv:=h
theorem yno {W:World}{P:Nat}{A A2:Addr}{k rc:Nat}{n:Nm}{c:Int}{pv dv:Value}{o:Obj}(h:ed5 W P A A2 k rc n c pv dv):ed5 (W.alloc o) P A A2 k rc n c pv dv:=⟨yh h.1,yh h.2.1,yh h.2.2.1,yh h.2.2.2.1,yh h.2.2.2.2⟩
theorem yqK {W:World}{P:Nat}{A:Addr}{rs ats:List Pr}{rc bn bc tc:Nat}{i:Nat}{n:Nm}{p:Pl}{k:Int}{Z:ByteArray}{uo bo:Option Addr}{pv dv:Value}(hx:blk W P 67 #[.int .i64 k,.string Z,.slice (some A) rs.length rc,.slice uo ats.length tc,.slice bo bn bc])(hb:blk W (P+1) 104 #[.int .i64 p.cl,pv,dv])(hr:Prs W (.slice (some A) rs.length rc) rs)(hi:i<rs.length)(hn:rs[i].1=n):ed5 W P A (A.add (i*2)) rs.length rc n p.cl pv dv:=by
 obtain⟨ao',cap',e',_,_,hA⟩:=hr;cases e'
 obtain⟨A9,e9,hAt⟩:=hA (by omega);cases e9
 obtain⟨q0,-,-,-⟩:=hAt i hi;rw[hn] at q0;exact⟨by rw[yd hx];rfl,q0,by rw[yd hb];rfl,by rw[yd hb];rfl,by rw[yd hb];rfl⟩
theorem yp2:(Tryz.prog.info? 3).map (fun i=>(i.zero,i.size,i.bytes))=some (some (.int .i64 0),1,8):=by kernel_rfl
structure EdR (w wr:World)(B b P:Nat)(nm:Nm)(d:Bool)(s0:Sta)(rs:List Pr)(p:Pl)(xa pa:Array Value)(lv:Value)(i:Nat)(C:List Int)(s:Sta)(x:StV):Prop where
 st:StB wr B b nm d s x
 row:Irow wr (P+2) lv C
 len:C.length=i
 es:y7 (rs.drop i) s p=y7 rs s0 p
 ei:C++ybb (rs.drop i) s p=ybb rs s0 p
 nl:s.ns.length<=s0.ns.length+i
 al:s.ats.length<=s0.ats.length+i
 en:s.en=s0.en
 fr:TFr w wr
 bl:Below B w wr
 bx:blk wr P 67 xa
 bp:blk wr (P+1) 104 pa
theorem EdR.next {w1 wr w6 Wd w7:World}{B b P:Nat}{nm:Nm}{d:Bool}{s0:Sta}{rs:List Pr}{p:Pl}{xa pa:Array Value}{lv lv':Value}{i:Nat}{C:List Int}{s:Sta}{x x6:StV}{n:Nm}(h:EdR w1 wr B b P nm d s0 rs p xa pa lv i C s x)(hS6:StB w6 B b nm d (yN s n p) x6)(hT6:TFr wr w6)(hB6:Below B wr w6)(hbl:Below w6.heap.size w6 Wd)(hg:Wd.grownBy w7 lv.ownBlock)
    (hown:Irow w7 (P+2) lv' (C++[ybS s n])) (hi:i<rs.length) (hn:rs[i].1=n) (he:s.e=0) (hP:w1.heap.size=P+2) (hBP:B<=P):EdR w1 w7 B b P nm d s0 rs p xa pa lv' (i+1) (C++[ybS s n]) (yN s n p) x6:=by
 have row6:Irow w6 (P+2) lv C:=yd1 h.row hT6 rfl;have rowd:Irow Wd (P+2) lv C:=yr row6 hbl;have hTd:TFr w1 Wd:=(h.fr.trans hT6).trans (TFr.below hbl);have hT7:TFr w1 w7:=TFr.grow hTd hg fun k hk=>by rw[hP];exact(World.ownsRow.lt rowd k hk).1
 have hsd:P+2<=Wd.heap.size:=by rw[<- hP];exact hTd.size
 have hB7:Below B w1 w7:=((h.bl.trans hB6).trans (hbl.mono hS6.base)).trans ((ybe rowd hg hsd).mono (by omega));have hl:=yp1 s n p;refine⟨(hS6.below hbl).growI rowd hg,hown,by rw[List.length_append,h.len];rfl,?_,?_,by have:=h.nl;omega,by have:=h.al;omega,hl.2.2.trans h.en,hT7,hB7,?_,?_⟩
 ·rw[<- h.es,ypZ hi,if_neg (by rw[he];simp),hn]
 ·rw[<- h.ei,yp0 hi,if_neg (by rw[he];simp),hn,List.append_assoc];rfl
 ·exact yaF ((TFr.below hbl).blk (hT6.blk h.bx rfl) rfl) rowd hg (by decide)
 ·exact yaF ((TFr.below hbl).blk (hT6.blk h.bp rfl) rfl) rowd hg (by decide)
theorem ykv {p:Pl}:∀ (rs:List Pr) (s:Sta),(y7 rs s p).e=0->(ybb rs s p).length=rs.length
 | [],_,_=>rfl
 | r::t,s,h=>by
  rw[y7] at h;rw[ybb]
  by_cases e:s.e=0
  ·rw[if_neg (by rw[e];simp)] at h |-
   rw[List.length_cons,List.length_cons,ykv t _ h]
  ·rw[if_pos e] at h
   exact absurd h e
theorem yey:∀ (rs:List Pr) (s:Sta) (p:Pl),(ybb rs s p).length<=rs.length
 | [],_,_=>Nat.le_refl _
 | r::t,s,p=>by
  rw[ybb]
  split
  ·exact Nat.zero_le _
  ·rw[List.length_cons,List.length_cons];have:=yey t (yN s r.1 p) p;omega
theorem ycc (m:List Pr):∀ (l:List Int) (rs:List Pr),l.length=rs.length->(yaz l rs m).length=l.length-1
 | [],[],_=>rfl
 | [_],[_],_=>rfl
 | a::b::t,r::q::u,h=>by
  rw[yaz,List.length_cons,ycc m (b::t) (q::u) (by simpa using h)];simp
theorem yiz (m:List Pr):∀ (l:List Int) (rs:List Pr) (k:Nat) (h:l.length=rs.length) (h1:k+1<l.length) (h2:k<(yaz l rs m).length),(yaz l rs m)[k]=⟨l[k],l[k+1],(rs[k]'(by omega)).2,(rs[k+1]'(by omega)).2,m⟩
 | a::b::t,r::q::u,k,h,h1,h2=>by
  cases k with
  | zero=>rfl
  | succ k =>
   simp only[yaz,List.getElem_cons_succ]
   exact yiz m (b::t) (q::u) k (by simpa using h) (by simpa using h1) (by
    rw[ycc m (b::t) (q::u) (by simpa using h)];simpa using h1)
 | [],_,k,_,h1,_=>absurd h1 (by simp)
 | [_],_,k,_,h1,_=>absurd h1 (by simp)
 | _::_::_,[],_,h,_,_=>absurd h (by simp)
 | _::_::_,[_],_,h,_,_=>absurd h (by simp)
theorem yk7 {m:List Pr}{l:List Int}{rs:List Pr}{k:Nat}(h:l.length=rs.length)(h1:k+1<l.length):(yaz l rs m).take (k+1)=(yaz l rs m).take k++[⟨l[k],l[k+1],(rs[k]'(by omega)).2,(rs[k+1]'(by omega)).2,m⟩]:=by
 have h2:k<(yaz l rs m).length:=by rw[ycc m l rs h];omega
 rw[List.take_succ_eq_append_getElem h2,yiz m l rs k h h1 h2]
abbrev ed9 (W:World)(P:Nat)(A:Addr)(G:Nat)(n rc:Nat)(av ev:Value)(j:Nat)(a c:Int)(fp tp:Nm):Prop:=W.cell? ⟨P,2,none⟩=some (.slice (some A) n rc)/\W.cell? ⟨P,3,none⟩=some av/\W.cell? ⟨P+1,2,none⟩=some ev/\W.cell? ⟨G,j,none⟩=some (.int .i64 a)/\W.cell? ⟨G,j+1,none⟩=some (.int .i64 c)/\W.cell? ⟨(A.add (j*2)).block,(A.add (j*2)).off+1,none⟩=some (.string (bb fp))/\W.cell? ⟨(A.add ((j+1)*2)).block,(A.add ((j+1)*2)).off+1,none⟩=some (.string (bb tp))
theorem ycr {W:World}{P:Nat}{A:Addr}{G:Nat}{n rc:Nat}{av ev:Value}{j:Nat}{a c:Int}{fp tp:Nm}(h:ed9 W P A G n rc av ev j a c fp tp):ed9 W.drew P A G n rc av ev j a c fp tp:=h
theorem ycd {W:World}{P:Nat}{A:Addr}{G:Nat}{n rc:Nat}{av ev:Value}{j:Nat}{a c:Int}{fp tp:Nm}{o:Obj}(h:ed9 W P A G n rc av ev j a c fp tp):ed9 (W.alloc o) P A G n rc av ev j a c fp tp:=⟨yh h.1,yh h.2.1,yh h.2.2.1,yh h.2.2.2.1,yh h.2.2.2.2.1,yh h.2.2.2.2.2.1,yh h.2.2.2.2.2.2⟩
theorem ynp {W:World}{B:Nat}{ao:Option Addr}{n cap:Nat}{l:List Int}(h:Irow W B (.slice ao n cap) l){k:Nat}(hk:k<l.length):∃ G,ao=some ⟨G,0,none⟩/\∀ k (h:k<l.length),W.cell? ⟨G,k,none⟩=some (.int .i64 l[k]):=by
 obtain⟨g,cap',arr,e,_,hg,_,_,h3⟩:=yaE h (by omega);cases e
 refine⟨_,rfl,fun k hk=>?_⟩;rw[yd hg,h3 _ (by omega)];have:=yac inC 1 (fun _=>rfl) l k 0 hk (by decide);rw[Nat.add_zero,Nat.mul_one] at this;rw[this];rfl
theorem ytO {W:World}{P B:Nat}{A:Addr}{G:Nat}{rs:List Pr}{rc bn bc n cap:Nat}{j:Nat}{p:Pl}{k:Int}{Z:ByteArray}{bo:Option Addr}{av dv ev:Value}{L:List Int}{a c:Int}{fp tp:Nm}(hx:blk W P 67 #[.int .i64 k,.string Z,.slice (some A) rs.length rc,av,.slice bo bn bc])(hb:blk W (P+1) 104 #[.int .i64 p.cl,dv,ev])(hr:Prs W (.slice (some A) rs.length rc) rs)(hL:Irow W B (.slice (some ⟨G,0,none⟩) n cap) L)(hj:j+1<L.length)(hjr:j+1<rs.length)
    (ha:L[j]=a) (hc:L[j+1]=c) (hf:(rs[j]'(by omega)).2=fp) (ht:rs[j+1].2=tp):ed9 W P A G rs.length rc av ev j a c fp tp:=by
 obtain⟨ao',cap',e',_,_,hA⟩:=hr;cases e'
 obtain⟨A9,e9,hAt⟩:=hA (by omega);cases e9
 obtain⟨-,q1,-,-⟩:=hAt j (by omega);obtain⟨-,q2,-,-⟩:=hAt (j+1) hjr;obtain⟨G9,eg,hg⟩:=ynp hL hj;cases eg
 rw[hf] at q1;rw[ht] at q2;exact⟨by rw[yd hx];rfl,by rw[yd hx];rfl,by rw[yd hb];rfl,by rw[hg j (by omega),ha],by rw[hg (j+1) hj,hc],q1,q2⟩
theorem yp3:(Tryz.prog.info? 189).map (fun i=>(i.zero,i.size,i.bytes))=some (some (.agg #[.int .i64 0,.int .i64 0,.string ⟨#[]⟩,.string ⟨#[]⟩,.slice none 0 0]),5,72):=by kernel_rfl
structure EdQ (w wr:World)(B b P:Nat)(nm:Nm)(d:Bool)(s2:Sta)(E:List En)(xa pa:Array Value)(lv:Value)(L:List Int)(k:Nat)(x:StV):Prop where
 st:StB wr B b nm d ⟨s2.ns,s2.ats,s2.cs,s2.en++E.take (k-1),s2.e⟩ x
 row:Irow wr (P+2) lv L
 fr:TFr w wr
 bl:Below B w wr
 bx:blk wr P 67 xa
 bp:blk wr (P+1) 104 pa
theorem EdQ.next {w wr w6 Wd w7:World}{B b P:Nat}{nm:Nm}{d:Bool}{s2:Sta}{E:List En}{xa pa:Array Value}{lv:Value}{L:List Int}{k:Nat}{x:StV}{e:En}{ev' v:Value}(h:EdQ w wr B b P nm d s2 E xa pa lv L (k+1) x)(hb:Below wr.heap.size wr w6)(hbl:Below w6.heap.size w6 Wd)(hg:Wd.grownBy w7 x.ev.ownBlock)(ho:Erow w7 B ev' (x.evs++[(e,v)]))(hv:PrsT w6 v e.ats)(hE:E.take (k+1)=E.take k++[e]) :
    (stb w7 b nm d x.nv x.cv x.av x.ev s2.e/\TFr wr w7/\Below B wr w7)/\EdQ w (w7.setCell ⟨b,6,none⟩ ev') B b P nm d s2 E xa pa lv L (k+2) ⟨x.nv,x.cv,x.av,ev',x.avs,x.evs++[(e,v)]⟩:=by
 have h6:=h.st.below hb;obtain⟨⟨m1,m2,m3⟩,m4,m5,m6⟩:=h6.growE hbl hg ho (hv.keep hbl);have t6:TFr wr w7:=(TFr.below hb).trans m2;have b6:Below B wr w7:=(hb.mono h.st.base).trans m3;have t7:TFr wr (w7.setCell ⟨b,6,none⟩ ev'):=(TFr.below hb).trans m5;have b7:Below B wr (w7.setCell ⟨b,6,none⟩ ev'):=(hb.mono h.st.base).trans m6;refine⟨⟨m1,t6,b6⟩,⟨?_,yd1 h.row t7 rfl,h.fr.trans t7,h.bl.trans b7,t7.blk h.bx rfl,t7.blk h.bp rfl⟩⟩;have e1:k+2-1=k+1:=rfl;rw[e1,hE,<- List.append_assoc];exact m4
end Go.Proofs.YtgmidodmmlmmeaaGreatDoor.nor
namespace Go.Proofs.YtgmidodmmlmmeaaGreatDoor.nor
open Go.RowKit lex tre att _root_.Go.Proofs.Tryz
theorem yp4 (B b:Nat)(nm:Nm)(d:Bool)(s:Sta)(x:StV)(k:Int)(Z:ByteArray)(rs ats:List Pr)(ro uo bo:Option Addr)(rc tc bn bq:Nat)(p:Pl)(po qo:Option Addr)(pc qc:Nat)(w:World)(hS:Hid (StB w B b nm d s x))(hr:Hid (PrsS B w (.slice ro rs.length rc) rs))(ha:Hid (PrsS B w (.slice uo ats.length tc) ats))(hp:Hid (PrsT w (.slice po p.dn.length pc) p.dn))(hq:Hid (PrsT w (.slice qo p.de.length qc) p.de))
    (hl:s.ns.length+rs.length<=3000000) (hal:s.ats.length+rs.length<=3000000) (hel:s.en.length+rs.length<=3000000) (had:ats.length<=20000) (hqd:p.de.length<=20000) :
    Calls Tryz.prog 105 #[.pointer (some ⟨b,0,none⟩),.agg #[.int .i64 k,.string Z,.slice ro rs.length rc,.slice uo ats.length tc,.slice bo bn bq],.agg #[.int .i64 p.cl,.slice po p.dn.length pc,.slice qo p.de.length qc]] w fun e w'=>e=.returned (.tuple #[])/\yc4 B b nm d (yaL s rs ats p) w w':=by
 go_enter func105,ntmps105;obtain⟨M,HM⟩:=ybu (fun a' w'=>(a'=⟨#[.pointer (some ⟨b,0,none⟩),.agg #[.int .i64 k,.string Z,.slice ro rs.length rc,.slice uo ats.length tc,.slice bo bn bq],.agg #[.int .i64 p.cl,.slice po p.dn.length pc,.slice qo p.de.length qc],undef,.pointer (some ⟨w.heap.size,0,none⟩),.pointer (some ⟨w.heap.size+1,0,none⟩),undef,undef,undef,undef,undef,undef,undef,undef,undef,undef,undef,undef,undef,undef,undef,undef,undef,undef,undef,undef,undef,undef,undef,undef,undef,undef,undef,undef,undef,undef,undef,undef,undef,undef,undef,undef,undef,undef,undef,undef,undef,undef,undef,undef,undef,undef,undef,undef,undef,undef,undef,undef,undef,undef,undef,undef,undef,undef,undef,undef,undef,undef,undef,undef,undef,undef,undef,undef,undef,undef,undef,undef,undef,undef,undef,undef,undef,undef,undef],[]⟩/\w'=(w.alloc (.cells #[.int .i64 k,.string Z,.slice ro rs.length rc,.slice uo ats.length tc,.slice bo bn bq] 67)).alloc (.cells #[.int .i64 p.cl,.slice po p.dn.length pc,.slice qo p.de.length qc] 104)));refine ybU M ?_ ?_
 ·go_wp2
  exact(HM.out _ _).2 ⟨rfl,rfl⟩
 intro a' w' hm;obtain⟨rfl,rfl⟩:=(HM.out _ _).1 hm;clear HM hm M;have hB1:Below w.heap.size w ((w.alloc (.cells #[.int .i64 k,.string Z,.slice ro rs.length rc,.slice uo ats.length tc,.slice bo bn bq] 67)).alloc (.cells #[.int .i64 p.cl,.slice po p.dn.length pc,.slice qo p.de.length qc] 104)):=al2 ..;have hbx:blk ((w.alloc (.cells #[.int .i64 k,.string Z,.slice ro rs.length rc,.slice uo ats.length tc,.slice bo bn bq] 67)).alloc (.cells #[.int .i64 p.cl,.slice po p.dn.length pc,.slice qo p.de.length qc] 104)) w.heap.size 67 #[.int .i64 k,.string Z,.slice ro rs.length rc,.slice uo ats.length tc,.slice bo bn bq]:=(TFr.alloc _ _).blk (yl ..) rfl;have hbp:blk ((w.alloc (.cells #[.int .i64 k,.string Z,.slice ro rs.length rc,.slice uo ats.length tc,.slice bo bn bq] 67)).alloc (.cells #[.int .i64 p.cl,.slice po p.dn.length pc,.slice qo p.de.length qc] 104)) (w.heap.size+1) 104 #[.int .i64 p.cl,.slice po p.dn.length pc,.slice qo p.de.length qc]:=by have:=yl (w.alloc (.cells #[.int .i64 k,.string Z,.slice ro rs.length rc,.slice uo ats.length tc,.slice bo bn bq] 67)) #[.int .i64 p.cl,.slice po p.dn.length pc,.slice qo p.de.length qc] 104;rwa [show (w.alloc (.cells #[.int .i64 k,.string Z,.slice ro rs.length rc,.slice uo ats.length tc,.slice bo bn bq] 67)).heap.size=w.heap.size+1 by simp] at this
 have hsz:((w.alloc (.cells #[.int .i64 k,.string Z,.slice ro rs.length rc,.slice uo ats.length tc,.slice bo bn bq] 67)).alloc (.cells #[.int .i64 p.cl,.slice po p.dn.length pc,.slice qo p.de.length qc] 104)).heap.size=w.heap.size+1+1:=by simp
 generalize (w.alloc (.cells #[.int .i64 k,.string Z,.slice ro rs.length rc,.slice uo ats.length tc,.slice bo bn bq] 67)).alloc (.cells #[.int .i64 p.cl,.slice po p.dn.length pc,.slice qo p.de.length qc] 104)=W1 at hB1 hbx hbp hsz |-;have HED:Hid (EdR W1 W1 B b w.heap.size nm d s rs p #[.int .i64 k,.string Z,.slice ro rs.length rc,.slice uo ats.length tc,.slice bo bn bq] #[.int .i64 p.cl,.slice po p.dn.length pc,.slice qo p.de.length qc] (.slice none 0 0) 0 [] s x):=Lh ⟨hS.out.below hB1,World.ownsRow_nil ..,rfl,rfl,rfl,Nat.le_refl _,Nat.le_refl _,rfl,TFr.refl _,Below.refl _ _,hbx,hbp⟩;have HB1:=Lh hB1;have HSZ:=Lh hsz;have HBP:=Lh hS.out.base;have hrsl:rs.length<=3000000:=by omega
 clear hB1 hbx hbp;obtain⟨M,HM⟩:=ybu (fun a' w'=>(a'=⟨#[.pointer (some ⟨b,0,none⟩),.agg #[.int .i64 k,.string Z,.slice ro rs.length rc,.slice uo ats.length tc,.slice bo bn bq],.agg #[.int .i64 p.cl,.slice po p.dn.length pc,.slice qo p.de.length qc],undef,.pointer (some ⟨w.heap.size,0,none⟩),.pointer (some ⟨w.heap.size+1,0,none⟩),.slice none 0 0,undef,undef,undef,undef,undef,undef,undef,undef,undef,undef,undef,undef,undef,undef,undef,undef,undef,undef,undef,undef,undef,undef,undef,undef,undef,undef,undef,undef,undef,undef,undef,undef,undef,undef,undef,undef,undef,undef,undef,undef,undef,undef,undef,undef,undef,undef,undef,undef,undef,undef,undef,undef,undef,undef,undef,undef,undef,undef,undef,undef,undef,undef,undef,undef,undef,undef,undef,undef,undef,undef,undef,undef,undef,undef,undef,undef,undef,undef],[]⟩/\w'=W1));refine ybU M ?_ ?_
 ·go_wp2
  exact(HM.out _ _).2 ⟨rfl,rfl⟩
 intro a' w' hm;obtain⟨rfl,hw9⟩:=(HM.out _ _).1 hm;rw[hw9];clear HM hm M hw9 w';obtain⟨M,HM⟩:=ybu (fun a' w'=>∃ lv,a'=⟨#[.pointer (some ⟨b,0,none⟩),.agg #[.int .i64 k,.string Z,.slice ro rs.length rc,.slice uo ats.length tc,.slice bo bn bq],.agg #[.int .i64 p.cl,.slice po p.dn.length pc,.slice qo p.de.length qc],undef,.pointer (some ⟨w.heap.size,0,none⟩),.pointer (some ⟨w.heap.size+1,0,none⟩),lv,a'.tmps.getD 7 undef,a'.tmps.getD 8 undef,a'.tmps.getD 9 undef,a'.tmps.getD 10 undef,a'.tmps.getD 11 undef,a'.tmps.getD 12 undef,a'.tmps.getD 13 undef,a'.tmps.getD 14 undef,a'.tmps.getD 15 undef,a'.tmps.getD 16 undef,a'.tmps.getD 17 undef,a'.tmps.getD 18 undef,a'.tmps.getD 19 undef,a'.tmps.getD 20 undef,a'.tmps.getD 21 undef,a'.tmps.getD 22 undef,a'.tmps.getD 23 undef,a'.tmps.getD 24 undef,a'.tmps.getD 25 undef,a'.tmps.getD 26 undef,a'.tmps.getD 27 undef,a'.tmps.getD 28 undef,a'.tmps.getD 29 undef,a'.tmps.getD 30 undef,a'.tmps.getD 31 undef,a'.tmps.getD 32 undef,a'.tmps.getD 33 undef,a'.tmps.getD 34 undef,a'.tmps.getD 35 undef,a'.tmps.getD 36 undef,a'.tmps.getD 37 undef,a'.tmps.getD 38 undef,a'.tmps.getD 39 undef,a'.tmps.getD 40 undef,a'.tmps.getD 41 undef,a'.tmps.getD 42 undef,a'.tmps.getD 43 undef,a'.tmps.getD 44 undef,a'.tmps.getD 45 undef,a'.tmps.getD 46 undef,a'.tmps.getD 47 undef,a'.tmps.getD 48 undef,a'.tmps.getD 49 undef,a'.tmps.getD 50 undef,a'.tmps.getD 51 undef,a'.tmps.getD 52 undef,a'.tmps.getD 53 undef,a'.tmps.getD 54 undef,a'.tmps.getD 55 undef,a'.tmps.getD 56 undef,a'.tmps.getD 57 undef,a'.tmps.getD 58 undef,a'.tmps.getD 59 undef,a'.tmps.getD 60 undef,a'.tmps.getD 61 undef,a'.tmps.getD 62 undef,a'.tmps.getD 63 undef,a'.tmps.getD 64 undef,a'.tmps.getD 65 undef,a'.tmps.getD 66 undef,a'.tmps.getD 67 undef,a'.tmps.getD 68 undef,a'.tmps.getD 69 undef,a'.tmps.getD 70 undef,a'.tmps.getD 71 undef,a'.tmps.getD 72 undef,a'.tmps.getD 73 undef,a'.tmps.getD 74 undef,a'.tmps.getD 75 undef,a'.tmps.getD 76 undef,a'.tmps.getD 77 undef,a'.tmps.getD 78 undef,a'.tmps.getD 79 undef,a'.tmps.getD 80 undef,a'.tmps.getD 81 undef,a'.tmps.getD 82 undef,a'.tmps.getD 83 undef,a'.tmps.getD 84 undef],[]⟩/\∃ x',EdR W1 w' B b w.heap.size nm d s rs p #[.int .i64 k,.string Z,.slice ro rs.length rc,.slice uo ats.length tc,.slice bo bn bq] #[.int .i64 p.cl,.slice po p.dn.length pc,.slice qo p.de.length qc] lv (ybb rs s p).length (ybb rs s p) (y7 rs s p) x')
 refine ybU M ?_ ?_
 ·go_wp2_with fail
  go_loopw [6,7] (fun lv iv wr=>∃ (i:Nat) (C:List Int) (s1:Sta) (x1:StV),iv=.int .i64 i/\i<=rs.length/\EdR W1 wr B b w.heap.size nm d s rs p #[.int .i64 k,.string Z,.slice ro rs.length rc,.slice uo ats.length tc,.slice bo bn bq] #[.int .i64 p.cl,.slice po p.dn.length pc,.slice qo p.de.length qc] lv i C s1 x1) (fun _ iv _=>rs.length-(intOf iv).toNat)
  case atStart=>exact⟨0,[],s,x,rfl,Nat.zero_le _,HED.out⟩
  case round =>
   obtain⟨i,C,s1,x1,rfl,hi,hed⟩:=hrel
   rename World=>wr
   obtain⟨oo,oc,rfl,_,_⟩:=yu hed.row;obtain⟨c2,c4,c5,c6,c7⟩:=hed.st.box.read;have x0:=bc 2 hed.bx;have HE:=Lh hed;clear hed c2 c4 c5 c6 HED;have HT:Hid (TFr w wr):=Lh ((TFr.below HB1.out).trans HE.out.fr);have HB:Hid (Below B w wr):=Lh ((HB1.out.mono hS.out.base).trans HE.out.bl)
   by_cases he:s1.e=0
   ·by_cases hlt:i<rs.length
    ·obtain⟨ao',cap',e',_,_,hA⟩:=hr.out wr HT.out HB.out
     cases e'
     obtain⟨A,rfl,hAt⟩:=hA (by omega);obtain⟨q0,-,-,-⟩:=hAt i hlt;obtain⟨n,hn⟩:∃ n,rs[i].1=n:=⟨_,rfl⟩
     rw[hn] at q0;have i0:(0:Int)<=(i:Int):=by omega
     have i1:(i:Int)<(rs.length:Int):=by omega
     have HNn:=Lh hn;have hS0:ed5 wr w.heap.size A (A.add (i*2)) rs.length rc n p.cl (.slice po p.dn.length pc) (.slice qo p.de.length qc):=⟨x0,q0,by rw[yd HE.out.bp];rfl,by rw[yd HE.out.bp];rfl,by rw[yd HE.out.bp];rfl⟩;clear hA hAt hn;go_wp2_with fail
     obtain⟨i9,hi0,hz0,hz1,hz2⟩:=ycM yp2;have hle1:s1.ns.length<=3000000:=by have:=HE.out.nl;omega
     have hle2:s1.ats.length<=3000000:=by have:=HE.out.al;omega
     have hCl:C.length<=30000000:=by have:=HE.out.len;omega
     go_region_held3 (fun w'=>ed5 w' w.heap.size A (A.add (i*2)) rs.length rc n p.cl (.slice po p.dn.length pc) (.slice qo p.de.length qc))
      (repeat (first | assumption | (with_reducible refine ed5_drew ?_) | (with_reducible refine yno ?_)))
      (first
      | (go_at_call 103;refine(ygt B b nm d s1 x1 n p _ _ _ (Lh (HE.out.st.below (by repeat (first | (with_reducible exact Below.refl _ _) | (with_reducible refine Below.drew ?_) | (with_reducible refine yy ?_ ?_) | (simp;done) | omega)))) (Lh ((HT.out.prs hp.out).keep (by repeat (first | (with_reducible exact Below.refl _ _) | (with_reducible refine Below.drew ?_) | (with_reducible refine yy ?_ ?_) | (simp;done) | omega)))) hle1 hle2).mono ?_;rintro e w6 ⟨rfl,x6,hs6,ht6,hb6⟩;have hT6:TFr wr w6:=TFr.trans (TFr.below (by repeat (first | (with_reducible exact Below.refl _ _) | (with_reducible refine Below.drew ?_) | (with_reducible refine yy ?_ ?_) | (simp;done) | omega))) ht6;have hB6:Below B wr w6:=Below.trans (Below.mono (B:=wr.heap.size) (by repeat (first | (with_reducible exact Below.refl _ _) | (with_reducible refine Below.drew ?_) | (with_reducible refine yy ?_ ?_) | (simp;done) | omega)) HE.out.st.base) hb6;have hP:ed5 w6 w.heap.size A (A.add (i*2)) rs.length rc n p.cl (.slice po p.dn.length pc) (.slice qo p.de.length qc):=yqK (hT6.blk HE.out.bx rfl) (hT6.blk HE.out.bp rfl) (hr.out w6 (HT.out.trans hT6) (HB.out.trans hB6)) hlt HNn.out;have hrow6:=yd1 HE.out.row hT6 rfl;have hsz6:w.heap.size+2<=w6.heap.size:=by have h8:=HE.out.fr.size;have h9:=hT6.size;omega)
      | (refine step_append_lies _ (by rfl) _ _ _ (by rfl) (w.heap.size+2) 3 i9 _ 1 8 underlying53 hi0 hz0 hz1 hz2 rfl (by omega) (.slice oo C.length oc) C.length (C.flatMap inC) (by rfl) (by exact yr hrow6 (by repeat (first | (with_reducible exact Below.refl _ _) | (with_reducible refine Below.drew ?_) | (with_reducible refine yy ?_ ?_) | (simp;done) | omega))) ⟨w6.heap.size,0,none⟩ 1 1 [.int .i64 (ybS s1 n)] (by rfl) (by rfl) (by exact World.news_of_block (cs:=#[.int .i64 (ybS s1 n)]) (t:=3) (fr:=(0,0)) (heap_alloc_new _ _)) (by simp[Value.oneCell']) (by omega) (by unfold maxLen;omega) (by omega) (by simp;omega) (w6.heap.size+1) (by simp) ?_;intro gg cap1 w7 hown7 hgrow7 hat7 hlt7;have hED7:=EdR.next (lv':=.slice (some ⟨gg,0,none⟩) (C.length+1) cap1) HE.out hs6 hT6 hB6 (by exact(by repeat (first | (with_reducible exact Below.refl _ _) | (with_reducible refine Below.drew ?_) | (with_reducible refine yy ?_ ?_) | (simp;done) | omega))) hgrow7 (by show World.ownsRow _ _ _ _ _ (C++[_]).length _;rw[List.length_append,List.flatMap_append];exact hown7) hlt HNn.out he HSZ.out HBP.out;have hP:ed5 w7 w.heap.size A (A.add (i*2)) rs.length rc n p.cl (.slice po p.dn.length pc) (.slice qo p.de.length qc):=yqK hED7.bx hED7.bp (hr.out w7 ((TFr.below HB1.out).trans hED7.fr) ((HB1.out.mono HBP.out).trans hED7.bl)) hlt HNn.out))
     all_goals
      have HED7:=Lh hED7;clear hP hED7 hs6 hT6 hB6 hrow6 hgrow7 hat7 hlt7 hown7 hS0 q0 x0;go_wp2
      go_roundw
      case rel=>exact⟨i+1,_,_,_,by go_num,by omega,HED7.out⟩
      case measure=>simp[intOf];omega
    ·have dl:decide ((i:Int)<(rs.length:Int))=false:=decide_eq_false (by omega)
     have HFI:Hid (∃ x',EdR W1 wr B b w.heap.size nm d s rs p #[.int .i64 k,.string Z,.slice ro rs.length rc,.slice uo ats.length tc,.slice bo bn bq] #[.int .i64 p.cl,.slice po p.dn.length pc,.slice qo p.de.length qc] (.slice oo C.length oc) (ybb rs s p).length (ybb rs s p) (y7 rs s p) x'):=Lh (by
      have h1:=HE.out.es;have h2:=HE.out.ei;rw[List.drop_of_length_le (by omega)] at h1 h2;rw[y7] at h1;rw[ybb,List.append_nil] at h2
      have h3:=HE.out;rw[<- HE.out.len] at h3;rw[<- h1,<- h2];exact⟨x1,h3⟩)
     clear hr;go_wp2;exact(HM.out _ _).2 ⟨_,rfl,HFI.out⟩
   ·have HFI:Hid (∃ x',EdR W1 wr B b w.heap.size nm d s rs p #[.int .i64 k,.string Z,.slice ro rs.length rc,.slice uo ats.length tc,.slice bo bn bq] #[.int .i64 p.cl,.slice po p.dn.length pc,.slice qo p.de.length qc] (.slice oo C.length oc) (ybb rs s p).length (ybb rs s p) (y7 rs s p) x'):=Lh (by
      have h1:=HE.out.es;have h2:=HE.out.ei;rw[ynm he] at h1;rw[ynn he,List.append_nil] at h2
      have h3:=HE.out;rw[<- HE.out.len] at h3;rw[<- h1,<- h2];exact⟨x1,h3⟩)
    have de:decide (s1.e=0)=false:=decide_eq_false he
    by_cases hlt:i<rs.length
    ·have dl:decide ((i:Int)<(rs.length:Int))=true:=decide_eq_true (by omega)
     clear hr;go_wp2;exact(HM.out _ _).2 ⟨_,rfl,HFI.out⟩
    ·have dl:decide ((i:Int)<(rs.length:Int))=false:=decide_eq_false (by omega)
     clear hr;go_wp2;exact(HM.out _ _).2 ⟨_,rfl,HFI.out⟩
 intro a' W2 hm;obtain⟨lv,ha9,x2,hed⟩:=(HM.out _ _).1 hm;obtain⟨f,hf⟩:∃ f:Nat->Value,(fun i=>a'.tmps.getD i undef)=f:=⟨_,rfl⟩
 have ha8:a'=⟨#[.pointer (some ⟨b,0,none⟩),.agg #[.int .i64 k,.string Z,.slice ro rs.length rc,.slice uo ats.length tc,.slice bo bn bq],.agg #[.int .i64 p.cl,.slice po p.dn.length pc,.slice qo p.de.length qc],undef,.pointer (some ⟨w.heap.size,0,none⟩),.pointer (some ⟨w.heap.size+1,0,none⟩),lv,f 7,f 8,f 9,f 10,f 11,f 12,f 13,f 14,f 15,f 16,f 17,f 18,f 19,f 20,f 21,f 22,f 23,f 24,f 25,f 26,f 27,f 28,f 29,f 30,f 31,f 32,f 33,f 34,f 35,f 36,f 37,f 38,f 39,f 40,f 41,f 42,f 43,f 44,f 45,f 46,f 47,f 48,f 49,f 50,f 51,f 52,f 53,f 54,f 55,f 56,f 57,f 58,f 59,f 60,f 61,f 62,f 63,f 64,f 65,f 66,f 67,f 68,f 69,f 70,f 71,f 72,f 73,f 74,f 75,f 76,f 77,f 78,f 79,f 80,f 81,f 82,f 83,f 84],[]⟩:=by rw[<- hf];exact ha9
 clear ha9 hf;subst ha8;clear HM hm M HED;obtain⟨s2,hs2⟩:∃ s2,y7 rs s p=s2:=⟨_,rfl⟩
 obtain⟨LI,hLI⟩:∃ LI,ybb rs s p=LI:=⟨_,rfl⟩
 obtain⟨m,hm⟩:∃ m,yB p.de ats=m:=⟨_,rfl⟩
 have HG:Hid (yaL s rs ats p=if s2.e≠0 then s2 else ⟨s2.ns,s2.ats,s2.cs,s2.en++yaz LI rs m,s2.e⟩):=Lh (by unfold yaL;rw[hs2,hLI,hm]);have HLL:Hid (s2.e=0->LI.length=rs.length):=Lh (fun h=>by rw[<- hLI];exact ykv rs s (by rw[hs2];exact h));have HMG:=Lh hm;rw[hs2,hLI] at hed;obtain⟨oo,oc,rfl,_,_⟩:=yu hed.row;have HTW:Hid (TFr w W2):=Lh ((TFr.below HB1.out).trans hed.fr);have HBW:Hid (Below B w W2):=Lh ((HB1.out.mono HBP.out).trans hed.bl);have HEN:Hid (s2.en.length<=3000000):=Lh (by rw[hed.en];omega);have HLN:Hid (LI.length<=3000000):=Lh (by have h1:=yey rs s p;rw[hLI] at h1;omega);have hLn:LI.length<=3000000:=by have h1:=yey rs s p;rw[hLI] at h1;omega
 have HED:Hid (EdQ W2 W2 B b w.heap.size nm d s2 (yaz LI rs m) #[.int .i64 k,.string Z,.slice ro rs.length rc,.slice uo ats.length tc,.slice bo bn bq] #[.int .i64 p.cl,.slice po p.dn.length pc,.slice qo p.de.length qc] (.slice oo LI.length oc) LI (0+1) x2):=Lh ⟨by rw[show (0+1-1:Nat)=0 from rfl,List.take_zero,List.append_nil];exact hed.st,hed.row,TFr.refl _,Below.refl _ _,hed.bx,hed.bp⟩;have HSZ2:Hid (w.heap.size+2<=W2.heap.size):=Lh (by have h1:=hed.fr.size;have h2:=HSZ.out;omega);clear hed hs2 hLI hm hS hsz;go_wp2_with fail
 go_loopw [8] (fun iv wr=>∃ (j:Nat) (x1:StV),iv=.int .i64 ((j:Int)+1)/\j<=LI.length/\(j=0\/j+1<=LI.length)/\(s2.e≠0->j=0)/\EdQ W2 wr B b w.heap.size nm d s2 (yaz LI rs m) #[.int .i64 k,.string Z,.slice ro rs.length rc,.slice uo ats.length tc,.slice bo bn bq] #[.int .i64 p.cl,.slice po p.dn.length pc,.slice qo p.de.length qc] (.slice oo LI.length oc) LI (j+1) x1) (fun iv _=>LI.length-(intOf iv).toNat)
 case atStart=>exact⟨0,x2,rfl,Nat.zero_le _,Or.inl rfl,fun _=>rfl,HED.out⟩
 case round =>
  obtain⟨j,x1,rfl,hj,hj2,hj3,hed⟩:=hrel
  rename World=>wr
  have c7:=hed.st.box.read.2.2.2.2;have HE:=Lh hed;have HJ2:=Lh hj2;have HJ3:=Lh hj3;have HT:Hid (TFr w wr):=Lh (HTW.out.trans HE.out.fr);have HB:Hid (Below B w wr):=Lh (HBW.out.trans HE.out.bl);clear hed hj2 hj3 HED
  have FIN:Hid ((s2.e≠0\/LI.length<=j+1)->yc4 B b nm d (yaL s rs ats p) w wr):=Lh (fun hh=>by
   refine⟨x1,?_,HT.out,HB.out⟩;have h1:=HE.out.st;rw[HG.out]
   by_cases he:s2.e=0
   ·rw[if_neg (by rw[he];simp)]
    rw[List.take_of_length_le (by rw[ycc m LI rs (HLL.out he)];have:=hh.resolve_left (by rw[he];simp);omega)] at h1;exact h1
   ·rw[if_pos he]
    rw[HJ3.out he,show (0+1-1:Nat)=0 from rfl,List.take_zero,List.append_nil] at h1
    exact h1)
  by_cases hlt:j+1<LI.length
  ·have i1:(j:Int)+1<(LI.length:Int):=by omega
   by_cases he:s2.e=0
   ·have hLr:=HLL.out he
    have hjr:j+1<rs.length:=by omega
    obtain⟨ao',cap',e',_,_,hA⟩:=hr.out wr HT.out HB.out;cases e'
    obtain⟨A,rfl,-⟩:=hA (by omega);obtain⟨G,rfl,-⟩:=ynp HE.out.row hlt;obtain⟨nv,cv,av,ev,avs,evs⟩:=x1;obtain⟨eo,ec,hev,_,_⟩:=yu HE.out.st.er;simp only at hev;subst hev;obtain⟨a,ha1⟩:∃ a,LI[j]=a:=⟨_,rfl⟩
    obtain⟨c,hc1⟩:∃ c,LI[j+1]=c:=⟨_,rfl⟩
    obtain⟨fp,hf1⟩:∃ fp,rs[j].2=fp:=⟨_,rfl⟩
    obtain⟨tp,ht1⟩:∃ tp,rs[j+1].2=tp:=⟨_,rfl⟩
    have HTK:Hid ((yaz LI rs m).take (j+1)=(yaz LI rs m).take j++[⟨a,c,fp,tp,m⟩]):=Lh (by rw[yk7 hLr hlt,ha1,hc1,hf1,ht1]);have H9:Hid (∀ W,blk W w.heap.size 67 #[.int .i64 k,.string Z,.slice (some A) rs.length rc,.slice uo ats.length tc,.slice bo bn bq]->blk W (w.heap.size+1) 104 #[.int .i64 p.cl,.slice po p.dn.length pc,.slice qo p.de.length qc]->Prs W (.slice (some A) rs.length rc) rs->Irow W (w.heap.size+2) (.slice (some ⟨G,0,none⟩) LI.length oc) LI->ed9 W w.heap.size A G rs.length rc (.slice uo ats.length tc) (.slice qo p.de.length qc) j a c fp tp):=Lh (fun W h1 h2 h3 h4=>ytO h1 h2 h3 h4 hlt hjr ha1 hc1 hf1 ht1);have hS0:ed9 wr w.heap.size A G rs.length rc (.slice uo ats.length tc) (.slice qo p.de.length qc) j a c fp tp:=H9.out wr HE.out.bx HE.out.bp (hr.out wr HT.out HB.out) HE.out.row;have hevl:evs.length<=30000000:=by have h1:=HE.out.st.el;have h2:=congrArg List.length h1;rw[List.length_map,List.length_append,List.length_take,ycc m LI rs hLr] at h2;have:=HEN.out;simp only at h2;omega
    have c6:=HE.out.st.box.read.2.2.2.1;have hblt:=HE.out.st.lt;have hbase:=HE.out.st.base;have i0:(0:Int)<=(j:Int)+1:=by omega
    have k0:(0:Int)<=(j:Int):=by omega
    have i2:(j:Int)<(LI.length:Int):=by omega
    have i3:(j:Int)<(rs.length:Int):=by omega
    have i4:(j:Int)+1<(rs.length:Int):=by omega
    have hj5:j<=3000000:=by have h1:=yey rs s p;have h2:=HLN.out;omega
    have hwr2:IntKind.i64.wrap (j:Int)=(j:Int):=IntWalk.i64_in _ (by omega);have hwr:IntKind.i64.wrap ((j:Int)+1-1)=(j:Int):=by rw[Int.add_sub_cancel];exact hwr2
    have i5:((j:Int)+1).toNat=j+1:=by omega
    have HLR:=Lh hLr;clear hA ha1 hc1 hf1 ht1 hLr;obtain⟨i9,hi0,hz0,hz1,hz2⟩:=ycM yp3;go_wp2_with fail
    have hBd:Below wr.heap.size wr wr.drew:=(Below.refl wr.heap.size wr).drew;have hc6d:wr.drew.cell? ⟨b,6,none⟩=some (.slice eo evs.length ec):=c6;refine wp_region_held_drew (S:=(fun W:World=>W.cell? ⟨w.heap.size,2,none⟩=some (.slice (some A) rs.length rc)/\W.cell? ⟨w.heap.size,3,none⟩=some (.slice uo ats.length tc)/\W.cell? ⟨w.heap.size+1,2,none⟩=some (.slice qo p.de.length qc)/\W.cell? ⟨G,j,none⟩=some (.int .i64 a)/\W.cell? ⟨G,j+1,none⟩=some (.int .i64 c)/\W.cell? ⟨(A.add (j*2)).block,(A.add (j*2)).off+1,none⟩=some (.string (bb fp))/\W.cell? ⟨(A.add ((j+1)*2)).block,(A.add ((j+1)*2)).off+1,none⟩=some (.string (bb tp)))) (by kernel_rfl) (ycr hS0) (fun hHeld=>?_);refine tk 0 48 (.pointer (some ⟨b,0,none⟩)) ?_;refine tk 1 49 (.pointer (some ⟨b,0,none⟩)) ?_;refine tk 2 50 (.pointer (some ⟨b,0,none⟩)) ?_;refine tk 3 51 (.pointer (some ⟨b,6,none⟩)) ?_;refine tk 5 53 (.slice (some ⟨G,0,none⟩) LI.length oc) ?_;refine tk 6 54 (.int .i64 ((j:Int)+1)) ?_;refine tk 7 55 (.int .i64 (j:Int)) ?_;refine tk 8 56 (.pointer (some ⟨G,j,none⟩)) ?_;refine tk 9 57 (.int .i64 a) ?_;refine tk 10 58 (.slice (some ⟨G,0,none⟩) LI.length oc) ?_;refine tk 11 59 (.int .i64 ((j:Int)+1)) ?_;refine tk 12 60 (.pointer (some ⟨G,(j+1),none⟩)) ?_;refine tk 13 61 (.int .i64 c) ?_;refine tk 14 62 (.pointer (some ⟨w.heap.size,2,none⟩)) ?_;refine tk 15 63 (.slice (some A) rs.length rc) ?_;refine tk 16 64 (.int .i64 ((j:Int)+1)) ?_;refine tk 17 65 (.int .i64 (j:Int)) ?_;refine tk 18 66 (.pointer (some (A.add (j*2)))) ?_
    refine tk 19 67 (.pointer (some ⟨(A.add (j*2)).block,(A.add (j*2)).off+1,none⟩)) ?_;refine tk 20 68 (.string (bb fp)) ?_;refine tk 21 69 (.pointer (some ⟨w.heap.size,2,none⟩)) ?_;refine tk 22 70 (.slice (some A) rs.length rc) ?_;refine tk 23 71 (.int .i64 ((j:Int)+1)) ?_;refine tk 24 72 (.pointer (some (A.add ((j+1)*2)))) ?_;refine tk 25 73 (.pointer (some ⟨(A.add ((j+1)*2)).block,(A.add ((j+1)*2)).off+1,none⟩)) ?_;refine tk 26 74 (.string (bb tp)) ?_;refine tk 27 75 (.pointer (some ⟨(w.heap.size+1),2,none⟩)) ?_;refine tk 28 76 (.slice qo p.de.length qc) ?_;refine tk 29 77 (.pointer (some ⟨w.heap.size,3,none⟩)) ?_;refine tk 30 78 (.slice uo ats.length tc) ?_
    try simp only[sA,sB,sC]
    refine wpAnyH_ready (rs:=[4,31]) (by kernel_rfl) (by simp) ?_;refine AllReadyH.cons rfl (fun K hK=>?_) (AllReadyH.cons rfl (fun K hK=>?_) AllReadyH.nil)
    ·
     go_simp;refine hK.out _ _ (by repeat (first | assumption | (with_reducible refine ycr ?_) | (with_reducible refine ycd ?_))) (fun hHeld=>?_);clear hK K
     try simp only[sA,sB,sC]
     refine wpAnyH_ready (rs:=[31]) (by kernel_rfl) (by simp) ?_;refine AllReadyH.cons rfl (fun K hK=>?_) AllReadyH.nil;go_simp;refine(yb9 _ _ p.de ats _ (Lh ((HT.out.prs hq.out).keep hBd).prs) (Lh ((ha.out wr HT.out HB.out).keep hBd)) hqd had (Lh (ybG hq.out.prs)) (Lh (ybG ha.out.now))).mono ?_;rintro e w6 ⟨v6,rfl,hp6,hb6⟩;obtain⟨mo,mc,rfl,_,_,_⟩:=id hp6.prs;have hb66:Below wr.heap.size wr w6:=ya hb6 hBd;have c66:=(HE.out.st.below hb66).box.read.2.2.2.1;have hblt6:=(HE.out.st.below hb66).lt;have hbase6:=(HE.out.st.below hb66).base;have hP:ed9 w6 w.heap.size A G rs.length rc (.slice uo ats.length tc) (.slice qo p.de.length qc) j a c fp tp:=H9.out w6 ((TFr.below hb66).blk HE.out.bx rfl) ((TFr.below hb66).blk HE.out.bp rfl) (hr.out w6 (HT.out.trans (TFr.below hb66)) (HB.out.trans (hb66.mono hbase))) (yr HE.out.row hb66);have HP6:=Lh hp6;have HB66:=Lh hb66;clear hp6 hb6 hb66 hHeld;refine hK.out _ _ hP (fun hHeld=>?_);clear hK K
     try simp only[sA,sB,sC]
     refine tk 32 80 (.agg #[.int .i64 a,.int .i64 c,.string (bb fp),.string (bb tp),.slice mo (yB p.de ats).length mc]) ?_
     try simp only[sA,sB,sC]
     refine wpAnyH_ready (rs:=[33]) (by kernel_rfl) (by simp) ?_;refine AllReadyH.cons rfl (fun K hK=>?_) AllReadyH.nil;go_simp;refine hK.out _ _ (by repeat (first | assumption | (with_reducible refine ycr ?_) | (with_reducible refine ycd ?_))) (fun hHeld=>?_);clear hK K
     try simp only[sA,sB,sC]
     refine wpAnyH_ready (rs:=[34]) (by kernel_rfl) (by simp) ?_;refine AllReadyH.cons rfl (fun K hK=>?_) AllReadyH.nil;refine step_append_lies _ (by rfl) _ _ _ (by rfl) B 189 i9 _ 5 72 underlying99 hi0 hz0 hz1 hz2 rfl (by omega) (.slice eo evs.length ec) evs.length (evs.flatMap enC) (by rfl) (by exact yr (yr HE.out.st.er HB66.out) (by repeat (first | (with_reducible exact Below.refl _ _) | (with_reducible refine Below.drew ?_) | (with_reducible refine yy ?_ ?_) | (simp;done) | omega))) ⟨w6.heap.size,0,none⟩ 1 1 [.int .i64 a,.int .i64 c,.string (bb fp),.string (bb tp),.slice mo (yB p.de ats).length mc] (by rfl) (by rfl) (by exact World.news_of_block (cs:=#[.int .i64 a,.int .i64 c,.string (bb fp),.string (bb tp),.slice mo (yB p.de ats).length mc]) (t:=189) (fr:=(0,0)) (heap_alloc_new _ _)) (by simp[Value.oneCell']) (by omega) (by unfold maxLen;omega) (by omega) (by simp;omega) (w6.heap.size+1) (by simp) ?_;intro gg cap1 w7 hown7 hgrow7 hat7 hlt7;obtain⟨⟨hx7,ht7,hb7⟩,hQ⟩:=EdQ.next (e:=⟨a,c,fp,tp,m⟩) (v:=.slice mo (yB p.de ats).length mc) (ev':=.slice (some ⟨gg,0,none⟩) (evs.length+1) cap1) HE.out HB66.out (by exact(by repeat (first | (with_reducible exact Below.refl _ _) | (with_reducible refine Below.drew ?_) | (with_reducible refine yy ?_ ?_) | (simp;done) | omega))) hgrow7 (by show World.ownsRow _ _ _ _ _ (evs++[_]).length _;rw[List.length_append,List.flatMap_append];exact hown7) (by show PrsT w6 _ m;rw[<- HMG.out];exact HP6.out) HTK.out
     have hP7:ed9 w7 w.heap.size A G rs.length rc (.slice uo ats.length tc) (.slice qo p.de.length qc) j a c fp tp:=H9.out w7 (ht7.blk HE.out.bx rfl) (ht7.blk HE.out.bp rfl) (hr.out w7 (HT.out.trans ht7) (HB.out.trans hb7)) (yd1 HE.out.row ht7 rfl);have hP2:ed9 (w7.setCell ⟨b,6,none⟩ (.slice (some ⟨gg,0,none⟩) (evs.length+1) cap1)) w.heap.size A G rs.length rc (.slice uo ats.length tc) (.slice qo p.de.length qc) j a c fp tp:=H9.out _ hQ.bx hQ.bp (hr.out _ (HTW.out.trans hQ.fr) (HBW.out.trans hQ.bl)) hQ.row;have hfz7:=hx7.open 6;have hc7:=hx7.read.2.2.2.1;have HQ:=Lh hQ;clear hQ ht7 hb7 hx7 hown7 hgrow7 hat7 hlt7 hHeld hP;refine hK.out _ _ hP7 (fun hHeld=>?_);clear hK K
     try simp only[sA,sB,sC]
     refine tk 35 83 (.pointer (some ⟨b,0,none⟩)) ?_;refine tk 36 84 (.pointer (some ⟨b,6,none⟩)) ?_;refine wpAnyH_ready (rs:=[37]) (by kernel_rfl) (by simp) ?_;refine AllReadyH.cons rfl (fun K hK=>?_) AllReadyH.nil;go_simp;refine hK.out _ _ hP2 (fun hHeld=>?_);clear hK K
     try simp only[sA,sB,sC]
     refine wpAnyH_done (by kernel_rfl) ?_ _;clear hP7 hP2 hHeld hS0 hfz7 hc7 c6;go_wp2
     go_roundw
     case rel=>exact⟨j+1,_,by go_num,by omega,Or.inr (by omega),fun h=>absurd he h,HQ.out⟩
     case measure=>simp[intOf];omega
    ·
     go_simp;refine(yb9 _ _ p.de ats _ (Lh ((HT.out.prs hq.out).keep hBd).prs) (Lh ((ha.out wr HT.out HB.out).keep hBd)) hqd had (Lh (ybG hq.out.prs)) (Lh (ybG ha.out.now))).mono ?_;rintro e w6 ⟨v6,rfl,hp6,hb6⟩;obtain⟨mo,mc,rfl,_,_,_⟩:=id hp6.prs;have hb66:Below wr.heap.size wr w6:=ya hb6 hBd;have c66:=(HE.out.st.below hb66).box.read.2.2.2.1;have hblt6:=(HE.out.st.below hb66).lt;have hbase6:=(HE.out.st.below hb66).base;have hP:ed9 w6 w.heap.size A G rs.length rc (.slice uo ats.length tc) (.slice qo p.de.length qc) j a c fp tp:=H9.out w6 ((TFr.below hb66).blk HE.out.bx rfl) ((TFr.below hb66).blk HE.out.bp rfl) (hr.out w6 (HT.out.trans (TFr.below hb66)) (HB.out.trans (hb66.mono hbase))) (yr HE.out.row hb66);have HP6:=Lh hp6;have HB66:=Lh hb66;clear hp6 hb6 hb66 hHeld;refine hK.out _ _ hP (fun hHeld=>?_);clear hK K
     try simp only[sA,sB,sC]
     refine tk 32 80 (.agg #[.int .i64 a,.int .i64 c,.string (bb fp),.string (bb tp),.slice mo (yB p.de ats).length mc]) ?_
     try simp only[sA,sB,sC]
     have c66d:w6.cell? ⟨b,6,none⟩=some (.slice eo evs.length ec):=c66;refine wpAnyH_ready (rs:=[4,33]) (by kernel_rfl) (by simp) ?_;refine AllReadyH.cons rfl (fun K hK=>?_) (AllReadyH.cons rfl (fun K hK=>?_) AllReadyH.nil)
     ·
      go_simp;refine hK.out _ _ (by repeat (first | assumption | (with_reducible refine ycr ?_) | (with_reducible refine ycd ?_))) (fun hHeld=>?_);clear hK K
      try simp only[sA,sB,sC]
      refine wpAnyH_ready (rs:=[33]) (by kernel_rfl) (by simp) ?_;refine AllReadyH.cons rfl (fun K hK=>?_) AllReadyH.nil;go_simp;refine hK.out _ _ (by repeat (first | assumption | (with_reducible refine ycr ?_) | (with_reducible refine ycd ?_))) (fun hHeld=>?_);clear hK K
      try simp only[sA,sB,sC]
      refine wpAnyH_ready (rs:=[34]) (by kernel_rfl) (by simp) ?_;refine AllReadyH.cons rfl (fun K hK=>?_) AllReadyH.nil;refine step_append_lies _ (by rfl) _ _ _ (by rfl) B 189 i9 _ 5 72 underlying99 hi0 hz0 hz1 hz2 rfl (by omega) (.slice eo evs.length ec) evs.length (evs.flatMap enC) (by rfl) (by exact yr (yr HE.out.st.er HB66.out) (by repeat (first | (with_reducible exact Below.refl _ _) | (with_reducible refine Below.drew ?_) | (with_reducible refine yy ?_ ?_) | (simp;done) | omega))) ⟨w6.heap.size,0,none⟩ 1 1 [.int .i64 a,.int .i64 c,.string (bb fp),.string (bb tp),.slice mo (yB p.de ats).length mc] (by rfl) (by rfl) (by exact World.news_of_block (cs:=#[.int .i64 a,.int .i64 c,.string (bb fp),.string (bb tp),.slice mo (yB p.de ats).length mc]) (t:=189) (fr:=(0,0)) (heap_alloc_new _ _)) (by simp[Value.oneCell']) (by omega) (by unfold maxLen;omega) (by omega) (by simp;omega) (w6.heap.size+1) (by simp) ?_;intro gg cap1 w7 hown7 hgrow7 hat7 hlt7;obtain⟨⟨hx7,ht7,hb7⟩,hQ⟩:=EdQ.next (e:=⟨a,c,fp,tp,m⟩) (v:=.slice mo (yB p.de ats).length mc) (ev':=.slice (some ⟨gg,0,none⟩) (evs.length+1) cap1) HE.out HB66.out (by exact(by repeat (first | (with_reducible exact Below.refl _ _) | (with_reducible refine Below.drew ?_) | (with_reducible refine yy ?_ ?_) | (simp;done) | omega))) hgrow7 (by show World.ownsRow _ _ _ _ _ (evs++[_]).length _;rw[List.length_append,List.flatMap_append];exact hown7) (by show PrsT w6 _ m;rw[<- HMG.out];exact HP6.out) HTK.out
      have hP7:ed9 w7 w.heap.size A G rs.length rc (.slice uo ats.length tc) (.slice qo p.de.length qc) j a c fp tp:=H9.out w7 (ht7.blk HE.out.bx rfl) (ht7.blk HE.out.bp rfl) (hr.out w7 (HT.out.trans ht7) (HB.out.trans hb7)) (yd1 HE.out.row ht7 rfl);have hP2:ed9 (w7.setCell ⟨b,6,none⟩ (.slice (some ⟨gg,0,none⟩) (evs.length+1) cap1)) w.heap.size A G rs.length rc (.slice uo ats.length tc) (.slice qo p.de.length qc) j a c fp tp:=H9.out _ hQ.bx hQ.bp (hr.out _ (HTW.out.trans hQ.fr) (HBW.out.trans hQ.bl)) hQ.row;have hfz7:=hx7.open 6;have hc7:=hx7.read.2.2.2.1;have HQ:=Lh hQ;clear hQ ht7 hb7 hx7 hown7 hgrow7 hat7 hlt7 hHeld hP;refine hK.out _ _ hP7 (fun hHeld=>?_);clear hK K
      try simp only[sA,sB,sC]
      refine tk 35 83 (.pointer (some ⟨b,0,none⟩)) ?_;refine tk 36 84 (.pointer (some ⟨b,6,none⟩)) ?_;refine wpAnyH_ready (rs:=[37]) (by kernel_rfl) (by simp) ?_;refine AllReadyH.cons rfl (fun K hK=>?_) AllReadyH.nil;go_simp;refine hK.out _ _ hP2 (fun hHeld=>?_);clear hK K
      try simp only[sA,sB,sC]
      refine wpAnyH_done (by kernel_rfl) ?_ _;clear hP7 hP2 hHeld hS0 hfz7 hc7 c6;go_wp2
      go_roundw
      case rel=>exact⟨j+1,_,by go_num,by omega,Or.inr (by omega),fun h=>absurd he h,HQ.out⟩
      case measure=>simp[intOf];omega
     ·
      go_simp;refine hK.out _ _ (by repeat (first | assumption | (with_reducible refine ycr ?_) | (with_reducible refine ycd ?_))) (fun hHeld=>?_);clear hK K
      try simp only[sA,sB,sC]
      have c6a:=yh (o:=.cells #[.int .i64 a,.int .i64 c,.string (bb fp),.string (bb tp),.slice mo (yB p.de ats).length mc] 189) c66d;refine wpAnyH_ready (rs:=[4]) (by kernel_rfl) (by simp) ?_;refine AllReadyH.cons rfl (fun K hK=>?_) AllReadyH.nil;go_simp;refine hK.out _ _ (by repeat (first | assumption | (with_reducible refine ycr ?_) | (with_reducible refine ycd ?_))) (fun hHeld=>?_);clear hK K
      try simp only[sA,sB,sC]
      refine wpAnyH_ready (rs:=[34]) (by kernel_rfl) (by simp) ?_;refine AllReadyH.cons rfl (fun K hK=>?_) AllReadyH.nil;refine step_append_lies _ (by rfl) _ _ _ (by rfl) B 189 i9 _ 5 72 underlying99 hi0 hz0 hz1 hz2 rfl (by omega) (.slice eo evs.length ec) evs.length (evs.flatMap enC) (by rfl) (by exact yr (yr HE.out.st.er HB66.out) (by repeat (first | (with_reducible exact Below.refl _ _) | (with_reducible refine Below.drew ?_) | (with_reducible refine yy ?_ ?_) | (simp;done) | omega))) ⟨w6.heap.size,0,none⟩ 1 1 [.int .i64 a,.int .i64 c,.string (bb fp),.string (bb tp),.slice mo (yB p.de ats).length mc] (by rfl) (by rfl) (by exact World.news_of_block (cs:=#[.int .i64 a,.int .i64 c,.string (bb fp),.string (bb tp),.slice mo (yB p.de ats).length mc]) (t:=189) (fr:=(0,0)) (heap_alloc_new _ _)) (by simp[Value.oneCell']) (by omega) (by unfold maxLen;omega) (by omega) (by simp;omega) (w6.heap.size+1) (by simp) ?_;intro gg cap1 w7 hown7 hgrow7 hat7 hlt7;obtain⟨⟨hx7,ht7,hb7⟩,hQ⟩:=EdQ.next (e:=⟨a,c,fp,tp,m⟩) (v:=.slice mo (yB p.de ats).length mc) (ev':=.slice (some ⟨gg,0,none⟩) (evs.length+1) cap1) HE.out HB66.out (by exact(by repeat (first | (with_reducible exact Below.refl _ _) | (with_reducible refine Below.drew ?_) | (with_reducible refine yy ?_ ?_) | (simp;done) | omega))) hgrow7 (by show World.ownsRow _ _ _ _ _ (evs++[_]).length _;rw[List.length_append,List.flatMap_append];exact hown7) (by show PrsT w6 _ m;rw[<- HMG.out];exact HP6.out) HTK.out
      have hP7:ed9 w7 w.heap.size A G rs.length rc (.slice uo ats.length tc) (.slice qo p.de.length qc) j a c fp tp:=H9.out w7 (ht7.blk HE.out.bx rfl) (ht7.blk HE.out.bp rfl) (hr.out w7 (HT.out.trans ht7) (HB.out.trans hb7)) (yd1 HE.out.row ht7 rfl);have hP2:ed9 (w7.setCell ⟨b,6,none⟩ (.slice (some ⟨gg,0,none⟩) (evs.length+1) cap1)) w.heap.size A G rs.length rc (.slice uo ats.length tc) (.slice qo p.de.length qc) j a c fp tp:=H9.out _ hQ.bx hQ.bp (hr.out _ (HTW.out.trans hQ.fr) (HBW.out.trans hQ.bl)) hQ.row;have hfz7:=hx7.open 6;have hc7:=hx7.read.2.2.2.1;have HQ:=Lh hQ;clear hQ ht7 hb7 hx7 hown7 hgrow7 hat7 hlt7 hHeld hP;refine hK.out _ _ hP7 (fun hHeld=>?_);clear hK K
      try simp only[sA,sB,sC]
      refine tk 35 83 (.pointer (some ⟨b,0,none⟩)) ?_;refine tk 36 84 (.pointer (some ⟨b,6,none⟩)) ?_;refine wpAnyH_ready (rs:=[37]) (by kernel_rfl) (by simp) ?_;refine AllReadyH.cons rfl (fun K hK=>?_) AllReadyH.nil;go_simp;refine hK.out _ _ hP2 (fun hHeld=>?_);clear hK K
      try simp only[sA,sB,sC]
      refine wpAnyH_done (by kernel_rfl) ?_ _;clear hP7 hP2 hHeld hS0 hfz7 hc7 c6;go_wp2
      go_roundw
      case rel=>exact⟨j+1,_,by go_num,by omega,Or.inr (by omega),fun h=>absurd he h,HQ.out⟩
      case measure=>simp[intOf];omega
   ·have de:decide (s2.e=0)=false:=decide_eq_false he
    clear hr ha;go_wp2;refine ypX rfl rfl ?_;exact⟨rfl,FIN.out (Or.inl he)⟩
  ·have dl:decide ((j:Int)+1<(LI.length:Int))=false:=decide_eq_false (by omega)
   clear hr ha;go_wp2;refine ypX rfl rfl ?_;exact⟨rfl,FIN.out (Or.inr (by omega))⟩
end Go.Proofs.YtgmidodmmlmmeaaGreatDoor.nor
