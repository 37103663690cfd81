/-
  Contracts and plain facts of the layers below; conditions as each theorem states them.
-/
import Derived.Test.YtgmidodmmlmmeaaGreatDoorMea
namespace Go.Proofs.YtgmidodmmlmmeaaGreatDoor.xpt
open lex tre att nor
theorem yhY {nm:Nm}:∀ {l:List (Nm × Int)} {i v:Nat} {x:Nm × Int},(l.map (·.1)).Nodup->l[v]?=some x->x.1=nm->yda l nm i=(i+v:Nat)
 | [],_,_,_,_,h,_=>by simp at h
 | y::t,i,0,x,_,h,hn=>by
  simp only[List.getElem?_cons_zero,Option.some.injEq] at h;subst h;unfold yda;rw[if_pos hn];simp
 | y::t,i,v+1,x,hd,h,hn=>by
  simp only[List.getElem?_cons_succ] at h;rw[List.map_cons,List.nodup_cons] at hd;unfold yda;rw[if_neg (fun e=>hd.1 (by rw[e,<- hn];exact List.mem_map_of_mem (List.mem_of_getElem? h))),yhY (i:=i+1) hd.2 h hn]
  congr 1;omega
theorem yhZ {x:gra.Nd}(hx:NdV x){p:Int}(h0:-1<=p)(h1:p<x.ps.length):ycC x.ps (yd7 x p).2=p:=by
 unfold yd7;simp only
 by_cases hp:p<0
 ·rw[if_pos hp];unfold ycC;rw[if_pos rfl];omega
 ·rw[if_neg hp]
  have hl:p.toNat<x.ps.length:=by omega
  have hs:x.ps[p.toNat]?=some x.ps[p.toNat]:=List.getElem?_eq_getElem hl;rw[List.getD_eq_getElem?_getD,hs]
  show ycC x.ps x.ps[p.toNat].1=p
  unfold ycC;rw[if_neg (ynT (hx.pv _ (List.getElem_mem hl)).1).1,yhY hx.nd hs rfl];omega
def yqr (g:gra.Gr)(e:gra.Ed):En:=⟨e.fr,e.to,(yd7 (ndAt g.ns e.fr) e.fp).2,(yd7 (ndAt g.ns e.to) e.tp).2,ybC e⟩
theorem ydt {ns:List gra.Nd}{v:Int}(h0:0<=v)(h:v<ns.length):ndAt ns v∈ns:=List.mem_of_getElem? (yb6 h0 h)
theorem yob {g:gra.Gr}(hg:GV g){e:gra.Ed}(he:e∈g.es):yeR g.ns (yqr g e)=e:=by
 obtain⟨a0,a1,b0,b1,p0,p1,q0,q1⟩:=hg.ef e he;obtain⟨k1,k2,k3⟩:=ylE (hg.ev e he);have m1:ybT g.ns e.fr=(ndAt g.ns e.fr).ps:=by unfold ybT;rw[yb6 a0 a1]
 have m2:ybT g.ns e.to=(ndAt g.ns e.to).ps:=by unfold ybT;rw[yb6 b0 b1]
 unfold yeR yqr;simp only;rw[m1,m2,yhZ (hg.nd _ (ydt a0 a1)) p0 p1,yhZ (hg.nd _ (ydt b0 b1)) q0 q1,k1,k2,k3]
def sE (g:gra.Gr)(l:List En):Sta:=⟨g.ns.map (fun x=>(x.nm,x.cl)),g.ns.map ybd,g.cs,l,0⟩
theorem yoc {g:gra.Gr}(hg:GV g){v:Int}(h0:0<=v)(h:v<g.ns.length):yG (g.ns.map (fun x=>(x.nm,x.cl))) (ndAt g.ns v).nm 0=v:=by
 have hs:=yb6 h0 h;rw[yhW (v:=v.toNat) (x:=((ndAt g.ns v).nm,(ndAt g.ns v).cl)) (by rw[List.map_map];exact hg.nn) (by rw[List.getElem?_map,hs];rfl) rfl];omega
theorem yf9 {g:gra.Gr}(hg:GV g){v:Int}(h0:0<=v)(h:v<g.ns.length)(l:List En)(p:Pl):yN (sE g l) (ndAt g.ns v).nm p=sE g l/\ybS (sE g l) (ndAt g.ns v).nm=v:=by
 have hk:=yoc hg h0 h;have hc:yaw g.cs (ndAt g.ns v).nm=false:=ygV fun y hy e=>hg.nc _ (ydt h0 h) y hy e.symm
 unfold yN ybS sE;simp only[hk,hc];rw[if_neg (by omega),if_neg (by simp),if_neg (by omega)];exact⟨rfl,rfl⟩
theorem ylN {g:gra.Gr}(hg:GV g){e:gra.Ed}(he:e∈g.es)(l:List En):ya9 (ya8 g.ns e) pl0 (sE g l)=sE g (l++[yqr g e]):=by
 obtain⟨a0,a1,b0,b1,-⟩:=hg.ef e he;obtain⟨m1,i1⟩:=yf9 hg a0 a1 l pl0;obtain⟨m2,i2⟩:=yf9 hg b0 b1 l pl0;have h0:(sE g l).e=0:=rfl
 have hr:y7 [yd7 (ndAt g.ns e.fr) e.fp,yd7 (ndAt g.ns e.to) e.tp] (sE g l) pl0=sE g l:=by
  rw[y7,if_neg (by simp[h0]),show (yd7 (ndAt g.ns e.fr) e.fp).1=(ndAt g.ns e.fr).nm from rfl,m1,y7,if_neg (by simp[h0]),show (yd7 (ndAt g.ns e.to) e.tp).1=(ndAt g.ns e.to).nm from rfl,m2,y7]
 have hi:ybb [yd7 (ndAt g.ns e.fr) e.fp,yd7 (ndAt g.ns e.to) e.tp] (sE g l) pl0=[e.fr,e.to]:=by
  rw[ybb,if_neg (by simp[h0]),show (yd7 (ndAt g.ns e.fr) e.fp).1=(ndAt g.ns e.fr).nm from rfl,m1,i1,ybb,if_neg (by simp[h0]),show (yd7 (ndAt g.ns e.to) e.tp).1=(ndAt g.ns e.to).nm from rfl,i2,ybb]
 unfold ya8;rw[yhI];unfold yaL;rw[hr,hi,if_neg (by simp[h0])];rw[show yB pl0.de (ybC e)=ybC e from yhO (yhR e)];rfl
theorem yga {g:gra.Gr}(hg:GV g):∀ (t:List gra.Ed) (l:List En),(∀ e∈t,e∈g.es)->yX (t.map (ya8 g.ns)) pl0 (sE g l)=sE g (l++t.map (yqr g))
 | [],l,_=>by rw[List.map_nil,ybc,List.map_nil,List.append_nil]
 | e::t,l,h=>by
  have he:=h e (List.mem_cons_self ..);rw[List.map_cons,yds (x:=ya8 g.ns e) (s:=sE g l) rfl (by show stE 2 [] (ybC e)=0;rw[yoa];exact yn4 (hg.ev e he)) (show (2:Int)≠3 by decide),ylN hg he,yga hg t _ (fun x hx=>h x (List.mem_cons_of_mem _ hx)),List.append_assoc];rfl
theorem yod (k v:List UInt8)(t:List St)(p:Pl)(s:Sta)(h0:s.e=0)(hc:yaa 4 (k,v)=0):yX (yfL k v::t) p s=yX t p s:=by
 rw[yds (x:=yfL k v) h0 (by
  show stE 4 k [([],v)]=0
  unfold stE;rw[if_pos rfl]
  exact yen fun a ha=>by rw[List.mem_singleton] at ha;subst ha;exact hc) (show (4:Int)≠3 by decide)]
 unfold yfL;rw[yjs]
theorem ye7 {P:Prop}[Decidable P]{k v:List UInt8}{t:List St}{p:Pl}{s:Sta}(h0:s.e=0)(hc:¬ P->yaa 4 (k,v)=0):yX ((if P then [] else [yfL k v])++t) p s=yX t p s:=by
 by_cases h:P
 ·rw[if_pos h];rfl
 ·rw[if_neg h];exact yod k v t p s h0 (hc h)
structure OpV (o:Op'):Prop where
 md:0<=o.mode/\o.mode<=4
 ns:0<=o.ns/\o.ns<=1048576
 rs:0<=o.rs/\o.rs<=1048576
 mg:0<=o.mg/\o.mg<=1048576
 rd:0<=o.rd/\o.rd<=100
theorem ylO {o:Op'}(h:okO o=true):OpV o:=by
 unfold okO rng at h;simp only[Bool.and_eq_true,decide_eq_true_eq] at h;obtain⟨⟨⟨⟨h1,h2⟩,h3⟩,h4⟩,h5⟩:=h;exact⟨h1,h2,h3,h4,h5⟩
theorem ye8 {m:Int}(h0:0<=m)(h4:m<=4):yln (ya6.getD m.toNat [])=m:=by
 have h:m=0\/m=1\/m=2\/m=3\/m=4:=by omega
 rcases h with rfl | rfl | rfl | rfl | rfl <;> decide
theorem yoe {s:List UInt8}(h:0<=yln s):yaa 4 (ycv,s)=0:=by
 unfold yaa;have hx:yo 4 ycv=⟨5,0,0,0⟩:=rfl;simp only[hx];rw[if_neg (by decide),if_neg (by decide),if_neg (by omega),if_pos];unfold okV;rw[if_neg (by decide),if_neg (by decide),if_neg (by decide),if_pos rfl,decide_eq_true h]
theorem yq9 {o:Op'}(h:OpV o):yaa 4 (ycv,ya6.getD o.mode.toNat [])=0/\yaa 4 (yam,yJ o.ns)=0/\yaa 4 (yan,yJ o.rs)=0/\yaa 4 (yaM,yJ o.mg)=0/\yaa 4 (yaN,yJ (1000*o.rd))=0:=by
 refine⟨yoe (by rw[ye8 h.md.1 h.md.2];exact h.md.1),?_,?_,?_,?_⟩
 ·exact ycI (x:=⟨2,0,1048576,10000⟩) (by decide) rfl (Or.inl rfl) (by rw[ydc h.ns.1 h.ns.2 (by have:=h.ns.1;omega) (by have:=h.ns.2;omega)])
 ·exact ycI (x:=⟨2,0,1048576,20000⟩) (by decide) rfl (Or.inl rfl) (by rw[ydc h.rs.1 h.rs.2 (by have:=h.rs.1;omega) (by have:=h.rs.2;omega)])
 ·exact ycI (x:=⟨2,0,1048576,5000⟩) (by decide) rfl (Or.inl rfl) (by rw[ydc h.mg.1 h.mg.2 (by have:=h.mg.1;omega) (by have:=h.mg.2;omega)])
 ·exact ycI (x:=⟨3,0,100,8⟩) (by decide) rfl (Or.inr rfl) (by rw[ye4 h.rd.1 h.rd.2 (by have:=h.rd.1;omega) (by have:=h.rd.2;omega)])
theorem yra {o:Op'}(h:OpV o)(t:List St)(p:Pl)(s:Sta)(h0:s.e=0):yX (yfF o++t) p s=yX t p s:=by
 obtain⟨c1,c2,c3,c4,c5⟩:=yq9 h;unfold yfF;rw[List.append_assoc,ye7 h0 (fun _=>c1),List.append_assoc,ye7 h0 (fun _=>c2),List.append_assoc,ye7 h0 (fun _=>c3),List.append_assoc,ye7 h0 (fun _=>c4),ye7 h0 (fun _=>c5)]
theorem ygb {k:Int}:∀ {l done:List Pr},yc6 k done l=0->∀ a∈l,a.2.length<=32
 | [],_,_,a,ha=>by cases ha
 | b::t,done,h,a,ha=>by
  unfold yc6 at h
  split at h
  ·exact absurd h (by decide)
  split at h
  ·exact absurd h (by decide)
  split at h
  ·exact absurd h (by decide)
  split at h
  ·exact absurd h (by decide)
  rename_i hb _
  rcases List.mem_cons.1 ha with rfl | q
  ·omega
  ·exact ygb h a q
theorem ylP {s:St}{lv:Int}(h:ybs s lv=0):∀ a∈s.attrs,a.2.length<=32:=by
 unfold ybs at h
 split at h
 ·rename_i hn;exact absurd h hn
 split at h
 ·exact absurd h (by decide)
 split at h
 ·exact absurd h (by decide)
 split at h
 ·exact absurd h (by decide)
 unfold yjh at h
 split at h
 ·exact absurd h (by decide)
 exact ygb h
theorem ych (g:gra.Gr):∀ (f:Nat) (c:Int) (n k:Nat),n<=g.ns.length->k<=g.cs.length->(yR g f c n k).2.1<=g.ns.length/\(yR g f c n k).2.2<=g.cs.length
 | 0,_,_,_,hn,hk=>⟨hn,hk⟩
 | f+1,c,n,k,hn,hk=>by
  have lt1:∀ {y},g.ns[n]?=some y->n+1<=g.ns.length:=fun {y} h=>by
   rcases Nat.lt_or_ge n g.ns.length with q | q
   ·exact q
   ·rw[List.getElem?_eq_none q] at h;cases h
  have lt2:∀ {y},g.cs[k]?=some y->k+1<=g.cs.length:=fun {y} h=>by
   rcases Nat.lt_or_ge k g.cs.length with q | q
   ·exact q
   ·rw[List.getElem?_eq_none q] at h;cases h
  rw[yR]
  cases h1:g.cs[k]? with
  | none =>
   cases h2:g.ns[n]? with
   | none=>exact⟨hn,hk⟩
   | some y =>
    simp only
    split
    ·exact ych g f c (n+1) k (lt1 h2) hk
    ·exact⟨hn,hk⟩
  | some x =>
   simp only
   split
   ·obtain⟨q1,q2⟩:=ych g f k n (k+1) hn (lt2 h1)
    exact ych g f c _ _ q1 q2
   ·cases h2:g.ns[n]? with
    | none=>exact⟨hn,hk⟩
    | some y =>
     simp only
     split
     ·exact ych g f c (n+1) k (lt1 h2) hk
     ·exact⟨hn,hk⟩
theorem yh0 {g:gra.Gr}{o:Op'}{T:Tr}(h:ybK g o=(T,0)):gra.validE g=0/\okO o=true/\(ybI g).2.1=g.ns.length/\(ybI g).2.2=g.cs.length/\T=yZ g o/\yab T=0:=by
 unfold ybK at h
 split at h
 ·exact absurd (Prod.mk.inj h).2 (by decide)
 rename_i h1
 split at h
 ·exact absurd (Prod.mk.inj h).2 (by decide)
 rename_i h2
 split at h
 ·rename_i h3;exact absurd (Prod.mk.inj h).2 h3
 rename_i h3
 obtain⟨rfl,-⟩:=Prod.mk.inj h;obtain⟨q1,q2⟩:=ych g (g.ns.length+g.cs.length+1) (-1) 0 0 (Nat.zero_le _) (Nat.zero_le _);have q1':(ybI g).2.1<=g.ns.length:=q1;have q2':(ybI g).2.2<=g.cs.length:=q2;refine⟨Decidable.not_not.1 fun q=>h1 (Or.inl q),?_,by omega,by omega,rfl,by simpa using h3⟩
 cases hq:okO o with
 | true=>rfl
 | false=>exact absurd (Or.inr hq) h1
theorem ykL {g:gra.Gr}{o:Op'}{T:Tr}(h:ybK g o=(T,0)):yb2 T=(g,0):=by
 obtain⟨hv,ho,hn,hk,rfl,ht⟩:=yh0 h;have hg:=ykK hv;have hov:=ylO ho
 have hat:AtS (ybI g).1:=fun y hy a ha=>by
  have hm:=((yaO _).1 ht).2.2 y (by show y∈ybt (yfF o++((ybI g).1++g.es.map (ya8 g.ns))) 0;rw[yba,yba];exact List.mem_append_right _ (List.mem_append_left _ hy));exact ylP hm a ha
 have hb:yX (yZ g o).body pl0 st0=sE g (g.es.map (yqr g)):=by
  show yX (yfF o++((ybI g).1++g.es.map (ya8 g.ns))) pl0 st0=_
  rw[yra hov _ _ _ rfl];have q:=yeo hg (g.ns.length+g.cs.length+1) (-1) 0 0 (g.es.map (ya8 g.ns)) hat;have e0:sAt g 0 0=st0:=by unfold sAt st0;simp
  have e1:sAt g (ybI g).2.1 (ybI g).2.2=sE g []:=by unfold sAt sE;rw[hn,hk,List.take_length,List.take_length]
  rw[e0] at q;have q2:yX ((ybI g).1++g.es.map (ya8 g.ns)) pl0 st0=yX (g.es.map (ya8 g.ns)) pl0 (sAt g (ybI g).2.1 (ybI g).2.2):=q;rw[q2,e1,yga hg _ _ (fun e he=>he),List.nil_append]
 have hz:List.zipWith ygJ (g.ns.map (fun x=>(x.nm,x.cl))) (g.ns.map ybd)=g.ns:=by
  rw[List.zipWith_map_left,List.zipWith_map_right,List.zipWith_self];rw[List.map_congr_left fun x hx=>ylC (hg.nd x hx)];simp
 have hf:yeS (yZ g o).name (yZ g o).dir (sE g (g.es.map (yqr g)))=g:=by
  unfold yeS sE;simp only[hz];rw[List.map_map]
  have he:g.es.map (yeR g.ns ∘ yqr g)=g.es:=by
   rw[List.map_congr_left (f:=yeR g.ns ∘ yqr g) (g:=fun e=>e) fun e he=>yob hg he,List.map_id']
  rw[he];rfl
 unfold yb2;rw[if_neg (by simp[ht]),hb,if_neg (by show ¬ (0:Int)≠0;simp),hf]
 have hno:yeT g=false:=by
  unfold yeT;rw[List.any_eq_false];intro e he;obtain⟨-,-,-,-,p0,-,q0,-⟩:=hg.ef e he;simp only[Bool.or_eq_true,decide_eq_true_eq];omega
 rw[hno,if_neg (by decide),if_neg (by simp[hv])]
def yrb (o:Op'):List Pr :=
 (if o.mode=0 then [] else [(ycv,ya6.getD o.mode.toNat [])])++((if o.ns=10000 then [] else [(yam,yJ o.ns)])++((if o.rs=20000 then [] else [(yan,yJ o.rs)])++((if o.mg=5000 then [] else [(yaM,yJ o.mg)])++(if o.rd=8 then [] else [(yaN,yJ (1000*o.rd))]))))
mutual
def ykM:St->List Nm->List Nm × Bool
 | .mk k n r _ b,N=>if r.any (fun x=>!(if k=1 then N++[n] else N).contains x.1)=true then ((if k=1 then N++[n] else N),false) else ycs b (if k=1 then N++[n] else N)
def ycs:List St->List Nm->List Nm × Bool
 | [],N=>(N,true)
 | x::t,N=>if (ykM x N).2=false then ykM x N else ycs t (ykM x N).1
end
def Grow (c:Int)(s s':Sta):Prop :=
 ∃ A B,s'.ns=s.ns++A/\s'.cs=s.cs++B/\(∀ a∈A,a.2=c\/((s.cs.length:Int)<=a.2/\a.2<s'.cs.length))/\(∀ b∈B,b.2=c\/(s.cs.length:Int)<=b.2)/\(s.ns.length=s.ats.length->s'.ns.length=s'.ats.length)
theorem Grow.same {c:Int}{s s':Sta}(h1:s'.ns=s.ns)(h2:s'.cs=s.cs)(h3:s'.ats.length=s.ats.length):Grow c s s' :=
 ⟨[],[],by simp[h1],by simp[h2],fun a h=>(by cases h),fun a h=>(by cases h),fun h=>by rw[h1,h3,h]⟩
theorem Grow.trans {c:Int}{s t u:Sta}(h:Grow c s t)(k:Grow c t u):Grow c s u:=by
 obtain⟨A,B,a1,a2,a3,a4,a5⟩:=h;obtain⟨C,D,b1,b2,b3,b4,b5⟩:=k;have l1:t.cs.length=s.cs.length+B.length:=by rw[a2,List.length_append]
 have l2:u.cs.length=t.cs.length+D.length:=by rw[b2,List.length_append]
 refine⟨A++C,B++D,by rw[b1,a1,List.append_assoc],by rw[b2,a2,List.append_assoc],fun x hx=>?_,fun x hx=>?_,fun q=>b5 (a5 q)⟩
 ·rcases List.mem_append.1 hx with q | q
  ·rcases a3 x q with r | r
   ·exact Or.inl r
   ·exact Or.inr (by omega)
  ·rcases b3 x q with r | r
   ·exact Or.inl r
   ·exact Or.inr (by omega)
 ·rcases List.mem_append.1 hx with q | q
  ·rcases a4 x q with r | r
   ·exact Or.inl r
   ·exact Or.inr (by omega)
  ·rcases b4 x q with r | r
   ·exact Or.inl r
   ·exact Or.inr (by omega)
theorem Grow.len {c:Int}{s s':Sta}(h:Grow c s s'):s.ns.length<=s'.ns.length/\s.cs.length<=s'.cs.length:=by
 obtain⟨A,B,a1,a2,-⟩:=h;rw[a1,a2,List.length_append,List.length_append];omega
theorem ye9 (s:Sta)(n:Nm)(p:Pl):Grow p.cl s (yN s n p):=by
 unfold yN
 split
 ·exact⟨[(n,p.cl)],[],rfl,by simp,fun a h=>by rw[List.mem_singleton] at h;subst h;exact Or.inl rfl,fun a h=>(by cases h),fun h=>by simp[h]⟩
 ·exact Grow.same rfl rfl rfl
theorem yfa (p:Pl):∀ (l:List Pr) (s:Sta),Grow p.cl s (y7 l s p)
 | [],s=>Grow.same rfl rfl rfl
 | r::t,s=>by
  unfold y7
  split
  ·exact Grow.same rfl rfl rfl
  ·exact(ye9 s r.1 p).trans (yfa p t _)
theorem yde (k:Int)(n:Nm)(a:List Pr)(p:Pl):(dflt k n a p).cl=p.cl:=by
 unfold dflt
 split
 ·split <;> rfl
 ·rfl
theorem Grow.of {c:Int}{s t u:Sta}(h:Grow c s t)(h1:u.ns=t.ns)(h2:u.cs=t.cs)(h3:u.ats.length=t.ats.length):Grow c s u:=h.trans (Grow.same h1 h2 h3)
theorem yep:(∀ x:St,∀ (p:Pl) (s:Sta),Grow p.cl s (ya9 x p s))/\∀ l:List St,∀ (p:Pl) (s:Sta),Grow p.cl s (yX l p s):=by
 refine ya2 (fun k n r a b hb p s=>?_) (fun p s=>?_) (fun x t hx ht p s=>?_)
 ·rw[ya9]
  by_cases h1:k=1
  ·rw[if_pos h1]
   exact(ye9 s n p).of rfl rfl (ygS ..)
  rw[if_neg h1]
  by_cases h2:k=2
  ·rw[if_pos h2]
   unfold yaL
   split
   ·exact yfa p r s
   ·exact(yfa p r s).of rfl rfl rfl
  rw[if_neg h2]
  by_cases h5:k=5
  ·rw[if_pos h5]
   split
   ·exact Grow.same rfl rfl rfl
   ·obtain⟨A,B,a1,a2,a3,a4,a5⟩:=hb ⟨s.cs.length,p.dn,p.de⟩ ⟨s.ns,s.ats,s.cs++[(n,p.cl)],s.en,s.e⟩
    simp only at a1 a2 a3 a4 a5;rw[List.length_append] at a3 a4;simp only[List.length_cons,List.length_nil] at a3 a4;refine⟨A,(n,p.cl)::B,a1,by rw[a2,List.append_assoc];rfl,fun x hx=>?_,fun x hx=>?_,a5⟩
    ·refine Or.inr ?_
     have hl:(yX b ⟨s.cs.length,p.dn,p.de⟩ ⟨s.ns,s.ats,s.cs++[(n,p.cl)],s.en,s.e⟩).cs.length=s.cs.length+1+B.length:=by rw[a2];simp only[List.length_append,List.length_cons,List.length_nil]
     rcases a3 x hx with q | q
     ·rw[q,hl];omega
     ·omega
    ·rcases List.mem_cons.1 hx with rfl | hx
     ·exact Or.inl rfl
     ·rcases a4 x hx with q | q
      ·exact Or.inr (by omega)
      ·exact Or.inr (by omega)
  ·rw[if_neg h5];exact Grow.same rfl rfl rfl
 ·rw[ybc];exact Grow.same rfl rfl rfl
 ·rw[yaR]
  split
  ·exact Grow.same rfl rfl rfl
  split
  ·exact Grow.same rfl rfl rfl
  ·have q:=ht (dflt x.kind x.name x.attrs p) (ya9 x p s)
   rw[yde] at q;exact(hx p s).trans q
theorem yrc {cs:List Cl}(h:gra.Wf cs):∀ (n:Nat) (j:Int),j<(n:Int)->∀ x∈gra.ch cs j,x<=j
 | 0,j,hj,x,hx=>by rw[gra.ch_neg cs j (by omega)] at hx;cases hx
 | n+1,j,hj,x,hx=>by
  by_cases h0:j<0
  ·rw[gra.ch_neg cs j h0] at hx;cases hx
  ·have hu:=gra.up_neg cs h j (by omega)
   rw[gra.ch_cons h j (by omega)] at hx
   rcases List.mem_cons.1 hx with rfl | q
   ·omega
   ·have:=yrc h n (gra.up cs j) (by omega) x q
    omega
theorem ysY {cs:List Cl}(h:gra.Wf cs){k e:Nat}(hin:∀ i:Nat,k<i->i<e->(k:Int)<=gra.up cs i):∀ (n j:Nat),j<n->k<=j->j<e->(k:Int)∈gra.ch cs j
 | 0,j,hj,_,_=>by omega
 | n+1,j,hj,h1,h2=>by
  rw[gra.ch_cons h j (by omega)]
  by_cases q:j=k
  ·subst q;exact List.mem_cons_self ..
  ·have hu:=gra.up_neg cs h j (by omega)
   have hk:=hin j (by omega) h2;obtain⟨m,hm⟩:∃ m:Nat,gra.up cs j=(m:Int):=⟨(gra.up cs j).toNat,by omega⟩
   rw[hm] at hu hk |-;exact List.mem_cons_of_mem _ (ysY h hin n m (by omega) (by omega) (by omega))
theorem yqs {cs:List Cl}(h:gra.Wf cs){k e:Nat}(hout:∀ i:Nat,e<=i->gra.up cs i<(k:Int)\/(e:Int)<=gra.up cs i):∀ (n:Nat) (j:Int),j<(n:Int)->(j<k\/(e:Int)<=j)->k<e->¬ (k:Int)∈gra.ch cs j
 | 0,j,hj,_,_=>by rw[gra.ch_neg cs j (by omega)];exact fun q=>nomatch q
 | n+1,j,hj,h1,h2=>fun hm=>by
  rcases h1 with q | q
  ·have:=yrc h (n+1) j hj _ hm;omega
  ·have hu:=gra.up_neg cs h j (by omega)
   rw[gra.ch_cons h j (by omega)] at hm
   rcases List.mem_cons.1 hm with r | r
   ·omega
   ·obtain⟨m,rfl⟩:∃ m:Nat,j=(m:Int):=⟨j.toNat,by omega⟩
    exact yqs h hout n (gra.up cs m) (by omega) (hout m (by omega)) h2 r
theorem yfb (n:Nm):∀ (l:List nor.Cl) (i:Nat),0<=yG l n i↔n∈l.map (·.1)
 | [],i=>by simp[yG]
 | x::t,i=>by
  unfold yG
  by_cases h:x.1=n
  ·rw[if_pos h];simp[h]
  ·rw[if_neg h,yfb n t (i+1)];simp[Ne.symm h]
def ysG (g:gra.Gr):List nor.Cl:=g.ns.map fun x=>(x.nm,x.cl)
def Ext (g:gra.Gr)(s:Sta):Prop:=s.ns <+: ysG g/\s.cs <+: g.cs
theorem Ext.back {g:gra.Gr}{c:Int}{s s':Sta}(h:Ext g s')(k:Grow c s s'):Ext g s:=by
 obtain⟨A,B,a1,a2,-⟩:=k;refine⟨List.IsPrefix.trans ⟨A,a1.symm⟩ h.1,List.IsPrefix.trans ⟨B,a2.symm⟩ h.2⟩
theorem Ext.len {g:gra.Gr}{s:Sta}(h:Ext g s):s.ns.length<=g.ns.length/\s.cs.length<=g.cs.length:=by
 have h1:=h.1.length_le;have h2:=h.2.length_le;unfold ysG at h1;rw[List.length_map] at h1;exact⟨h1,h2⟩
theorem yqt {α:Type}{a b:List α}(h:a <+: b){i:Nat}(hi:i<a.length):b[i]?=some a[i]:=by
 obtain⟨t,rfl⟩:=h;rw[List.getElem?_append_left hi,List.getElem?_eq_getElem hi]
theorem Ext.nd {g:gra.Gr}{s:Sta}(h:Ext g s){i:Nat}(hi:i<s.ns.length):∃ y,g.ns[i]?=some y/\s.ns[i]=(y.nm,y.cl):=by
 have q:=yqt h.1 hi;unfold ysG at q;rw[List.getElem?_map,Option.map_eq_some_iff] at q;obtain⟨y,q1,q2⟩:=q;exact⟨y,q1,q2.symm⟩
theorem Ext.cl {g:gra.Gr}{s:Sta}(h:Ext g s){i:Nat}(hi:i<s.cs.length):g.cs[i]?=some s.cs[i]:=yqt h.2 hi
def Ctx (g:gra.Gr)(c:Int)(n k:Nat):Prop :=
 (∀ i y,n<=i->g.ns[i]?=some y->y.cl<=c\/(k:Int)<=y.cl)/\∀ i x,k<=i->g.cs[i]?=some x->x.2<=c\/(k:Int)<=x.2
theorem Ctx.back {g:gra.Gr}{c:Int}{s s':Sta}(h:Ctx g c s'.ns.length s'.cs.length)(he:Ext g s')(k:Grow c s s'):Ctx g c s.ns.length s.cs.length:=by
 have hl:=k.len;obtain⟨A,B,a1,a2,a3,a4,-⟩:=k;refine⟨fun i y hi hy=>?_,fun i x hi hx=>?_⟩
 ·by_cases q:i<s'.ns.length
  ·obtain⟨z,z1,z2⟩:=he.nd q
   rw[hy] at z1;obtain rfl:=Option.some.inj z1
   have hm:(y.nm,y.cl)∈A:=by
    rw[<- z2];have:i-s.ns.length<A.length:=by rw[a1,List.length_append] at q;omega
    have e:s'.ns[i]=A[i-s.ns.length]:=by
     simp only[a1];rw[List.getElem_append_right hi]
    rw[e];exact List.getElem_mem _
   rcases a3 _ hm with r | r
   ·exact Or.inl (Int.le_of_eq r)
   ·exact Or.inr r.1
  ·rcases h.1 i y (by omega) hy with r | r
   ·exact Or.inl r
   ·exact Or.inr (by omega)
 ·by_cases q:i<s'.cs.length
  ·have z:=he.cl q
   rw[hx] at z;obtain rfl:=Option.some.inj z
   have hm:s'.cs[i]∈B:=by
    have:i-s.cs.length<B.length:=by rw[a2,List.length_append] at q;omega
    have e:s'.cs[i]=B[i-s.cs.length]:=by
     simp only[a2];rw[List.getElem_append_right hi]
    rw[e];exact List.getElem_mem _
   rcases a4 _ hm with r | r
   ·exact Or.inl (Int.le_of_eq r)
   ·exact Or.inr r
  ·rcases h.2 i x (by omega) hx with r | r
   ·exact Or.inl r
   ·exact Or.inr (by omega)
section
variable {g:gra.Gr} {f n k:Nat} {c:Int}
theorem yof {y:gra.Nd}(hk:∀ x,g.cs[k]?=some x->¬ (x.2=c/\inC g n k=true))(hn:g.ns[n]?=some y)(hc:y.cl=c):(yR g (f+1) c n k).2=(yR g f c (n+1) k).2:=by
 rw[yR]
 cases h1:g.cs[k]? with
 | none=>simp only[hn];rw[if_pos hc]
 | some x=>simp only[hn];rw[if_neg (hk x h1),if_pos hc]
theorem yrd {x:gra.Cl}(hk:g.cs[k]?=some x)(h:x.2=c/\inC g n k=true):(yR g (f+1) c n k).2=(yR g f c (yR g f k n (k+1)).2.1 (yR g f k n (k+1)).2.2).2:=by
 rw[yR];simp only[hk];rw[if_pos h]
theorem yjI (hk:∀ x,g.cs[k]?=some x->x.2≠c)(hn:∀ y,g.ns[n]?=some y->y.cl≠c):(yR g (f+1) c n k).2=(n,k):=by
 rw[yR]
 cases h1:g.cs[k]? with
 | none =>
  cases h2:g.ns[n]? with
  | none=>rfl
  | some y=>simp only;rw[if_neg (hn y h2)]
 | some x =>
  simp only;rw[if_neg (fun q=>hk x h1 q.1)]
  cases h2:g.ns[n]? with
  | none=>rfl
  | some y=>simp only;rw[if_neg (hn y h2)]
theorem ygW {v:Nat}:v∈gra.mems g k↔v<g.ns.length/\gra.has g k v=true:=by
 unfold gra.mems;rw[List.mem_filter,List.mem_range]
theorem yre (h:n∈gra.mems g k):inC g n k=true:=by
 unfold inC;rw[List.contains_iff_mem.2 h];rfl
theorem ysZ (h:n ∉ gra.mems g k)(h0:gra.mems g k≠[]):inC g n k=false:=by
 unfold inC;rw[Bool.or_eq_false_iff];refine⟨?_,?_⟩
 ·cases q:(gra.mems g k).contains n with
  | false=>rfl
  | true=>exact absurd (List.contains_iff_mem.1 q) h
 ·cases q:gra.mems g k with
  | nil=>exact absurd q h0
  | cons a t=>rfl
end
theorem ys0 {g:gra.Gr}{k v:Nat}{y:gra.Nd}(h:g.ns[v]?=some y):gra.has g k v=decide ((k:Int)∈gra.ch g.cs y.cl):=by
 unfold gra.has gra.clOf;simp only[h];rw[decide_eq_false (show ¬ (k:Int)=-1 by omega),Bool.false_or]
structure Glob (g:gra.Gr):Prop where
 wf:gra.Wf g.cs
 mem:∀ k,k<g.cs.length->gra.mems g k≠[]
structure At (c:Int)(s:Sta):Prop where
 lo:-1<=c
 hi:c<s.cs.length
 ns:∀ a∈s.ns,a.2<(s.cs.length:Int)
theorem At.grow {c:Int}{s s':Sta}(h:At c s)(k:Grow c s s'):At c s':=by
 have hl:=k.len;obtain⟨A,B,a1,a2,a3,-⟩:=k;have:=h.hi;refine⟨h.lo,by omega,fun a ha=>?_⟩;rw[a1] at ha
 rcases List.mem_append.1 ha with q | q
 ·have:=h.ns a q;omega
 ·rcases a3 a q with r | r
  ·omega
  ·exact r.2
def fl (g:gra.Gr)(s:Sta):Nat:=(g.ns.length-s.ns.length)+(g.cs.length-s.cs.length)+1
def Run (g:gra.Gr)(c:Int)(s s':Sta):Prop:=∀ f,fl g s<=f->∃ f',fl g s'<=f'/\(yR g f c s.ns.length s.cs.length).2=(yR g f' c s'.ns.length s'.cs.length).2
theorem Run.same {g:gra.Gr}{c:Int}{s s':Sta}(h1:s'.ns=s.ns)(h2:s'.cs=s.cs):Run g c s s':=fun f hf=>⟨f,by unfold fl at hf |-;rw[h1,h2];exact hf,by rw[h1,h2]⟩
theorem Run.trans {g:gra.Gr}{c:Int}{s t u:Sta}(h:Run g c s t)(k:Run g c t u):Run g c s u:=fun f hf=>by
 obtain⟨f1,q1,q2⟩:=h f hf;obtain⟨f2,r1,r2⟩:=k f1 q1;exact⟨f2,r1,q2.trans r2⟩
theorem yog {g:gra.Gr}(hg:Glob g){c:Int}{s s':Sta}{n:Nm}(ha:At c s)(he:Ext g s')(h1:s'.ns=s.ns++[(n,c)])(h2:s'.cs=s.cs):Run g c s s':=fun f hf=>by
 have hl:s'.ns.length=s.ns.length+1:=by rw[h1];simp
 have hle:=he.len;obtain⟨y,y1,y2⟩:=he.nd (i:=s.ns.length) (by omega)
 have yc:y.cl=c:=by
  have e:s'.ns[s.ns.length]=(n,c):=by simp[h1]
  rw[e] at y2;exact(Prod.mk.inj y2).2.symm
 unfold fl at hf;obtain⟨f1,rfl⟩:∃ f1,f=f1+1:=⟨f-1,by omega⟩
 refine⟨f1,by unfold fl;rw[hl,h2];omega,?_⟩;rw[hl,h2];refine yof (fun x hx q=>?_) y1 yc
 have hk:s.cs.length<g.cs.length:=by
  rcases Nat.lt_or_ge s.cs.length g.cs.length with r | r
  ·exact r
  ·rw[List.getElem?_eq_none r] at hx;cases hx
 rw[ysZ (fun hm=>?_) (hg.mem _ hk)] at q
 ·exact absurd q.2 (by decide)
 ·have hh:=(ygW.1 hm).2
  rw[ys0 y1,decide_eq_true_eq,yc] at hh;have hc:=ha.hi;have:=yrc hg.wf (s.cs.length) c hc _ hh;omega
theorem yrf {g:gra.Gr}(hg:Glob g){c:Int}{s s1 s':Sta}{n:Nm}(ha:At c s)(h1:s1.ns=s.ns)(h2:s1.cs=s.cs++[(n,c)])(hgr:Grow s.cs.length s1 s')(he:Ext g s')(hx:Ctx g c s'.ns.length s'.cs.length)(hr:Run g s.cs.length s1 s'):Run g c s s':=fun f hf=>by
 have hl1:s1.cs.length=s.cs.length+1:=by rw[h2];simp
 have hle:=he.len;have hlen:=hgr.len;have hc:=ha.hi;have hc0:=ha.lo
 have hek:g.cs[s.cs.length]?=some (n,c):=by
  have e1:=he.back hgr;have q:=e1.cl (i:=s.cs.length) (by omega);rw[q];congr 1;simp[h2]
 have hins:∀ v y,g.ns[v]?=some y->(gra.has g s.cs.length v=true↔(s.cs.length:Int)<=y.cl/\y.cl<(s'.cs.length:Int)):=fun v y hy=>by
  rw[ys0 hy,decide_eq_true_eq]
  have hout:∀ i:Nat,s'.cs.length<=i->gra.up g.cs i<(s.cs.length:Int)\/(s'.cs.length:Int)<=gra.up g.cs i:=fun i hi=>by
   rcases Nat.lt_or_ge i g.cs.length with r | r
   ·rw[gra.up_at r]
    rcases hx.2 i g.cs[i] hi (List.getElem?_eq_getElem r) with t | t
    ·exact Or.inl (by omega)
    ·exact Or.inr t
   ·refine Or.inl ?_
    unfold gra.up;rw[show ((i:Int)).toNat=i by omega,List.getElem?_eq_none r];simp only;omega
  have hinn:∀ i:Nat,s.cs.length<i->i<s'.cs.length->((s.cs.length:Nat):Int)<=gra.up g.cs i:=fun i h3 h4=>by
   have r:i<g.cs.length:=by omega
   have q:=he.cl h4;rw[gra.up_at r];rw[List.getElem?_eq_getElem r] at q;rw[Option.some.inj q];obtain⟨A,B,a1,a2,a3,a4,-⟩:=hgr
   have hm:s'.cs[i]∈B:=by
    have:i-s1.cs.length<B.length:=by rw[a2,List.length_append] at h4;omega
    have e:s'.cs[i]=B[i-s1.cs.length]:=by
     simp only[a2];rw[List.getElem_append_right (by omega)]
    rw[e];exact List.getElem_mem _
   rcases a4 _ hm with t | t
   ·omega
   ·omega
  refine⟨fun hm=>?_,fun hm=>?_⟩
  ·by_cases q:(s.cs.length:Int)<=y.cl/\y.cl<(s'.cs.length:Int)
   ·exact q
   ·exact absurd hm (yqs hg.wf hout (y.cl+1).toNat y.cl (by omega) (by omega) (by omega))
  ·obtain⟨j,hj⟩:∃ j:Nat,y.cl=(j:Int):=⟨y.cl.toNat,by omega⟩
   rw[hj];exact ysY hg.wf hinn (j+1) j (by omega) (by omega) (by omega)
 have hmem:s.ns.length∈gra.mems g s.cs.length:=by
  obtain⟨v,hv⟩:=List.exists_mem_of_ne_nil _ (hg.mem s.cs.length (by omega));obtain⟨v1,v2⟩:=ygW.1 hv;have vy:g.ns[v]?=some g.ns[v]:=List.getElem?_eq_getElem v1;have vr:=(hins v _ vy).1 v2
  have hns:s.ns.length<s'.ns.length:=by
   rcases Nat.lt_or_ge v s.ns.length with r | r
   ·obtain⟨y,y1,y2⟩:=(he.back hgr).nd (i:=v) (by rw[h1];exact r)
    rw[vy] at y1;obtain rfl:=Option.some.inj y1;have e:s1.ns[v]'(by rw[h1];exact r)=s.ns[v]:=by simp only[h1]
    have:=ha.ns s.ns[v] (List.getElem_mem _);rw[<- e,y2] at this;simp only at this;omega
   ·rcases Nat.lt_or_ge v s'.ns.length with t | t
    ·omega
    ·rcases hx.1 v _ t vy with u | u <;> omega
  obtain⟨y,y1,y2⟩:=he.nd hns;refine ygW.2 ⟨by omega,(hins _ y y1).2 ?_⟩;obtain⟨A,B,a1,a2,a3,-⟩:=hgr
  have hm:(y.nm,y.cl)∈A:=by
   rw[<- y2];have hA:s'.ns.length=s.ns.length+A.length:=by rw[a1,List.length_append,h1]
   have e:s'.ns[s.ns.length]=A[0]'(by omega):=by
    simp only[a1];rw[List.getElem_append_right (by rw[h1];exact Nat.le_refl _)]
    congr 1
    rw[h1];omega
   rw[e];exact List.getElem_mem _
  rcases a3 _ hm with t | t
  ·have t':y.cl=(s.cs.length:Int):=t
   omega
  ·have t':((s1.cs.length:Nat):Int)<=y.cl/\y.cl<(s'.cs.length:Int):=t
   omega
 unfold fl at hf;obtain⟨f1,rfl⟩:∃ f1,f=f1+1:=⟨f-1,by omega⟩
 obtain⟨f2,q1,q2⟩:=hr f1 (by unfold fl;rw[h1,hl1];omega);unfold fl at q1;obtain⟨f3,rfl⟩:∃ f3,f2=f3+1:=⟨f2-1,by omega⟩
 rw[yjI (fun x hxx e=>?_) (fun y hy e=>?_)] at q2
 ·rw[h1,hl1] at q2
  refine⟨f1,by unfold fl;rw[h1] at hlen;omega,?_⟩;rw[yrd hek ⟨rfl,yre hmem⟩,q2]
 ·rcases hx.2 _ x (Nat.le_refl _) hxx with t | t <;> omega
 ·rcases hx.1 _ y (Nat.le_refl _) hy with t | t <;> omega
def Kn (N:List Nm)(s:Sta):Prop:=∀ m∈N,m∈s.ns.map (·.1)
theorem yfc {s:Sta}{n:Nm}{p:Pl}(h:n∈s.ns.map (·.1)):(yN s n p).ns=s.ns/\(yN s n p).cs=s.cs:=by
 have:=(yfb n s.ns 0).2 h;unfold yN;rw[if_neg (by omega)];exact⟨rfl,rfl⟩
theorem ygc {p:Pl}:∀ (l:List Pr) (s:Sta),(∀ r∈l,r.1∈s.ns.map (·.1))->(y7 l s p).ns=s.ns/\(y7 l s p).cs=s.cs
 | [],s,_=>⟨rfl,rfl⟩
 | r::t,s,h=>by
  obtain⟨h1,h2⟩:=yfc (p:=p) (h r (List.mem_cons_self ..));unfold y7
  split
  ·exact⟨rfl,rfl⟩
  ·obtain⟨q1,q2⟩:=ygc t (yN s r.1 p) (fun x hx=>by rw[h1];exact h x (List.mem_cons_of_mem _ hx))
   exact⟨q1.trans h1,q2.trans h2⟩
theorem ys1 {l:List Pr}{M:List Nm}(h:¬ l.any (fun x=>!M.contains x.1)=true):∀ r∈l,r.1∈M:=fun r hr=>by
 have q:l.any (fun x=>!M.contains x.1)=false:=by simpa using h
 rw[List.any_eq_false] at q;have:=q r hr
 simpa using this
theorem ydu (N:List Nm):ycs [] N=(N,true):=by rw[ycs]
theorem runs {g:gra.Gr}(hg:Glob g) :
    (∀ x:St,∀ (p:Pl) (s:Sta) (N:List Nm) (lv:Int),(∀ y∈ykD x lv,ybs y.1 y.2=0)->(ya9 x p s).e=0->(ykM x N).2=true->Kn N s->At p.cl s->Ext g (ya9 x p s)->Ctx g p.cl (ya9 x p s).ns.length (ya9 x p s).cs.length ->
     Kn (ykM x N).1 (ya9 x p s)/\Run g p.cl s (ya9 x p s)) /\
    ∀ l:List St,∀ (p:Pl) (s:Sta) (N:List Nm) (lv:Int),(∀ y∈ybt l lv,ybs y.1 y.2=0)->(yX l p s).e=0->(ycs l N).2=true->Kn N s->At p.cl s->Ext g (yX l p s)->Ctx g p.cl (yX l p s).ns.length (yX l p s).cs.length ->
     Kn (ycs l N).1 (yX l p s)/\Run g p.cl s (yX l p s):=by
 refine ya2 (fun k n r a b hb p s N lv hv he hd hk ha hx hc=>?_) (fun p s N lv _ _ _ hk _ _ _=>?_) (fun x t hx ht p s N lv hv he hd hk ha hxt hc=>?_)
 ·have hs:=hv (.mk k n r a b,lv) (by rw[y6];exact List.mem_cons_self ..)
  obtain⟨hkd,hr,hbd⟩:=yhJ hs;rw[y6] at hv;simp only[St.kind,St.refs,St.body] at hkd hr hbd hv;rw[ykM] at hd |-
  by_cases hany:r.any (fun x=>!(if k=1 then N++[n] else N).contains x.1)=true
  ·rw[if_pos hany] at hd;exact absurd hd (by simp)
  rw[if_neg hany] at hd |-;have hrf:=ys1 hany
  rcases hkd with h | h | h | h | h
  ·subst h
   obtain rfl:=hr (by decide);obtain rfl:=hbd (by decide);rw[ydu,if_pos rfl];rw[yhH] at hx hc |-;have hgm:=ye9 s n p
   by_cases hn:n∈s.ns.map (·.1)
   ·obtain⟨m1,m2⟩:=yfc (p:=p) hn
    refine⟨fun m hm=>?_,Run.same m1 m2⟩
    show m∈(yN s n p).ns.map (·.1)
    rw[m1]
    rcases List.mem_append.1 hm with q | q
    ·exact hk m q
    ·rw[List.mem_singleton] at q;rw[q];exact hn
   ·have m1:(yN s n p).ns=s.ns++[(n,p.cl)]:=by
      have:¬ 0<=yG s.ns n 0:=fun q=>hn ((yfb n s.ns 0).1 q)
      unfold yN;rw[if_pos (by omega)]
    refine⟨fun m hm=>?_,yog hg ha hx m1 (yqV s n p)⟩
    show m∈(yN s n p).ns.map (·.1)
    rw[m1,List.map_append]
    rcases List.mem_append.1 hm with q | q
    ·exact List.mem_append_left _ (hk m q)
    ·rw[List.mem_singleton] at q;rw[q];simp
  ·subst h
   obtain rfl:=hbd (by decide);rw[ydu,if_neg (by decide)];rw[if_neg (by decide)] at hrf;rw[yhI];obtain⟨q1,q2⟩:=ygc (p:=p) r s (fun x hx=>hk _ (hrf x hx));have e1:(yaL s r a p).ns=s.ns:=by unfold yaL;split <;> exact q1
   have e2:(yaL s r a p).cs=s.cs:=by unfold yaL;split <;> exact q2
   exact⟨fun m hm=>by rw[e1];exact hk m hm,Run.same e1 e2⟩
  ·subst h
   obtain rfl:=hbd (by decide);rw[ydu,if_neg (by decide),ylr];exact⟨hk,Run.same rfl rfl⟩
  ·subst h
   obtain rfl:=hbd (by decide);rw[ydu,if_neg (by decide),yjs];exact⟨hk,Run.same rfl rfl⟩
  ·subst h
   rw[if_neg (by decide)] at hd |-;rw[yjt] at he hx hc |-
   split at he
   ·exact absurd (show (6:Int)=0 from he) (by decide)
   rename_i hnc
   rw[if_neg hnc] at hx hc |-;have hgr:Grow s.cs.length ⟨s.ns,s.ats,s.cs++[(n,p.cl)],s.en,s.e⟩ (yX b ⟨s.cs.length,p.dn,p.de⟩ ⟨s.ns,s.ats,s.cs++[(n,p.cl)],s.en,s.e⟩):=yep.2 b ⟨s.cs.length,p.dn,p.de⟩ ⟨s.ns,s.ats,s.cs++[(n,p.cl)],s.en,s.e⟩;have hlen:=hgr.len;have hhi:=ha.hi
   obtain⟨q1,q2⟩:=hb ⟨s.cs.length,p.dn,p.de⟩ ⟨s.ns,s.ats,s.cs++[(n,p.cl)],s.en,s.e⟩ N (lv+1) (fun y hy=>hv y (List.mem_cons_of_mem _ (by simpa using hy))) he hd hk
    ⟨by show (-1:Int)<=(s.cs.length:Int);omega,by show (s.cs.length:Int)<((s.cs++[(n,p.cl)]).length:Int);simp;omega,fun x hx=>by
     have:=ha.ns x hx
     show x.2<((s.cs++[(n,p.cl)]).length:Int)
     rw[List.length_append];simp;omega⟩ hx
    ⟨fun i y hi hy=>(hc.1 i y hi hy).imp (fun q=>by show y.cl<=(s.cs.length:Int);omega) id,fun i y hi hy=>(hc.2 i y hi hy).imp (fun q=>by show y.2<=(s.cs.length:Int);omega) id⟩
   exact⟨q1,yrf (s1:=⟨s.ns,s.ats,s.cs++[(n,p.cl)],s.en,s.e⟩) hg ha rfl rfl hgr hx hc q2⟩
 ·rw[ydu,ybc]
  exact⟨hk,Run.same rfl rfl⟩
 ·have h0:=ysM _ _ _ he
  rw[yH] at hv;rw[ycs] at hd |-
  split at hd
  ·rename_i hf;rw[hf] at hd;exact absurd hd (by decide)
  rename_i hdx
  rw[if_neg hdx];rw[yaR,if_neg (by simp[h0])] at he hxt hc |-
  split at he
  ·rename_i hne;exact absurd he hne
  rename_i hne
  rw[if_neg hne] at hxt hc |-
  have hgt:Grow p.cl (ya9 x p s) (yX t (dflt x.kind x.name x.attrs p) (ya9 x p s)):=by
   have q:=yep.2 t (dflt x.kind x.name x.attrs p) (ya9 x p s);rw[yde] at q;exact q
  have hgx:=yep.1 x p s;obtain⟨q1,q2⟩:=hx p s N lv (fun y hy=>hv y (List.mem_append_left _ hy)) (ysM _ _ _ he) (by simpa using hdx) hk ha (hxt.back hgt) (hc.back hxt hgt);obtain⟨r1,r2⟩:=ht (dflt x.kind x.name x.attrs p) (ya9 x p s) (ykM x N).1 lv (fun y hy=>hv y (List.mem_append_right _ hy)) he hd q1 (by rw[yde];exact ha.grow hgx) hxt (by rw[yde];exact hc);rw[yde] at r2;exact⟨r1,q2.trans r2⟩
theorem yiR {T:Tr}{g:gra.Gr}(hb:yb2 T=(g,0))(hd:(ycs T.body []).2=true)(hm:∀ k,k<g.cs.length->gra.mems g k≠[])(hw:gra.Wf g.cs):(ybI g).2=(g.ns.length,g.cs.length):=by
 unfold yb2 at hb
 split at hb
 ·rename_i h;exact absurd (Prod.mk.inj hb).2 h
 rename_i h1
 split at hb
 ·rename_i h;exact absurd (Prod.mk.inj hb).2 h
 rename_i h2
 split at hb
 ·exact absurd (Prod.mk.inj hb).2 (by decide)
 split at hb
 ·rename_i h;exact absurd (Prod.mk.inj hb).2 h
 have hge:=(Prod.mk.inj hb).1;have hv:∀ y∈ybt T.body 0,ybs y.1 y.2=0:=((yaO T).1 (by simpa using h1)).2.2
 have he:(yX T.body pl0 st0).e=0:=by simpa using h2
 have hgr:Grow (-1) st0 (yX T.body pl0 st0):=yep.2 T.body pl0 st0;have hat:At (-1) st0:=⟨by omega,by show (-1:Int)<((([]:List nor.Cl).length:Nat):Int);simp,fun a ha=>(by cases ha)⟩
 have hl:(yX T.body pl0 st0).ns.length=(yX T.body pl0 st0).ats.length:=by
  obtain⟨-,-,-,-,-,-,q⟩:=hgr;exact q rfl
 have hrow:ysG g=(yX T.body pl0 st0).ns:=by
  unfold ysG;rw[<- hge];unfold yeS;simp only;refine List.ext_getElem? fun i=>?_
  rw[List.getElem?_map,List.getElem?_zipWith]
  cases q:(yX T.body pl0 st0).ns[i]? with
  | none=>rfl
  | some x =>
   have hi:i<(yX T.body pl0 st0).ns.length:=by
    rcases Nat.lt_or_ge i (yX T.body pl0 st0).ns.length with r | r
    ·exact r
    ·rw[List.getElem?_eq_none r] at q;cases q
   rw[List.getElem?_eq_getElem (l:=(yX T.body pl0 st0).ats) (by omega)];rfl
 have hcs:g.cs=(yX T.body pl0 st0).cs:=by rw[<- hge];rfl
 have hns:g.ns.length=(yX T.body pl0 st0).ns.length:=by rw[<- hrow];unfold ysG;rw[List.length_map]
 have hext:Ext g (yX T.body pl0 st0):=⟨by rw[hrow];exact List.prefix_refl _,by rw[hcs];exact List.prefix_refl _⟩
 have hctx:Ctx g (-1) (yX T.body pl0 st0).ns.length (yX T.body pl0 st0).cs.length:=by
  rw[<- hns,<- hcs];refine⟨fun i y hi hy=>?_,fun i x hi hx=>?_⟩
  ·rw[List.getElem?_eq_none hi] at hy;cases hy
  ·rw[List.getElem?_eq_none hi] at hx;cases hx
 obtain⟨-,hr⟩:=(runs ⟨hw,hm⟩).2 T.body pl0 st0 [] 0 hv he hd (fun m h=>by cases h) hat hext hctx;obtain⟨f',q1,q2⟩:=hr (g.ns.length+g.cs.length+1) (by unfold fl;show g.ns.length-0+(g.cs.length-0)+1<=_;omega);rw[<- hns,<- hcs] at q2;unfold fl at q1;obtain⟨f,rfl⟩:∃ f,f'=f+1:=⟨f'-1,by omega⟩
 have q3:(ybI g).2=(yR g (f+1) (-1) g.ns.length g.cs.length).2:=q2;rw[q3];refine yjI (fun x hx=>?_) (fun y hy=>?_)
 ·rw[List.getElem?_eq_none (Nat.le_refl _)] at hx;cases hx
 ·rw[List.getElem?_eq_none (Nat.le_refl _)] at hy;cases hy
theorem wf_of {g:gra.Gr}(h:gra.validE g=0):gra.Wf g.cs:=by
 unfold gra.validE at h
 split at h
 ·exact absurd h (by decide)
 split at h
 ·exact absurd h (by decide)
 split at h
 ·rename_i hn;exact absurd h hn
 split at h
 ·rename_i hc;exact absurd h hc
 rename_i hc
 have hc':=gra.firstE_ok (f:=gra.clusterE g) (l:=g.cs) (pre:=[]) (by simpa using hc);intro i x hx;have h:=hc' i x hx;rw[List.nil_append] at h
 have hi:i<g.cs.length:=by
  rcases Nat.lt_or_ge i g.cs.length with q | q
  ·exact q
  ·rw[List.getElem?_eq_none q] at hx;cases hx
 unfold gra.clusterE at h
 split at h
 ·exact absurd h (by decide)
 split at h
 ·exact absurd h (by decide)
 split at h
 ·exact absurd h (by decide)
 split at h
 ·exact absurd h (by decide)
 rename_i k4
 rw[List.length_take] at k4;omega
theorem yrg {c:UInt8}(h:yqh c=true):yar c=true:=by
 simp only[yqh,ycP,ybA,ycx,yar,decide_eq_true_eq,Bool.or_eq_true] at *;omega
theorem yd9 (n:Int):(yJ n).all yar=true:=by
 obtain⟨c,t,hc,ht,e⟩:=ynQ n;have h1:yar c=true:=yrg (by unfold yqh ycP;rw[hc];simp)
 have h2:t.all yar=true:=by
  rw[List.all_eq_true] at ht |-;exact fun x hx=>yrg (ht x hx)
 rcases e with e | e
 ·rw[e,List.all_cons,h1,h2];rfl
 ·rw[e,List.all_cons,List.all_cons,h1,h2];rfl
theorem ylQ {p:gra.Pt}(h:PtV p):(ya7 p).all yar=true:=by
 rw[List.all_eq_true];intro c hc
 rcases List.mem_append.1 hc with q | q
 ·exact yrg (by unfold yqh;rw[(ynT h.1).2 c q];rfl)
 ·rcases List.mem_cons.1 q with rfl | q
  ·decide
  ·exact List.all_eq_true.1 (yeV h.2.1 h.2.2).2.2.2 c q
theorem yh1:∀ {ps:List gra.Pt},(∀ p∈ps,PtV p)->(yT ps).all yar=true
 | [],_=>by rw[yT];rfl
 | [p],h=>by rw[yT];exact ylQ (h p (List.mem_cons_self ..))
 | p::q::t,h=>by
  have ih:=yh1 (ps:=q::t) (fun x hx=>h x (List.mem_cons_of_mem _ hx));rw[yT,List.all_append,ylQ (h p (List.mem_cons_self ..)),List.all_cons,List.all_cons,ih]
  decide
def yqu (s:St):Prop:=∀ lv,ybs s lv=0\/ybs s lv=2
theorem yh2 (k:Int):∀ (l done:List Pr),(∀ a∈l,(k=4\/yK a.1=true)/\a.2.all yar=true)->((done++l).map (·.1)).Nodup->yc6 k done l=0\/yc6 k done l=2
 | [],done,_,_=>Or.inl (by rw[yc6])
 | a::t,done,h,hd=>by
  obtain⟨h1,h2⟩:=h a (List.mem_cons_self ..)
  have hn:done.any (fun x=>decide (x.1=a.1))=false:=by
   rw[List.any_eq_false];intro q hq;rw[List.map_append,List.nodup_append] at hd
   simpa using hd.2.2 q.1 (List.mem_map_of_mem hq) a.1 (List.mem_map_of_mem (List.mem_cons_self ..))
  rw[yc6,if_neg (fun q=>by
   rcases h1 with r | r
   ·exact q.1 r
   ·rw[r] at q;exact absurd q.2 (by decide)),if_neg (by rw[hn];decide)]
  by_cases h3:32<a.2.length
  ·rw[if_pos h3];exact Or.inr rfl
  ·rw[if_neg h3,if_neg (by rw[h2];decide)]
   exact yh2 k t (done++[a]) (fun x hx=>h x (List.mem_cons_of_mem _ hx)) (by rw[List.append_assoc];exact hd)
theorem ygX {k:Int}{n:Nm}{r a:List Pr}{b:List St}(hf:ydL (.mk k n r a b)=0)(hn:k≠2->k≠3->yK n=true)(hr:∀ x∈r,ydj x=true)(ha:∀ x∈a,(k=4\/yK x.1=true)/\x.2.all yar=true)(hd:(a.map (·.1)).Nodup):yqu (.mk k n r a b):=fun lv=>by
 unfold ybs;rw[if_neg (by simp[hf])]
 split
 ·exact Or.inr rfl
 split
 ·rename_i q
  rw[show (St.mk k n r a b).name=n from rfl,hn q.1 q.2.1] at q;exact absurd q.2.2 (by decide)
 split
 ·rename_i q
  rw[show (St.mk k n r a b).refs=r from rfl,List.all_eq_true.2 hr] at q;exact absurd q (by decide)
 unfold yjh
 split
 ·exact Or.inr rfl
 ·exact yh2 k a [] ha hd
theorem yoh {k v:List UInt8}(hk:yK k=true)(hv:v.all yar=true):yqu (yfL k v) :=
 ygX rfl (fun _ _=>hk) (fun x hx=>by cases hx) (fun x hx=>by rw[List.mem_singleton] at hx;subst hx;exact⟨Or.inl rfl,hv⟩) (by simp)
theorem yfd:yK yQ=true/\yK yE=true/\yK yY=true/\yK yao=true/\yK yej=true/\yK yV=true:=by decide
theorem ylR {x:gra.Nd}(h:NdV x):yqu (ybp x):=by
 refine ygX rfl (fun _ _=>h.nm) (fun x hx=>by cases hx) (fun a ha=>?_) (ydr (yhQ x))
 rcases List.mem_append.1 ha with q | q
 ·rw[(yM q).1];exact⟨Or.inr yfd.1,yd9 _⟩
 rcases List.mem_append.1 q with q | q
 ·rw[(yM q).1];exact⟨Or.inr yfd.2.1,h.pl⟩
 rcases List.mem_append.1 q with q | q
 ·obtain⟨e,hn⟩:=yM q
  rw[e];exact⟨Or.inr yfd.2.2.1,yh1 h.pv⟩
 ·rw[(yM q).1];exact⟨Or.inr yfd.2.2.2.1,yd9 _⟩
theorem yjJ {x:gra.Nd}(h:NdV x){p:Int}(h1:p<x.ps.length):ydj (yd7 x p)=true:=by
 unfold ydj yd7;simp only;rw[h.nm,Bool.true_and]
 by_cases hp:p<0
 ·rw[if_pos hp];rfl
 ·rw[if_neg hp,List.getD_eq_getElem?_getD,List.getElem?_eq_getElem (show p.toNat<x.ps.length by omega)]
  rw[show ((some x.ps[p.toNat]).getD ([],0))=x.ps[p.toNat] from rfl,(h.pv _ (List.getElem_mem _)).1,Bool.or_true]
theorem ylS {g:gra.Gr}(hg:GV g){e:gra.Ed}(he:e∈g.es):yqu (ya8 g.ns e):=by
 obtain⟨a0,a1,b0,b1,p0,p1,q0,q1⟩:=hg.ef e he;refine ygX rfl (fun h _=>absurd rfl h) (fun x hx=>?_) (fun a ha=>?_) (ydr (yhR e))
 ·rcases List.mem_cons.1 hx with rfl | hx
  ·exact yjJ (hg.nd _ (ydt a0 a1)) p1
  ·rw[List.mem_singleton] at hx;subst hx
   exact yjJ (hg.nd _ (ydt b0 b1)) q1
 ·rcases List.mem_append.1 ha with q | q
  ·rw[(yM q).1];exact⟨Or.inr yfd.2.1,(hg.ev e he).pl⟩
  rcases List.mem_append.1 q with q | q
  ·rw[(yM q).1];exact⟨Or.inr yfd.2.2.2.2.1,yd9 _⟩
  ·rw[(yM q).1];exact⟨Or.inr yfd.2.2.2.2.2,yd9 _⟩
def GoodL (l:List St):Prop:=∀ lv,∀ y∈ybt l lv,yqu y.1
theorem GoodL.nil:GoodL []:=fun lv y hy=>by rw[yef] at hy;cases hy
theorem GoodL.cons {x:St}{t:List St}(h:yqu x)(hb:GoodL x.body)(ht:GoodL t):GoodL (x::t):=fun lv y hy=>by
 rw[yH,y6] at hy
 rcases List.mem_append.1 hy with q | q
 ·rcases List.mem_cons.1 q with rfl | q
  ·exact h
  ·exact hb _ y q
 ·exact ht lv y q
theorem GoodL.app {a b:List St}(ha:GoodL a)(hb:GoodL b):GoodL (a++b):=fun lv y hy=>by
 rw[yba] at hy
 rcases List.mem_append.1 hy with q | q
 ·exact ha lv y q
 ·exact hb lv y q
theorem yfe {P:Prop}[Decidable P]{k v:List UInt8}(hk:yK k=true)(hv:¬ P->v.all yar=true):GoodL (if P then [] else [yfL k v]):=by
 by_cases h:P
 ·rw[if_pos h];exact GoodL.nil
 ·rw[if_neg h];exact(GoodL.cons (yoh hk (hv h)) GoodL.nil GoodL.nil)
theorem yrh {m:Int}(h0:0<=m)(h4:m<=4):(ya6.getD m.toNat []).all yar=true:=by
 have h:m=0\/m=1\/m=2\/m=3\/m=4:=by omega
 rcases h with rfl | rfl | rfl | rfl | rfl <;> decide
theorem ylT {o:Op'}(h:OpV o):GoodL (yfF o):=by
 unfold yfF;exact(yfe (by decide) fun _=>yrh h.md.1 h.md.2).app ((yfe (by decide) fun _=>yd9 _).app ((yfe (by decide) fun _=>yd9 _).app ((yfe (by decide) fun _=>yd9 _).app (yfe (by decide) fun _=>yd9 _))))
theorem ygd {g:gra.Gr}(hg:GV g):∀ t:List gra.Ed,(∀ e∈t,e∈g.es)->GoodL (t.map (ya8 g.ns))
 | [],_=>GoodL.nil
 | e::t,h=>GoodL.cons (ylS hg (h e (List.mem_cons_self ..))) GoodL.nil (ygd hg t fun x hx=>h x (List.mem_cons_of_mem _ hx))
theorem yoi {n:Nm}(h:yK n=true)(b:List St):yqu (.mk 5 n [] [] b) :=
 ygX (by unfold ydL;simp[St.kind,St.name,St.refs,St.attrs,St.body]) (fun _ _=>h) (fun x hx=>by cases hx) (fun x hx=>by cases hx) (by simp)
theorem yeq {g:gra.Gr}(hg:GV g):∀ (f:Nat) (c:Int) (n k:Nat),GoodL (yR g f c n k).1
 | 0,c,n,k=>by rw[yR];exact GoodL.nil
 | f+1,c,n,k=>by
  have nd:∀ y:gra.Nd,g.ns[n]?=some y->GoodL (ybp y::(yR g f c (n+1) k).1):=fun y hy =>
   GoodL.cons (ylR (hg.nd y (List.mem_of_getElem? hy))) GoodL.nil (yeq hg f c (n+1) k)
  rw[yR]
  cases h1:g.cs[k]? with
  | none =>
   cases h2:g.ns[n]? with
   | none=>exact GoodL.nil
   | some y =>
    simp only
    split
    ·exact nd y h2
    ·exact GoodL.nil
  | some x =>
   simp only
   split
   ·exact GoodL.cons (yoi (hg.cm x (List.mem_of_getElem? h1)) _) (yeq hg f k n (k+1)) (yeq hg f c _ _)
   ·cases h2:g.ns[n]? with
    | none=>exact GoodL.nil
    | some y =>
     simp only
     split
     ·exact nd y h2
     ·exact GoodL.nil
theorem yge:∀ (l:List (St × Int)),(∀ y∈l,yqu y.1)->tre.firstE l=0\/tre.firstE l=2
 | [],_=>Or.inl (by rw[tre.firstE])
 | x::t,h=>by
  rw[tre.firstE]
  split
  ·exact h x (List.mem_cons_self ..) x.2
  ·exact yge t fun y hy=>h y (List.mem_cons_of_mem _ hy)
theorem ykN {g:gra.Gr}{o:Op'}(hg:GV g)(ho:OpV o):yab (yZ g o)=0\/yab (yZ g o)=2:=by
 unfold yab;rw[show (yZ g o).name=g.nm from rfl,hg.nm,if_neg (by decide)]
 split
 ·exact Or.inr rfl
 ·refine yge _ fun y hy=>?_
  have q:GoodL (yfF o++((ybI g).1++g.es.map (ya8 g.ns))):=(ylT ho).app ((yeq hg _ _ _ _).app (ygd hg _ fun e he=>he));exact q 0 y hy
theorem yee {T:Tr}{g:gra.Gr}{o:Op'}(hb:yb2 T=(g,0))(hd:(ycs T.body []).2=true)(hm:∀ k,k<g.cs.length->gra.mems g k≠[])(ho:okO o=true):ybK g o=(emT,2)\/ybK g o=(yZ g o,0):=by
 have hv:gra.validE g=0:=by
  unfold yb2 at hb
  split at hb
  ·rename_i h;exact absurd (Prod.mk.inj hb).2 h
  split at hb
  ·rename_i h;exact absurd (Prod.mk.inj hb).2 h
  split at hb
  ·exact absurd (Prod.mk.inj hb).2 (by decide)
  split at hb
  ·rename_i h;exact absurd (Prod.mk.inj hb).2 h
  rename_i h
  rw[<- (Prod.mk.inj hb).1]
  simpa using h
 have hw:=yiR hb hd hm (wf_of hv);have h1:(ybI g).2.1=g.ns.length:=by rw[hw]
 have h2:(ybI g).2.2=g.cs.length:=by rw[hw]
 unfold ybK;rw[if_neg (by simp[hv,ho]),if_neg (by omega)]
 rcases ykN (ykK hv) (ylO ho) with q | q
 ·rw[if_neg (by simp[q])];exact Or.inr rfl
 ·rw[if_pos (by rw[q];decide),q];exact Or.inl rfl
end Go.Proofs.YtgmidodmmlmmeaaGreatDoor.xpt
