/-
  Contracts and plain facts of the layers below; conditions as each theorem states them.
-/
import Derived.Test.YtgmidodmmlmmeaaGreatDoorMna
import Derived.Test.YtgmidodmmlmmeaaGreatDoorMga
set_option maxHeartbeats 2000000
set_option maxRecDepth 100000
namespace Go.Proofs.YtgmidodmmlmmeaaGreatDoor.xpt
open lex tre att nor
def yeU (n:Int):List UInt8:=yeN.getD n.toNat []
def ya7 (p:gra.Pt):List UInt8:=p.1++32::yeU p.2
def yT:List gra.Pt->List UInt8
 | []=>[]
 | [p]=>ya7 p
 | p::q::t=>ya7 p++44::32::yT (q::t)
def ybd (x:gra.Nd):List Pr :=
 (if x.h=10000 then [] else [(yQ,yJ x.h)])++((if x.lb=x.nm then [] else [(yE,x.lb)])++((if x.ps=[] then [] else [(yY,yT x.ps)])++(if x.w=20000 then [] else [(yao,yJ x.w)])))
def ybp (x:gra.Nd):St:=.mk 1 x.nm [] (ybd x) []
def ndAt (ns:List gra.Nd)(v:Int):gra.Nd:=ns.getD v.toNat ⟨[],[],0,0,0,[]⟩
def yd7 (x:gra.Nd)(p:Int):Pr:=(x.nm,if p<0 then [] else (x.ps.getD p.toNat ([],0)).1)
def ybC (e:gra.Ed):List Pr :=
 (if e.lb=[] then [] else [(yE,e.lb)])++((if e.ln=1 then [] else [(yej,yJ (1000*e.ln))])++(if e.wt=1 then [] else [(yV,yJ (1000*e.wt))]))
def ya8 (ns:List gra.Nd)(e:gra.Ed):St:=.mk 2 [] [yd7 (ndAt ns e.fr) e.fp,yd7 (ndAt ns e.to) e.tp] (ybC e) []
def inC (g:gra.Gr)(n k:Nat):Bool:=(gra.mems g k).contains n||(gra.mems g k).isEmpty
def yR (g:gra.Gr):Nat->Int->Nat->Nat->List St × Nat × Nat
 | 0,_,n,k=>([],n,k)
 | f+1,c,n,k =>
  match g.cs[k]? with
  | some x =>
   if x.2=c/\inC g n k=true then
    (.mk 5 x.1 [] [] (yR g f k n (k+1)).1::(yR g f c (yR g f k n (k+1)).2.1 (yR g f k n (k+1)).2.2).1,(yR g f c (yR g f k n (k+1)).2.1 (yR g f k n (k+1)).2.2).2)
   else match g.ns[n]? with
    | some y=>if y.cl=c then (ybp y::(yR g f c (n+1) k).1,(yR g f c (n+1) k).2) else ([],n,k)
    | none=>([],n,k)
  | none=>match g.ns[n]? with
      | some y=>if y.cl=c then (ybp y::(yR g f c (n+1) k).1,(yR g f c (n+1) k).2) else ([],n,k)
      | none=>([],n,k)
def yfL (k v:List UInt8):St:=.mk 4 k [] [([],v)] []
def yfF (o:Op'):List St :=
 (if o.mode=0 then [] else [yfL ycv (ya6.getD o.mode.toNat [])])++((if o.ns=10000 then [] else [yfL yam (yJ o.ns)])++((if o.rs=20000 then [] else [yfL yan (yJ o.rs)])++((if o.mg=5000 then [] else [yfL yaM (yJ o.mg)])++(if o.rd=8 then [] else [yfL yaN (yJ (1000*o.rd))]))))
def ybI (g:gra.Gr):List St × Nat × Nat:=yR g (g.ns.length+g.cs.length+1) (-1) 0 0
def yZ (g:gra.Gr)(o:Op'):Tr:=⟨g.nm,g.dir,yfF o++((ybI g).1++g.es.map (ya8 g.ns))⟩
def emT:Tr:=⟨[],false,[]⟩
def ybK (g:gra.Gr)(o:Op'):Tr × Int :=
 if gra.validE g≠0\/okO o=false then (emT,1)
 else if (ybI g).2.1<g.ns.length\/(ybI g).2.2<g.cs.length then (emT,1)
 else if yab (yZ g o)≠0 then (emT,yab (yZ g o))
 else (yZ g o,0)
theorem ynT {l:List UInt8}(h:yK l=true):l≠[]/\∀ c∈l,ycP c=true:=by
 unfold yK at h;simp only[Bool.and_eq_true,Bool.not_eq_true',decide_eq_true_eq] at h;obtain⟨⟨⟨h1,h2⟩,-⟩,-⟩:=h
 cases l with
 | nil=>simp at h1
 | cons c t =>
  refine⟨by simp,?_⟩;rw[ybn] at h2
  by_cases hc:ybA c=true
  ·rw[if_pos hc,List.length_cons] at h2
   have h3:t.takeWhile ycP=t:=(List.takeWhile_prefix ycP).eq_of_length (by omega);intro d hd
   rcases List.mem_cons.1 hd with rfl | hd
   ·unfold ycP;rw[hc];rfl
   ·rw[<- h3] at hd
    exact List.all_eq_true.1 List.all_takeWhile d hd
  ·rw[if_neg hc,List.length_cons] at h2;omega
theorem yqn {c:UInt8}(h:ycP c=true):c≠44/\c≠32:=by
 refine⟨fun e=>?_,fun e=>?_⟩
 ·subst e;exact absurd h (by decide)
 ·subst e;exact absurd h (by decide)
theorem yeV {n:Int}(h0:0<=n)(h3:n<=3):(∀ c∈yeU n,c≠44)/\ygG (yeU n)=n/\yeU n≠[]/\(yeU n).all yar=true:=by
 have h:n=0\/n=1\/n=2\/n=3:=by omega
 rcases h with rfl | rfl | rfl | rfl <;> decide
theorem yhK:∀ (s c:List UInt8),(∀ x∈s,x≠44)->yal c s=[c++s]
 | [],c,_=>by rw[yal,List.append_nil]
 | [x],c,_=>by rw[yal]
 | x::y::t,c,h=>by
  rw[yal,if_neg (fun e=>h x (List.mem_cons_self ..) e.1),yhK (y::t) (c++[x]) (fun z hz=>h z (List.mem_cons_of_mem _ hz)),List.append_assoc];rfl
theorem yfZ (r:List UInt8):∀ (s c:List UInt8),(∀ x∈s,x≠44)->yal c (s++44::32::r)=(c++s)::yal [] r
 | [],c,_=>by rw[List.nil_append,yal,if_pos ⟨rfl,rfl⟩,List.append_nil]
 | [x],c,h=>by
  rw[List.singleton_append,yal,if_neg (fun e=>h x (List.mem_cons_self ..) e.1),yal,if_pos ⟨rfl,rfl⟩]
 | x::y::t,c,h=>by
  rw[List.cons_append,List.cons_append,yal,if_neg (fun e=>h x (List.mem_cons_self ..) e.1),<- List.cons_append,yfZ r (y::t) (c++[x]) (fun z hz=>h z (List.mem_cons_of_mem _ hz)),List.append_assoc];rfl
def PtV (p:gra.Pt):Prop:=yK p.1=true/\0<=p.2/\p.2<=3
theorem yju {p:gra.Pt}(h:PtV p):∀ c∈ya7 p,c≠44:=fun c hc=>by
 rcases List.mem_append.1 hc with q | q
 ·exact(yqn ((ynT h.1).2 c q)).1
 ·rcases List.mem_cons.1 q with rfl | q
  ·decide
  ·exact(yeV h.2.1 h.2.2).1 c q
theorem yls {p:gra.Pt}(h:PtV p):ybB (ya7 p)=(0,p.1,p.2):=by
 have ht:(ya7 p).takeWhile (·≠32)=p.1:=by
  unfold ya7;rw[List.takeWhile_append_of_pos (fun c hc=>by simpa using (yqn ((ynT h.1).2 c hc)).2)];simp
 have hg:yql (ya7 p)=some (p.1,yeU p.2):=by
  unfold yql;rw[ht];have hl:p.1.length<(ya7 p).length:=by unfold ya7;simp
  rw[if_pos hl]
  congr 2
  unfold ya7;rw[List.drop_append];simp
 unfold ybB;rw[hg];have hs:=(yeV h.2.1 h.2.2).2.1;simp only[hs];rw[if_neg (Int.not_lt.2 h.2.1),if_neg (by rw[h.1];decide)]
theorem yeW:∀ (ps:List gra.Pt),ps≠[]->(∀ p∈ps,PtV p)->yeO (yT ps)=ps.map ya7
 | [],h,_=>absurd rfl h
 | [p],_,h=>by
  unfold yeO;rw[yT,yhK _ _ (yju (h p (List.mem_cons_self ..)))];rfl
 | p::q::t,_,h=>by
  have ih:=yeW (q::t) (by simp) (fun x hx=>h x (List.mem_cons_of_mem _ hx));unfold yeO at ih |-;rw[yT,yfZ _ _ _ (yju (h p (List.mem_cons_self ..))),ih];rfl
theorem yf0:∀ (t out:List gra.Pt),(∀ p∈t,PtV p)->((out++t).map (·.1)).Nodup->(out++t).length<=8->ybM (t.map ya7) out=(out++t,0)
 | [],out,_,_,_=>by rw[List.map_nil,ybM,List.append_nil]
 | p::t,out,h,hd,hl=>by
  have hp:=yls (h p (List.mem_cons_self ..))
  have hn:out.any (fun q=>decide (q.1=p.1))=false:=by
   rw[List.any_eq_false];intro q hq;rw[List.map_append,List.nodup_append] at hd
   simpa using hd.2.2 q.1 (List.mem_map_of_mem hq) p.1 (List.mem_map_of_mem (List.mem_cons_self ..))
  rw[List.map_cons,ybM,hp];simp only;rw[if_neg (by decide),if_neg (by rw[hn];decide),if_neg (by rw[List.length_append,List.length_cons] at hl;omega)];have e:out++p::t=(out++[(p.1,p.2)])++t:=by rw[List.append_assoc];rfl
  rw[yf0 t (out++[(p.1,p.2)]) (fun q hq=>h q (List.mem_cons_of_mem _ hq)) (by rw[<- e];exact hd) (by rw[<- e];exact hl),<- e]
theorem yjv:∀ {ps:List gra.Pt},ps≠[]->yT ps≠[]
 | [],h=>absurd rfl h
 | [p],_=>by rw[yT];unfold ya7;simp
 | p::q::t,_=>by rw[yT];unfold ya7;simp
theorem yf1 {ps:List gra.Pt}(h0:ps≠[])(h:∀ p∈ps,PtV p)(hd:(ps.map (·.1)).Nodup)(hl:ps.length<=8):yaQ (yT ps)=(ps,0):=by
 unfold yaQ;rw[if_neg (yjv h0),yeW ps h0 h,yf0 ps [] h hd hl,List.nil_append]
end Go.Proofs.YtgmidodmmlmmeaaGreatDoor.xpt
namespace Go.Proofs.YtgmidodmmlmmeaaGreatDoor.xpt
open Go.RowKit lex tre att _root_.Go.Proofs.Tryz
def blk (W:World)(g:Nat)(t:TypeId)(arr:Array Value):Prop:=W.heap[g]?=some (.cells arr t (0,0))
theorem yd {W:World}{g o:Nat}{t:TypeId}{arr:Array Value}(h:blk W g t arr):W.cell? ⟨g,o,none⟩=arr[o]?:=by
 unfold blk at h;simp[World.cell?,h]
theorem yk {W:World}{g o:Nat}{t:TypeId}{arr:Array Value}(h:blk W g t arr):W.frozen? ⟨g,o,none⟩=false:=by
 unfold blk at h;simp[World.frozen?,h]
theorem yP {W:World}{g:Nat}{t:TypeId}{arr:Array Value}(h:blk W g t arr):g<W.heap.size:=by
 rcases Nat.lt_or_ge g W.heap.size with q | q
 ·exact q
 ·unfold blk at h;rw[Array.getElem?_eq_none (by omega)] at h;cases h
theorem yg {W:World}{g o:Nat}{t:TypeId}{arr:Array Value}(h:blk W g t arr)(u:Value):blk (W.setCell ⟨g,o,none⟩ u) g t (arr.setIfInBounds o u):=by
 unfold blk at h |-;unfold World.setCell;rw[Array.getElem?_modify,if_pos rfl,h];rfl
theorem yl (w:World)(c:Array Value)(t:TypeId):blk (w.alloc (.cells c t)) w.heap.size t c:=heap_alloc_new w _
theorem yel {X:Type}(f:X->List Value)(k:Nat)(hk:∀ x,(f x).length=k)(l:List X):(l.flatMap f).length=l.length*k:=by
 induction l with
 | nil=>simp
 | cons x t ih=>rw[List.flatMap_cons,List.length_append,ih,hk,List.length_cons,Nat.add_mul];omega
theorem yac {X:Type}(f:X->List Value)(k:Nat)(hk:∀ x,(f x).length=k):∀ (l:List X) (i j:Nat) (h:i<l.length),j<k->(l.flatMap f)[i*k+j]?=(f l[i])[j]?:=by
 intro l
 induction l with
 | nil=>intro i j h;simp at h
 | cons x t ih =>
  intro i j h hj;rw[List.flatMap_cons]
  cases i with
  | zero=>rw[Nat.zero_mul,Nat.zero_add,List.getElem?_append_left (by rw[hk];exact hj)];rfl
  | succ i =>
   rw[List.getElem?_append_right (by rw[hk,Nat.add_mul];omega),hk,show (i+1)*k+j-k=i*k+j by rw[Nat.add_mul];omega];exact ih i j (by simpa using h) hj
theorem yaE {w:World}{B s n:Nat}{t:TypeId}{v:Value}{xs:List Value}(h:w.ownsRow B t s v n xs)(hn:0<n):∃ g cap arr,v=.slice (some ⟨g,0,none⟩) n cap/\B<=g/\blk w g t arr/\n<=cap/\cap<=maxLen/\∀ j,j<n*s->arr[j]?=xs[j]?:=by
 rcases h.2 with ⟨_,rfl⟩ | ⟨g,cap,cur,rfl,hB,hk,h1,h2,h3,h4⟩
 ·omega
 ·refine⟨g,cap,cur,rfl,hB,hk,h1,h2,fun j hj=>?_⟩
  rw[<- h4,List.getElem?_take_of_lt hj,Array.getElem?_toList]
theorem ygN:(Tryz.prog.info? 69).map (fun i=>(i.zero,i.size,i.bytes))=some (some (.agg #[.string ⟨#[]⟩,.string ⟨#[]⟩]),2,32):=by kernel_rfl
theorem yaj:∃ i,Tryz.prog.info? 69=some i/\i.zero=some (.agg #[.string ⟨#[]⟩,.string ⟨#[]⟩])/\i.size=2/\i.bytes=32:=by
 have h:=ygN
 cases hq:Tryz.prog.info? 69 with
 | none=>rw[hq] at h;cases h
 | some i =>
  rw[hq] at h;simp only[Option.map_some,Option.some.injEq,Prod.mk.injEq] at h;exact⟨i,rfl,h.1,h.2.1,h.2.2⟩
theorem ynY:(Tryz.prog.info? 67).map (fun i=>(i.zero,i.size,i.bytes))=some (some (.agg #[.int .i64 0,.string ⟨#[]⟩,.slice none 0 0,.slice none 0 0,.slice none 0 0]),5,96):=by kernel_rfl
theorem ycg:∃ i,Tryz.prog.info? 67=some i/\i.zero=some (.agg #[.int .i64 0,.string ⟨#[]⟩,.slice none 0 0,.slice none 0 0,.slice none 0 0])/\i.size=5/\i.bytes=96:=by
 have h:=ynY
 cases hq:Tryz.prog.info? 67 with
 | none=>rw[hq] at h;cases h
 | some i =>
  rw[hq] at h;simp only[Option.map_some,Option.some.injEq,Prod.mk.injEq] at h;exact⟨i,rfl,h.1,h.2.1,h.2.2⟩
structure Sv where
 s:St
 rv:Value
 av:Value
 bv:Value
def svC (x:Sv):List Value:=[.int .i64 x.s.kind,.string (bb x.s.name),x.rv,x.av,x.bv]
def ysP (w:World)(x:Sv):Prop:=x.s.name.length<=maxLen/\Prs w x.rv x.s.refs/\Prs w x.av x.s.attrs/\Sts w x.bv x.s.body
def agree (lo hi:Nat)(w W:World):Prop:=∀ q,lo<=q->q<hi->W.heap[q]?=w.heap[q]?
def selfP (lo:Nat)(w:World)(v:Value)(l:List Pr):Prop:=∀ W,agree lo w.heap.size w W->Prs W v l
def selfL (lo:Nat)(w:World)(v:Value)(l:List St):Prop:=∀ W,agree lo w.heap.size w W->Sts W v l
theorem agree.self (lo hi:Nat)(w:World):agree lo hi w w:=fun _ _ _=>rfl
structure Pk (R:Nat)(w w':World):Prop where
 os:w'.os=w.os
 tape:w'.tape=w.tape
 output:w'.output=w.output
 size:w.heap.size<=w'.heap.size
 block:∀ q,q≠R->q<w.heap.size->w'.heap[q]?=w.heap[q]?
theorem Pk.refl (R:Nat)(w:World):Pk R w w:=⟨rfl,rfl,rfl,Nat.le_refl _,fun _ _ _=>rfl⟩
theorem Pk.trans {R:Nat}{a b c:World}(h:Pk R a b)(k:Pk R b c):Pk R a c :=
 ⟨k.os.trans h.os,k.tape.trans h.tape,k.output.trans h.output,Nat.le_trans h.size k.size,fun q h1 h2=>(k.block q h1 (Nat.lt_of_lt_of_le h2 h.size)).trans (h.block q h1 h2)⟩
theorem Pk.below {R:Nat}{a b:World}(h:Below a.heap.size a b):Pk R a b:=⟨h.os,h.tape,h.output,h.size,fun q _ h2=>h.block q h2⟩
theorem Pk.set (R:Nat)(a:World)(o:Nat)(u:Value):Pk R a (a.setCell ⟨R,o,none⟩ u):=⟨rfl,rfl,rfl,by simp[World.setCell],fun q h1 _=>Below.heap_setCell _ _ _ _ h1⟩
theorem Pk.blk {R:Nat}{a b:World}(h:Pk R a b){g:Nat}{t:TypeId}{arr:Array Value}(hg:g≠R)(k:blk a g t arr):blk b g t arr:=by
 have:=h.block g hg (yP k);unfold xpt.blk at k |-;rw[this];exact k
theorem Pk.own {R:Nat}{a b:World}(h:Pk R a b){B s n:Nat}{t:TypeId}{v:Value}{xs:List Value}(hB:R<B)(k:a.ownsRow B t s v n xs):b.ownsRow B t s v n xs:=by
 obtain⟨h1,h2⟩:=k;refine⟨h1,h2.imp id ?_⟩;rintro⟨g,cap,cur,rfl,hg,hc,h3⟩
 have hlt:g<a.heap.size:=by
  rcases Nat.lt_or_ge g a.heap.size with h | h
  ·exact h
  ·rw[Array.getElem?_eq_none (by omega)] at hc;cases hc
 exact⟨g,cap,cur,rfl,hg,by rw[h.block g (by omega) hlt];exact hc,h3⟩
theorem yu {w:World}{B s n:Nat}{t:TypeId}{v:Value}{xs:List Value}(h:w.ownsRow B t s v n xs):∃ ao cap,v=.slice ao n cap/\n<=cap/\cap<=maxLen:=by
 rcases h.2 with ⟨rfl,rfl⟩ | ⟨g,cap,cur,rfl,_,_,h1,h2,_⟩
 ·exact⟨_,0,rfl,Nat.le_refl _,by decide⟩
 ·exact⟨_,cap,rfl,h1,h2⟩
theorem ye0 {w:World}{B lo:Nat}{t:TypeId}{v:Value}{l:List Pr}(h:w.ownsRow B t 2 v l.length (l.flatMap prC))(hB:lo<=B)(hl:∀ r∈l,r.1.length<=maxLen/\r.2.length<=maxLen):selfP lo w v l:=by
 intro W hW
 by_cases h0:l.length=0
 ·obtain⟨ao,cap,rfl,h1,h2⟩:=yu h
  exact⟨ao,cap,rfl,h1,h2,fun hn=>by omega⟩
 ·obtain⟨g,cap,arr,rfl,hB',hk,h1,h2,h3⟩:=yaE h (by omega)
  have hkW:blk W g t arr:=by unfold blk at hk |-;rw[hW g (by omega) (yP hk)];exact hk
  refine⟨_,cap,rfl,h1,h2,fun _=>⟨_,rfl,fun i hi=>?_⟩⟩;have e0:=yac prC 2 (fun _=>rfl) l i 0 hi (by decide);have e1:=yac prC 2 (fun _=>rfl) l i 1 hi (by decide);obtain⟨p2,p3⟩:=hl l[i] (List.getElem_mem hi);refine⟨?_,?_,p2,p3⟩
  ·rw[gra.add_at,Nat.zero_add,yd hkW,<- Nat.add_zero (i*2),h3 _ (by omega)];exact e0
  ·rw[gra.add_at]
   show W.cell? ⟨g,0+i*2+1,none⟩=_
   rw[Nat.zero_add,yd hkW,h3 _ (by omega)];exact e1
def elS (lo0:Nat)(w:World)(ob:Option Nat)(x:Sv):Prop:=∃ lo hi,lo0<=lo/\hi<=w.heap.size/\(∀ q,ob=some q->¬ (lo<=q/\q<hi))/\∀ W,agree lo hi w W->ysP W x
theorem elS.later {R lo0:Nat}{w w':World}{ob:Option Nat}{x:Sv}(h:elS lo0 w ob x)(hb:Pk R w w')(hR:R<lo0):elS lo0 w' ob x:=by
 obtain⟨lo,hi,h1,h2,h3,h4⟩:=h;refine⟨lo,hi,h1,Nat.le_trans h2 hb.size,h3,fun W hW=>h4 W (fun q q1 q2=>?_)⟩;rw[hW q q1 q2];exact hb.block q (by omega) (by omega)
theorem elS.app {lo0:Nat}{w w':World}{ob:Option Nat}{g:Nat}{x:Sv}(h:elS lo0 w ob x)(hg:w.grownBy w' ob)(hat:ob=some g\/w.heap.size<=g)(hsz:w.heap.size<=w'.heap.size):elS lo0 w' (some g) x:=by
 obtain⟨lo,hi,h1,h2,h3,h4⟩:=h;refine⟨lo,hi,h1,Nat.le_trans h2 hsz,fun q hq e=>?_,fun W hW=>h4 W (fun q q1 q2=>?_)⟩
 ·have hq:=Option.some.inj hq
  rcases hat with hat | hat
  ·exact h3 g hat (by omega)
  ·omega
 ·rw[hW q q1 q2]
  exact hg.block q (by omega) (fun e=>h3 q e.symm ⟨q1,q2⟩)
theorem yiQ (x:Sv):(svC x).length=5:=rfl
theorem ysQ {w:World}{ops:Array Oper}{rest:List Oper}{o:Oper}{a:Act}{Q:Exit->Act->World->Prop}(hg:o.guard=none)(p y:Operand)(ho:o.op=.call { callee:=.builtin .append,args:=#[p,y],argTypes:=#[31,31] })
    (B:Nat) (v:Value) (D:List Sv) (x:Sv) (k:Int) (n:ByteArray) (rv av bv:Value) (ex:svC x=[.int .i64 k,.string n,rv,av,bv]) (H:Nat) (hH:w.heap.size=H) (hs:a.eval p=v) (hx:a.eval y=.slice (some ⟨H,0,none⟩) 1 1) (h:Hid (w.ownsRow B 67 5 v D.length (D.flatMap svC))) (hl:D.length<=1000000) (hB:B<=w.heap.size)
    (h1:rv.oneCell'=true/\av.oneCell'=true/\bv.oneCell'=true)
    (hK:∀ g cap w',w'.ownsRow B 67 5 (.slice (some ⟨g,0,none⟩) (D.length+1) cap) (D++[x]).length ((D++[x]).flatMap svC)->w.grownBy w' v.ownBlock->(v.ownBlock=some g\/w.heap.size<=g)->wpList Tryz.prog ops Q rest (a.put o.dst (.slice (some ⟨g,0,none⟩) (D.length+1) cap)) w'):wpList Tryz.prog ops Q (o::rest) a (w.alloc (.cells #[.int .i64 k,.string n,rv,av,bv] 67)):=by
 subst hH;obtain⟨i0,hi,hz0,hz1,hz2⟩:=ycg;refine wpList_append_lies _ hg p y 31 ho B 67 i0 _ 5 96 underlying31 hi hz0 hz1 hz2 rfl (by decide) v D.length _ hs (World.ownsRow.alloc h.out _) ⟨w.heap.size,0,none⟩ 1 1 [.int .i64 k,.string n,rv,av,bv] hx rfl ?_ (by simp[Value.oneCell'];exact h1) (by decide) (by unfold maxLen;omega) (by omega) (by simp;omega) (w.heap.size+1) (by simp) ?_
 ·intro j u hj
  rw[gra.add_at,Nat.zero_add,yd (yl w #[.int .i64 k,.string n,rv,av,bv] 67),<- hj];simp
 ·intro g cap w' hown hgrow hat _
  refine hK g cap w' ?_ ?_ (hat.imp id (fun e=>by omega))
  ·rw[List.length_append,List.flatMap_append,List.flatMap_cons,List.flatMap_nil,List.append_nil,ex];exact hown
  ·refine⟨hgrow.os,hgrow.tape,hgrow.output,Nat.le_trans (by simp) hgrow.size,fun k hk hne=>?_⟩
   rw[hgrow.block k (by simp;omega) hne,heap_alloc_old w _ hk]
end Go.Proofs.YtgmidodmmlmmeaaGreatDoor.xpt
namespace Go.Proofs.YtgmidodmmlmmeaaGreatDoor.xpt
open Go.RowKit lex tre att nor
def VSt (s:St)(w w':World)(v:Value):Prop:=∃ ro rc ao ac bo bc,v=.agg #[.int .i64 s.kind,.string (bb s.name),.slice ro s.refs.length rc,.slice ao s.attrs.length ac,.slice bo s.body.length bc] /\
 ∀ W,agree w.heap.size w'.heap.size w' W->ysP W ⟨s,.slice ro s.refs.length rc,.slice ao s.attrs.length ac,.slice bo s.body.length bc⟩
theorem ye1 {W:World}{g:Nat}{t:TypeId}{a b:List UInt8}(h:blk W g t #[.string (bb a),.string (bb b)])(la:a.length<=maxLen)(lb:b.length<=maxLen):Prs W (.slice (some ⟨g,0,none⟩) 1 1) [(a,b)]:=by
 refine⟨_,1,rfl,Nat.le_refl _,by decide,fun _=>⟨_,rfl,fun i hi=>?_⟩⟩;obtain rfl:i=0:=by simpa using hi
 refine⟨?_,?_,la,lb⟩
 ·rw[gra.add_at,yd h];rfl
 ·show W.cell? ⟨g,_,none⟩=_;rw[yd h];rfl
theorem agree.blk {lo hi g:Nat}{w W:World}{t:TypeId}{arr:Array Value}(h:agree lo hi w W)(h1:lo<=g)(h2:g<hi)(k:xpt.blk w g t arr):xpt.blk W g t arr:=by
 unfold xpt.blk at k |-;rw[h g h1 h2];exact k
end Go.Proofs.YtgmidodmmlmmeaaGreatDoor.xpt
namespace Go.Proofs.YtgmidodmmlmmeaaGreatDoor.xpt
section
variable {P:Program} {ops:Array Oper} {Q:Exit->Act->World->Prop} {md:Region.Mode} {S:World->Prop} {z:Nat}
def Shd (md:Region.Mode)(ops:Array Oper)(L:Array Bool):Prop:=∀ j oj,ops[j]?=some oj->L.getD j false=true->∀ e∈oj.after,Region.binds md e=true->L.getD e.on false=true
def rch (md:Region.Mode)(ops:Array Oper)(i:Nat):Nat->Nat->Bool
 | 0,_=>false
 | f+1,t=>Region.waitsFor md ops t i||(List.range ops.size).any fun j=>Region.waitsFor md ops t j&&rch md ops i f j
theorem ysR {i:Nat}{L:Array Bool}(hL:Shd md ops L)(hi:L.getD i true=false):∀ (f t:Nat),rch md ops i f t=true->(∀ oj,ops[t]?=some oj->∀ e∈oj.after,Region.binds md e=true->L.getD e.on false=true)->False:=by
 intro f
 induction f with
 | zero=>intro t h;cases h
 | succ f ih =>
  intro t h ht;unfold rch at h;rw[Bool.or_eq_true] at h
  rcases h with h | h
  ·obtain⟨oj,hj,e,he,hb,hon⟩:=Region.waitsFor_spec h
   have:=ht oj hj e he hb;rw[hon,getD_both hi] at this;cases this
  ·obtain⟨j,-,h2⟩:=List.any_eq_true.1 h
   rw[Bool.and_eq_true] at h2;obtain⟨oj,hj,e,he,hb,hon⟩:=Region.waitsFor_spec h2.1;have:=ht oj hj e he hb;rw[hon] at this;exact ih j h2.2 fun ok hk e' he' hb'=>hL j ok hk this e' he' hb'
def wpZ (P:Program)(md:Region.Mode)(ops:Array Oper)(Q:Exit->Act->World->Prop)(S:World->Prop)(z:Nat):Nat->Array Bool->Act->World->Prop
 | 0,L,a,w=>Region.ready md ops L=[]/\Q .normal a w
 | f+1,L,a,w=>(Region.ready md ops L=[]->Q .normal a w)/\∀ i∈Region.ready md ops L,wpOp P ops Q i (fun a' w'=>(i≠z->S w')/\wpZ P md ops Q S z f (L.setIfInBounds i true) a' w') a w
theorem yjy:∀ (f:Nat) (L:Array Bool) (a:Act) (w:World),wpZ P md ops Q S z f L a w->wpAny P md ops Q f L a w
 | 0,_,_,_,h=>h
 | f+1,_,_,_,h=>⟨h.1,fun i hi=>wpOp_mono (fun a' w' h'=>yjy f _ a' w' h'.2) (h.2 i hi)⟩
theorem ye2 {i:Nat}{L:Array Bool}(hL:Shd md ops L)(hi:i∈Region.ready md ops L):Shd md ops (L.setIfInBounds i true):=by
 obtain⟨_,oi,hoi,hall⟩:=mem_ready.1 hi;intro j oj hj hl e he hb
 by_cases hij:i=j
 ·subst hij
  have:oj=oi:=Option.some.inj (hj.symm.trans hoi);subst this;exact getD_set_true (hall e he hb)
 ·rw[getD_set_ne false hij] at hl
  exact getD_set_true (hL j oj hj hl e he hb)
theorem yq4 {i:Nat}{oi:Oper}{v:Value}(hi:ops[i]?=some oi)(hsel:∀ (j:Nat) (o:Oper) cs b,ops[j]?=some o->o.op≠.select cs b)
    (hQ:∀ c a w,Q (.panic c) (a.put oi.dst v) w->Q (.panic c) a w) (d:Nat) (hz:rch md ops i d z=true) :
    ∀ (f:Nat) (L:Array Bool) (a:Act) (w:World),
     (∀ j oj,ops[j]?=some oj->j≠i->L.getD j true=false->(∀ e∈oj.after,Region.binds md e=true->e.on≠i)->oi.apart ops oj=true)->Shd md ops L ->
     i∈Region.ready md ops L->YieldsIf P ops S oi v a->S w ->
     wpZ P md ops Q S z f (L.setIfInBounds i true) (a.put oi.dst v) w->wpZ P md ops Q S z (f+1) L a w:=by
 intro f
 induction f with
 | zero =>
  intro L a w _ hL hr hy hS H;refine⟨fun h=>(by rw[h] at hr;cases hr),fun j hj=>?_⟩
  by_cases hji:j=i
  ·subst hji;exact hy.wpOp hi hS ⟨fun _=>hS,H⟩
  ·have:=ready_mono hj hji
   rw[H.1] at this;cases this
 | succ f ih =>
  intro L a w hfree hL hr hy hS H;refine⟨fun h=>(by rw[h] at hr;cases hr),fun j hj=>?_⟩
  by_cases hji:j=i
  ·subst hji;exact hy.wpOp hi hS ⟨fun _=>hS,H⟩
  ·have h1:=H.2 j (ready_mono hj hji)
   obtain⟨hjun,oj,hoj,hall⟩:=mem_ready.1 hj;have hun:=(mem_ready.1 hr).1
   have hjz:j≠z:=fun e=>by
    subst e;exact ysR hL hun d j hz fun ok hk=>by rw[hoj] at hk;cases hk;exact hall
   have hnot:∀ e∈oj.after,Region.binds md e=true->e.on≠i:=fun e he hb heq=>by
    have h1:=hall e he hb;rw[heq,getD_both hun] at h1;cases h1
   have h2:=wpOp_putIf hoj (hfree j oj hoj hji hjun hnot) (fun cs b=>hsel i oi cs b hi) (fun cs b=>hsel j oj cs b hoj) hQ hy h1
   have hfree':∀ k ok,ops[k]?=some ok->k≠i->(L.setIfInBounds j true).getD k true=false ->
       (∀ e∈ok.after,Region.binds md e=true->e.on≠i)->oi.apart ops ok=true:=fun k ok hk hki hun' hno=>by
    refine hfree k ok hk hki ?_ hno
    by_cases hjk:j=k
    ·subst hjk;exact hjun
    ·rw[getD_set_ne true hjk] at hun';exact hun'
   refine wpOp_mono (fun a' w' h3=>⟨h3.2.1,ih (L.setIfInBounds j true) a' w' hfree' (ye2 hL hj) (ready_mono hr (Ne.symm hji)) h3.1 (h3.2.1 hjz) ?_⟩) h2;rw[Array.setIfInBounds_comm _ _ hji];exact h3.2.2
def wpS (P:Program)(md:Region.Mode)(ops:Array Oper)(Q:Exit->Act->World->Prop)(S:World->Prop)(z:Nat)(f:Nat)(L:Array Bool)(a:Act)(w:World):Prop:=Shd md ops L->wpZ P md ops Q S z f L a w
theorem ton {f:Nat}{L:Array Bool}{a:Act}{w:World}(i k:Nat)(v:Value)(h:wpS P md ops Q S z f (L.setIfInBounds i true) ⟨a.tmps.setIfInBounds k v,a.defers⟩ w)
    (hd:(ops[i]?).map (·.dst)=some (some k):=by kernel_rfl) (hs:Region.noSelect ops=true:=by kernel_rfl) (hf:Region.free md ops L i=true:=by kernel_rfl) (hr:(Region.ready md ops L).contains i=true:=by kernel_rfl)
    (hz:rch md ops i 9 z=true:=by kernel_rfl) (hQ:∀ c (d:Tmp) v a w,Q (.panic c) (a.put (some d) v) w->Q (.panic c) a w:=by exact fun _ _ _ _ _ h=>by first | exact h | cases h.1)
    (hy:∀ oi,ops[i]?=some oi->Region.wanted oi (yielded ops a.tmps)=true/\∀ W,S W->(execOp a.eval oi).run P W=.ok (.value v) W:=by (rintro oi h;cases h;refine⟨by rfl,?_⟩;intro W hSw;(try dsimp only at hSw);go_simp)) (hS:S w:=by assumption):wpS P md ops Q S z (f+1) L a w:=fun hL=>by
 obtain⟨oi,hi⟩:∃ oi,ops[i]?=some oi:=by
  cases h:ops[i]? with
  | none=>rw[h] at hd;cases hd
  | some o=>exact⟨o,rfl⟩
 have e:oi.dst=some k:=by rw[hi] at hd;simpa using hd
 have hr2:i∈Region.ready md ops L:=by simpa using hr
 refine yq4 hi (Region.noSelect_spec hs) (fun c a w=>by rw[e];exact hQ c _ _ a w) 9 hz f L a w (Region.free_spec hi hf) hL hr2 (Or.inl (hy oi hi)) hS ?_;rw[e];exact h (ye2 hL hr2)
theorem tgo {i:Nat}{o:Oper}{f:Nat}{L:Array Bool}{a:Act}{w:World}(hr:Region.ready md ops L=[i])(ho:ops[i]?=some o)
    (h:∀ K':Act->World->Prop,Shut (∀ a w,(i≠z->S w)->((i≠z->S w)->wpS P md ops Q S z f (L.setIfInBounds i true) a w)->K' a w)->if Region.wanted o (yielded ops a.tmps)=true then Oper.wp P o a w K' Q else K' (a.put o.dst undef) w):wpS P md ops Q S z (f+1) L a w:=fun hL =>
 ⟨fun h0=>(by rw[hr] at h0;cases h0),fun j hj=>by
  have hj2:=hj;rw[hr] at hj2;obtain rfl:j=i:=by simpa using hj2
  exact wpOp_step ho (fun K' hK=>h K' (fun a w hS hW=>hK a w ⟨hS,hW hS (ye2 hL hj)⟩))⟩
theorem ynZ {i j:Nat}{o o':Oper}{f:Nat}{L:Array Bool}{a:Act}{w:World}(hr:Region.ready md ops L=[i,j])(ho:ops[i]?=some o)(ho':ops[j]?=some o')
    (h:∀ K':Act->World->Prop,Shut (∀ a w,(i≠z->S w)->((i≠z->S w)->wpS P md ops Q S z f (L.setIfInBounds i true) a w)->K' a w)->if Region.wanted o (yielded ops a.tmps)=true then Oper.wp P o a w K' Q else K' (a.put o.dst undef) w)
    (h':∀ K':Act->World->Prop,Shut (∀ a w,(j≠z->S w)->((j≠z->S w)->wpS P md ops Q S z f (L.setIfInBounds j true) a w)->K' a w)->if Region.wanted o' (yielded ops a.tmps)=true then Oper.wp P o' a w K' Q else K' (a.put o'.dst undef) w):wpS P md ops Q S z (f+1) L a w:=fun hL =>
 ⟨fun h0=>(by rw[hr] at h0;cases h0),fun m hm=>by
  have hm2:=hm;rw[hr] at hm2
  rcases (by simpa using hm2:m=i\/m=j) with rfl | rfl
  ·exact wpOp_step ho (fun K' hK=>h K' (fun a w hS hW=>hK a w ⟨hS,hW hS (ye2 hL hm)⟩))
  ·exact wpOp_step ho' (fun K' hK=>h' K' (fun a w hS hW=>hK a w ⟨hS,hW hS (ye2 hL hm)⟩))⟩
theorem yb3 {L:Array Bool}{a:Act}{w:World}(hr:Region.ready md ops L=[])(h:Q .normal a w):∀ f,wpS P md ops Q S z f L a w
 | 0=>fun _=>⟨hr,h⟩
 | _+1=>fun _=>⟨fun _=>h,by rw[hr];simp⟩
theorem ycH {id:Nat}{a:Act}{w:World}(S:World->Prop)(z:Nat)(hm:P.follows .mixedOrders=true)(hS:S w.drew)
    (h:S w.drew->wpS P .any ops Q S z ops.size (Array.replicate ops.size false) a w.drew):(Code.region id ops true).wp P Q a w :=
 wp_region_any hm (yjy _ _ _ _ (h hS (fun j oj _ hl=>by rw[getD_replicate_false] at hl;cases hl)))
end
end Go.Proofs.YtgmidodmmlmmeaaGreatDoor.xpt
namespace Go.Proofs.YtgmidodmmlmmeaaGreatDoor.xpt
open Go.RowKit lex tre att nor
theorem yem {P:Program}{c:Code}{K:Act->World->Prop}{Q:Exit->Act->World->Prop}{a:Act}{w:World}(M:Act->World->Prop)(h1:c.wp P (fun e a' w'=>e=.normal/\M a' w') a w)(h2:∀ a' w',M a' w'->K a' w'):c.wp P (Exit.then K Q) a w :=
 wp_mono h1 fun e a' w' hh=>by obtain⟨he,hm⟩:=hh;subst he;exact h2 a' w' hm
theorem Pk.low {R:Nat}{a b c:World}(h:Pk R a b)(hb:Below a.heap.size b c):Pk R a c :=
 ⟨hb.os.trans h.os,hb.tape.trans h.tape,hb.output.trans h.output,Nat.le_trans h.size hb.size,fun q h1 h2=>(hb.block q h2).trans (h.block q h1 h2)⟩
theorem yf {W:World}{A:Addr}{v:Value}(h:W.cell? A=some v):W.drew.cell? A=some v:=h
theorem yh {W:World}{A:Addr}{v:Value}{o:Obj}(h:W.cell? A=some v):(W.alloc o).cell? A=some v:=yb (al1 ..) h
theorem yC {W:World}{A:Addr}{v u:Value}{b o:Nat}(h0:A.block≠b)(h:W.cell? A=some v):(W.setCell ⟨b,o,none⟩ u).cell? A=some v:=by rw[World.cell?_setCell_far W ⟨b,o,none⟩ A u (Ne.symm h0)];exact h
theorem yat (w:World):Below w.heap.size w w.drew:=(Below.refl w.heap.size w).drew
theorem yb4 {V V':World}{B s n g:Nat}{t0 t:TypeId}{v:Value}{xs:List Value}{arr:Array Value}(hr:V.ownsRow B t0 s v n xs)(hg:V.grownBy V' v.ownBlock)(h:blk V g t arr)(ht:t≠t0):blk V' g t arr:=by
 unfold xpt.blk at h |-;rw[hg.block g (yP h) (fun e=>?_)]
 ·exact h
 ·rcases hr.2 with ⟨rfl,-⟩ | ⟨q,cap,cur,rfl,-,hk,-⟩
  ·cases e
  ·obtain rfl:g=q:=Option.some.inj e
   rw[hk] at h;cases h;exact ht rfl
theorem ybi {V V':World}{B s n:Nat}{t0:TypeId}{v:Value}{xs:List Value}(hr:V.ownsRow B t0 s v n xs)(hg:V.grownBy V' v.ownBlock)(hB:B<=V.heap.size):Below B V V' :=
 ⟨hg.os,hg.tape,hg.output,hg.size,fun q hq=>hg.block q (by omega) (fun e=>by
  rcases hr.2 with ⟨rfl,-⟩ | ⟨b,cap,cur,rfl,hb,-⟩
  ·cases e
  ·obtain rfl:q=b:=Option.some.inj e
   omega)⟩
theorem yj {w w':World}{b:Nat}{t:TypeId}{arr:Array Value}(hb:Below w.heap.size w w')(h:blk w b t arr):blk w' b t arr:=by unfold xpt.blk at h |-;rw[hb.block b (yP h)];exact h
theorem yW {w:World}{b g o:Nat}{t:TypeId}{arr:Array Value}(h:blk w b t arr)(hb:b≠g)(u:Value):blk (w.setCell ⟨g,o,none⟩ u) b t arr:=by
 unfold xpt.blk at h |-;rw[Below.heap_setCell _ _ _ _ hb];exact h
def Kp (B:Nat)(t0:TypeId)(V V':World):Prop:=Below B V V'/\∀ g t arr,blk V g t arr->t≠t0->blk V' g t arr
theorem ls_pr {E0:TypeId}{ops:Array Oper}{o:Oper}{rest:List Oper}{a:Act}{Q:Exit->Act->World->Prop}{T:TypeId}(hT:Tryz.prog.underlying T=some (.slice E0))(hE:∃ i,Tryz.prog.info? E0=some i/\i.zero=some (.agg #[.string ⟨#[]⟩,.string ⟨#[]⟩])/\i.size=2/\i.bytes=32)
    (hgd:o.guard=none) (p y:Operand) (ho:o.op=.call { callee:=.builtin .append,args:=#[p,y],argTypes:=#[T,T] }) (B:Nat) (V:World) (v:Value) (l:List Pr) (x:Pr) (k c:ByteArray) (hx:prC x=[.string k,.string c]) (H:Nat)
    (hs:a.eval p=v) (hy:a.eval y=.slice (some ⟨H,0,none⟩) 1 1) (hr:Hid (V.ownsRow B E0 2 v l.length (l.flatMap prC))) (hn:Hid (blk V H E0 #[.string k,.string c])) (hl:l.length<=1000000) (hB:B<=V.heap.size)
    (h:∀ g cap V',Hid (V'.ownsRow B E0 2 (.slice (some ⟨g,0,none⟩) (l.length+1) cap) (l++[x]).length ((l++[x]).flatMap prC))->Hid (Kp B E0 V V')->wpList Tryz.prog ops Q rest (a.put o.dst (.slice (some ⟨g,0,none⟩) (l.length+1) cap)) V') :
    wpList Tryz.prog ops Q (o::rest) a V:=by
 obtain⟨i0,hi,hz0,hz1,hz2⟩:=hE;refine wpList_append_lies _ hgd p y T ho B E0 i0 _ 2 32 hT hi hz0 hz1 hz2 rfl (by decide) v l.length _ hs hr.out ⟨H,0,none⟩ 1 1 [.string k,.string c] hy rfl ?_ (by simp[Value.oneCell']) (by decide) (by unfold maxLen;omega) (by omega) hB V.heap.size rfl ?_
 ·intro j u hj
  rw[gra.add_at,Nat.zero_add,yd hn.out,<- hj];simp
 ·intro g cap V' hown hgrow _ _
  refine h g cap V' (Lh ?_) (Lh ⟨ybi hr.out hgrow hB,fun g t arr k q=>yb4 hr.out hgrow k q⟩);rw[List.length_append,List.flatMap_append,List.flatMap_cons,List.flatMap_nil,List.append_nil,hx];exact hown
theorem yjz {W:World}{g:Nat}{t:TypeId}{a0 a1 a2 a3 a4:Value}(h:blk W g t #[a0,a1,a2,a3,a4])(c0 c1 c2 c3 c4:Value):blk (((((W.setCell ⟨g,0,none⟩ c0).setCell ⟨g,1,none⟩ c1).setCell ⟨g,2,none⟩ c2).setCell ⟨g,3,none⟩ c3).setCell ⟨g,4,none⟩ c4) g t #[c0,c1,c2,c3,c4]:=by
 have h0:blk (W.setCell ⟨g,0,none⟩ c0) g t #[c0,a1,a2,a3,a4]:=yg h c0;have h1:blk ((W.setCell ⟨g,0,none⟩ c0).setCell ⟨g,1,none⟩ c1) g t #[c0,c1,a2,a3,a4]:=yg h0 c1;have h2:blk (((W.setCell ⟨g,0,none⟩ c0).setCell ⟨g,1,none⟩ c1).setCell ⟨g,2,none⟩ c2) g t #[c0,c1,c2,a3,a4]:=yg h1 c2;have h3:blk ((((W.setCell ⟨g,0,none⟩ c0).setCell ⟨g,1,none⟩ c1).setCell ⟨g,2,none⟩ c2).setCell ⟨g,3,none⟩ c3) g t #[c0,c1,c2,c3,a4]:=yg h2 c3;exact yg h3 c4
theorem yn0 {W:World}{b g:Nat}{t:TypeId}{arr:Array Value}(h:blk W b t arr)(hb:b≠g)(c0 c1 c2 c3 c4:Value):blk (((((W.setCell ⟨g,0,none⟩ c0).setCell ⟨g,1,none⟩ c1).setCell ⟨g,2,none⟩ c2).setCell ⟨g,3,none⟩ c3).setCell ⟨g,4,none⟩ c4) b t arr :=
 yW (yW (yW (yW (yW h hb _) hb _) hb _) hb _) hb _
theorem yaq {B:Nat}{a W:World}{g:Nat}(h:Below B a W)(hg:B<=g)(c0 c1 c2 c3 c4:Value):Below B a (((((W.setCell ⟨g,0,none⟩ c0).setCell ⟨g,1,none⟩ c1).setCell ⟨g,2,none⟩ c2).setCell ⟨g,3,none⟩ c3).setCell ⟨g,4,none⟩ c4):=((((h.setCell hg _).setCell hg _).setCell hg _).setCell hg _).setCell hg _
theorem yn1 {W:World}{B c n g:Nat}{t u:TypeId}{v:Value}{xs:List Value}{a0 a1 a2 a3 a4:Value}(h:W.ownsRow B t c v n xs)(hg:blk W g u #[a0,a1,a2,a3,a4])(hu:t≠u)(c0 c1 c2 c3 c4:Value):(((((W.setCell ⟨g,0,none⟩ c0).setCell ⟨g,1,none⟩ c1).setCell ⟨g,2,none⟩ c2).setCell ⟨g,3,none⟩ c3).setCell ⟨g,4,none⟩ c4).ownsRow B t c v n xs:=by
 have h0:blk (W.setCell ⟨g,0,none⟩ c0) g u #[c0,a1,a2,a3,a4]:=yg hg c0;have h1:blk ((W.setCell ⟨g,0,none⟩ c0).setCell ⟨g,1,none⟩ c1) g u #[c0,c1,a2,a3,a4]:=yg h0 c1;have h2:blk (((W.setCell ⟨g,0,none⟩ c0).setCell ⟨g,1,none⟩ c1).setCell ⟨g,2,none⟩ c2) g u #[c0,c1,c2,a3,a4]:=yg h1 c2;have h3:blk ((((W.setCell ⟨g,0,none⟩ c0).setCell ⟨g,1,none⟩ c1).setCell ⟨g,2,none⟩ c2).setCell ⟨g,3,none⟩ c3) g u #[c0,c1,c2,c3,a4]:=yg h2 c3;exact yw (yw (yw (yw (yw h hg hu c0) h0 hu c1) h1 hu c2) h2 hu c3) h3 hu c4
end Go.Proofs.YtgmidodmmlmmeaaGreatDoor.xpt
namespace Go.Proofs.YtgmidodmmlmmeaaGreatDoor.xpt
open Go.RowKit lex tre att nor _root_.Go.Proofs.Tryz
theorem yn2 (n:Int)(S:ByteArray)(w:World)(h0:0<=n)(h3:n<=3)(hs:Hid (bb (yeU n)=S)) :
    Calls Tryz.prog 241 #[.int .i64 n] w fun e w'=>e=.returned (.string S)/\Below w.heap.size w w':=by
 have h:n=0\/n=1\/n=2\/n=3:=by omega
 clear h0 h3;have HB:=Lh (al1 w (.cells #[.string ⟨#[116,111,112]⟩,.string ⟨#[114,105,103,104,116]⟩,.string ⟨#[98,111,116,116,111,109]⟩,.string ⟨#[108,101,102,116]⟩] 312))
 rcases h with rfl | rfl | rfl | rfl
 ·obtain rfl:(⟨#[116,111,112]⟩:ByteArray)=S:=by rw[<- hs.out];rfl
  clear hs;go_enter func241,ntmps241;go_wp2;go_ret;exact⟨rfl,HB.out⟩
 ·obtain rfl:(⟨#[114,105,103,104,116]⟩:ByteArray)=S:=by rw[<- hs.out];rfl
  clear hs;go_enter func241,ntmps241;go_wp2;go_ret;exact⟨rfl,HB.out⟩
 ·obtain rfl:(⟨#[98,111,116,116,111,109]⟩:ByteArray)=S:=by rw[<- hs.out];rfl
  clear hs;go_enter func241,ntmps241;go_wp2;go_ret;exact⟨rfl,HB.out⟩
 ·obtain rfl:(⟨#[108,101,102,116]⟩:ByteArray)=S:=by rw[<- hs.out];rfl
  clear hs;go_enter func241,ntmps241;go_wp2;go_ret;exact⟨rfl,HB.out⟩
theorem yjA (n:Int)(S:ByteArray)(w:World)(h0:0<=n)(h3:n<=4)(hs:Hid (bb (ya6.getD n.toNat [])=S)) :
    Calls Tryz.prog 69 #[.int .i64 n] w fun e w'=>e=.returned (.string S)/\Below w.heap.size w w':=by
 have h:n=0\/n=1\/n=2\/n=3\/n=4:=by omega
 clear h0 h3;have HB:=Lh (al1 w (.cells #[.string ⟨#[108,97,121,101,114,101,100]⟩,.string ⟨#[111,114,116,104,111,103,111,110,97,108]⟩,.string ⟨#[115,116,114,97,105,103,104,116]⟩,.string ⟨#[116,105,100,121]⟩,.string ⟨#[114,97,100,105,97,108]⟩] 214))
 rcases h with rfl | rfl | rfl | rfl | rfl
 ·obtain rfl:(⟨#[108,97,121,101,114,101,100]⟩:ByteArray)=S:=by rw[<- hs.out];rfl
  clear hs;go_enter func69,ntmps69;go_wp2;go_ret;exact⟨rfl,HB.out⟩
 ·obtain rfl:(⟨#[111,114,116,104,111,103,111,110,97,108]⟩:ByteArray)=S:=by rw[<- hs.out];rfl
  clear hs;go_enter func69,ntmps69;go_wp2;go_ret;exact⟨rfl,HB.out⟩
 ·obtain rfl:(⟨#[115,116,114,97,105,103,104,116]⟩:ByteArray)=S:=by rw[<- hs.out];rfl
  clear hs;go_enter func69,ntmps69;go_wp2;go_ret;exact⟨rfl,HB.out⟩
 ·obtain rfl:(⟨#[116,105,100,121]⟩:ByteArray)=S:=by rw[<- hs.out];rfl
  clear hs;go_enter func69,ntmps69;go_wp2;go_ret;exact⟨rfl,HB.out⟩
 ·obtain rfl:(⟨#[114,97,100,105,97,108]⟩:ByteArray)=S:=by rw[<- hs.out];rfl
  clear hs;go_enter func69,ntmps69;go_wp2;go_ret;exact⟨rfl,HB.out⟩
end Go.Proofs.YtgmidodmmlmmeaaGreatDoor.xpt
namespace Go.Proofs.YtgmidodmmlmmeaaGreatDoor.xpt
open lex tre att nor
theorem ydb {P:Prop}[Decidable P](c v k:List UInt8):yai (if P then [] else [(c,v)]) k=if P\/c≠k then ([],false) else (v,true):=by
 by_cases h:P
 ·rw[if_pos h,if_pos (Or.inl h)];rfl
 ·rw[if_neg h,yae]
  show (if (([],false):List UInt8 × Bool).2 then _ else if c=k then (v,true) else ([],false))=_
  rw[if_neg (by decide)]
  by_cases e:c=k
  ·rw[if_pos e,if_neg (by simp[h,e])]
  ·rw[if_neg e,if_pos (Or.inr e)]
theorem yM {P:Prop}[Decidable P]{c v:List UInt8}{a:Pr}(h:a∈(if P then [] else [(c,v)])):a=(c,v)/\¬ P:=by
 by_cases hp:P
 ·rw[if_pos hp] at h;cases h
 ·rw[if_neg hp,List.mem_singleton] at h;exact⟨h,hp⟩
theorem ye3 {P:Prop}[Decidable P]{c v:List UInt8}{t:List Pr}(ht:Asc t)(h:∀ a∈t,c<a.1):Asc ((if P then [] else [(c,v)])++t):=by
 by_cases hp:P
 ·rw[if_pos hp];exact ht
 ·rw[if_neg hp];exact⟨h,ht⟩
theorem yjB {P:Prop}[Decidable P]{c v:List UInt8}:Asc (if P then [] else [(c,v)]):=by
 by_cases hp:P
 ·rw[if_pos hp];trivial
 ·rw[if_neg hp];exact⟨fun a h=>(by cases h),trivial⟩
theorem yhO {a:List Pr}(h:Asc a):yB [] a=a:=by
 unfold yB;rw[List.nil_append];exact yqR (yiK a).1 h (yiK a).2
theorem yen {k:Int}:∀ {l:List Pr},(∀ a∈l,yaa k a=0)->yb1 k l=0
 | [],_=>rfl
 | a::t,h=>by
  unfold yb1;rw[if_neg (by simp[h a (List.mem_cons_self ..)])];exact yen fun b hb=>h b (List.mem_cons_of_mem _ hb)
theorem ydc {lo hi no n:Int}(h1:lo<=n)(h2:n<=hi)(h3:-268435456<=n)(h4:n<=268435456):yeM ⟨2,lo,hi,no⟩ (yJ n)=(n,true):=by
 unfold yeM;rw[ydO n h3 h4];simp[h1,h2]
theorem ye4 {lo hi no n:Int}(h1:lo<=n)(h2:n<=hi)(h3:-100000<=n)(h4:n<=100000):yeM ⟨3,lo,hi,no⟩ (yJ (1000*n))=(n,true):=by
 unfold yeM;rw[ydO (1000*n) (by omega) (by omega)];have e1:(1000*n).tmod 1000=0:=Int.mul_tmod_right 1000 n;have e2:(1000*n).tdiv 1000=n:=Int.mul_tdiv_cancel_left n (by decide);simp[e1,e2,h1,h2]
theorem ycI {k:Int}{c s:List UInt8}{x:Ru}(hk:yaY k=true)(hx:yo k c=x)(hf:x.form=2\/x.form=3)(hv:(yeM x s).2=true):yaa k (c,s)=0:=by
 unfold yaa;simp only[hx];rw[if_neg (by rw[hk];decide),if_neg (by omega),if_neg (by omega),if_pos];unfold okV;rw[if_neg (by omega),if_pos hf];exact hv
theorem yhP {k:Int}{s:List UInt8}(hk:k=1\/k=2)(h1:s.length<=32)(h2:s.all yar=true):yaa k (yE,s)=0:=by
 have hx:yo k yE=⟨1,0,0,0⟩:=by rcases hk with rfl | rfl <;> rfl
 have hg:yaY k=true:=by rcases hk with rfl | rfl <;> decide
 unfold yaa;simp only[hx];rw[if_neg (by rw[hg];decide),if_neg (by decide),if_neg (by omega),if_pos];unfold okV;rw[if_pos rfl];exact h2
theorem ylz {s:List UInt8}(h1:s.length<=32)(h2:(yaQ s).2=0):yaa 1 (yY,s)=0:=by
 unfold yaa;have hx:yo 1 yY=⟨4,0,0,0⟩:=rfl;simp only[hx];rw[if_neg (by decide),if_neg (by decide),if_neg (by omega),if_pos];unfold okV;rw[if_neg (by decide),if_neg (by decide),if_pos rfl,decide_eq_true h2,decide_eq_true h1];rfl
theorem yjC {k:Int}{c s:List UInt8}{l:List Pr}{x:Ru}{n:Int}{P:Prop}[Decidable P](hx:yo k c=x)(hf:x.form=2\/x.form=3)(hl:yai l c=if P then ([],false) else (s,true))(hp:P->n=x.normal)(hv:yeM x s=(n,true)):ycA k l c=n:=by
 unfold ycA;simp only[hx,hl];rw[if_neg (by omega)]
 by_cases h:P
 ·rw[if_pos h,if_pos rfl,hp h]
 ·rw[if_neg h,if_neg (by simp),hv];rfl
structure NdV (x:gra.Nd):Prop where
 nm:yK x.nm=true
 lb:x.lb.length<=32
 pl:x.lb.all yar=true
 w:1<=x.w/\x.w<=1048576
 h:1<=x.h/\x.h<=1048576
 pv:∀ p∈x.ps,PtV p
 nd:(x.ps.map (·.1)).Nodup
 len:x.ps.length<=8
theorem ylA:yQ<yE/\yQ<yY/\yQ<yao/\yE<yY/\yE<yao/\yY<yao/\yE<yej/\yE<yV/\yej<yV:=by decide
theorem ylB (x:gra.Nd):yai (ybd x) yQ=(if x.h=10000 then ([],false) else (yJ x.h,true))/\yai (ybd x) yE=(if x.lb=x.nm then ([],false) else (x.lb,true)) /\
    yai (ybd x) yY=(if x.ps=[] then ([],false) else (yT x.ps,true))/\yai (ybd x) yao=(if x.w=20000 then ([],false) else (yJ x.w,true)):=by
 have n1:yE≠yQ:=by decide
 have n2:yY≠yQ:=by decide
 have n3:yao≠yQ:=by decide
 have n4:yY≠yE:=by decide
 have n5:yao≠yE:=by decide
 have n6:yao≠yY:=by decide
 unfold ybd;refine⟨?_,?_,?_,?_⟩
 all_goals
  rw[ycf,ycf,ycf,ydb,ydb,ydb,ydb];simp only[n1,n2,n3,n4,n5,n6,n1.symm,n2.symm,n3.symm,n4.symm,n5.symm,n6.symm,ne_eq,not_true_eq_false,not_false_eq_true,or_true,or_false,if_true]
  (try simp)
 all_goals (try (split <;> simp_all))
theorem yhQ (x:gra.Nd):Asc (ybd x):=by
 obtain⟨k1,k2,k3,k4,k5,k6,-⟩:=ylA;refine ye3 (ye3 (ye3 yjB fun a ha=>?_) fun a ha=>?_) fun a ha=>?_
 ·rw[(yM ha).1];exact k6
 ·rcases List.mem_append.1 ha with q | q
  ·rw[(yM q).1];exact k4
  ·rw[(yM q).1];exact k5
 ·rcases List.mem_append.1 ha with q | q
  ·rw[(yM q).1];exact k1
  ·rcases List.mem_append.1 q with q | q
   ·rw[(yM q).1];exact k2
   ·rw[(yM q).1];exact k3
theorem yn3 {x:gra.Nd}(h:NdV x)(hp:x.ps≠[]->(yT x.ps).length<=32):yb1 1 (ybd x)=0:=yen fun a ha=>by
 rcases List.mem_append.1 ha with q | q
 ·rw[(yM q).1]
  exact ycI (by decide) rfl (Or.inl (by decide)) (by rw[show yo 1 yQ=⟨2,1,1048576,10000⟩ from rfl,ydc h.h.1 h.h.2 (by have:=h.h.1;omega) (by have:=h.h.2;omega)])
 rcases List.mem_append.1 q with q | q
 ·rw[(yM q).1]
  exact yhP (Or.inl rfl) h.lb h.pl
 rcases List.mem_append.1 q with q | q
 ·obtain⟨e,hn⟩:=yM q
  rw[e];exact ylz (hp hn) (by rw[yf1 hn h.pv h.nd h.len])
 ·rw[(yM q).1]
  exact ycI (by decide) rfl (Or.inl (by decide)) (by rw[show yo 1 yao=⟨2,1,1048576,20000⟩ from rfl,ydc h.w.1 h.w.2 (by have:=h.w.1;omega) (by have:=h.w.2;omega)])
theorem ylC {x:gra.Nd}(h:NdV x):ygJ (x.nm,x.cl) (ybd x)=x:=by
 obtain⟨g1,g2,g3,g4⟩:=ylB x;have e1:ycA 1 (ybd x) yao=x.w:=yjC (x:=⟨2,1,1048576,20000⟩) rfl (Or.inl rfl) g4 (fun e=>e) (ydc h.w.1 h.w.2 (by have:=h.w.1;omega) (by have:=h.w.2;omega));have e2:ycA 1 (ybd x) yQ=x.h:=yjC (x:=⟨2,1,1048576,10000⟩) rfl (Or.inl rfl) g1 (fun e=>e) (ydc h.h.1 h.h.2 (by have:=h.h.1;omega) (by have:=h.h.2;omega));unfold ygJ;rw[e1,e2,g2,g3];obtain⟨nm,lb,w,hh,cl,ps⟩:=x;simp only
 congr 1
 ·by_cases hl:lb=nm
  ·rw[if_pos hl];simp[hl]
  ·rw[if_neg hl];rfl
 ·by_cases hl:ps=[]
  ·rw[if_pos hl];simp[hl]
  ·rw[if_neg hl]
   show (yaQ (yT ps)).1=ps
   rw[yf1 hl h.pv h.nd h.len]
theorem ylD (e:gra.Ed):yai (ybC e) yE=(if e.lb=[] then ([],false) else (e.lb,true))/\yai (ybC e) yej=(if e.ln=1 then ([],false) else (yJ (1000*e.ln),true))/\yai (ybC e) yV=(if e.wt=1 then ([],false) else (yJ (1000*e.wt),true)):=by
 have n1:yE≠yej:=by decide
 have n2:yE≠yV:=by decide
 have n3:yej≠yV:=by decide
 unfold ybC;refine⟨?_,?_,?_⟩
 all_goals
  rw[ycf,ycf,ydb,ydb,ydb];simp only[n1,n2,n3,n1.symm,n2.symm,n3.symm,ne_eq,not_true_eq_false,not_false_eq_true,or_true,or_false,if_true]
  (try simp)
 all_goals (try (split <;> simp_all))
theorem yhR (e:gra.Ed):Asc (ybC e):=by
 obtain⟨-,-,-,-,-,-,k1,k2,k3⟩:=ylA;refine ye3 (ye3 yjB fun a ha=>?_) fun a ha=>?_
 ·rw[(yM ha).1];exact k3
 ·rcases List.mem_append.1 ha with q | q
  ·rw[(yM q).1];exact k1
  ·rw[(yM q).1];exact k2
structure EdV (e:gra.Ed):Prop where
 lb:e.lb.length<=32
 pl:e.lb.all yar=true
 wt:1<=e.wt/\e.wt<=1000
 ln:1<=e.ln/\e.ln<=64
theorem yn4 {e:gra.Ed}(h:EdV e):yb1 2 (ybC e)=0:=yen fun a ha=>by
 rcases List.mem_append.1 ha with q | q
 ·rw[(yM q).1]
  exact yhP (Or.inr rfl) h.lb h.pl
 rcases List.mem_append.1 q with q | q
 ·rw[(yM q).1]
  exact ycI (by decide) rfl (Or.inr (by decide)) (by rw[show yo 2 yej=⟨3,1,64,1⟩ from rfl,ye4 h.ln.1 h.ln.2 (by have:=h.ln.1;omega) (by have:=h.ln.2;omega)])
 ·rw[(yM q).1]
  exact ycI (by decide) rfl (Or.inr (by decide)) (by rw[show yo 2 yV=⟨3,1,1000,1⟩ from rfl,ye4 h.wt.1 h.wt.2 (by have:=h.wt.1;omega) (by have:=h.wt.2;omega)])
theorem ylE {e:gra.Ed}(h:EdV e):(yai (ybC e) yE).1=e.lb/\ycA 2 (ybC e) yV=e.wt/\ycA 2 (ybC e) yej=e.ln:=by
 obtain⟨g1,g2,g3⟩:=ylD e;refine⟨?_,yjC (x:=⟨3,1,1000,1⟩) rfl (Or.inr rfl) g3 (fun q=>q) (ye4 h.wt.1 h.wt.2 (by have:=h.wt.1;omega) (by have:=h.wt.2;omega)),yjC (x:=⟨3,1,64,1⟩) rfl (Or.inr rfl) g2 (fun q=>q) (ye4 h.ln.1 h.ln.2 (by have:=h.ln.1;omega) (by have:=h.ln.2;omega))⟩;rw[g1]
 by_cases q:e.lb=[]
 ·rw[if_pos q,q]
 ·rw[if_neg q]
theorem ygU {α β:Type}[BEq β][LawfulBEq β]{f:α->β}{l:List α}(h:∀ i x,l[i]?=some x->(l.take i).any (fun y=>f y==f x)=false):(l.map f).Nodup:=by
 unfold List.Nodup;rw[List.pairwise_iff_getElem];intro i j hi hj hij e;rw[List.length_map] at hi hj;rw[List.getElem_map,List.getElem_map] at e;have h1:=h j l[j] (List.getElem?_eq_getElem hj);rw[List.any_eq_false] at h1;refine h1 l[i] (List.mem_take_iff_getElem.2 ⟨i,by omega,rfl⟩) ?_;rw[e];simp
structure GV (g:gra.Gr):Prop where
 nl:g.ns.length<=64
 el:g.es.length<=256
 cl:g.cs.length<=16
 nm:yK g.nm=true
 nd:∀ x∈g.ns,NdV x
 nn:(g.ns.map (·.nm)).Nodup
 cn:(g.cs.map (·.1)).Nodup
 nc:∀ x∈g.ns,∀ c∈g.cs,x.nm≠c.1
 cm:∀ c∈g.cs,yK c.1=true
 ev:∀ e∈g.es,EdV e
 ef:∀ e∈g.es,0<=e.fr/\e.fr<g.ns.length/\0<=e.to/\e.to<g.ns.length/\-1<=e.fp/\e.fp<(ndAt g.ns e.fr).ps.length/\-1<=e.tp/\e.tp<(ndAt g.ns e.to).ps.length
theorem yb6 {ns:List gra.Nd}{v:Int}(h0:0<=v)(h:v<ns.length):ns[v.toNat]?=some (ndAt ns v):=by
 have hv:v.toNat<ns.length:=by omega
 unfold ndAt;rw[List.getD_eq_getElem?_getD,List.getElem?_eq_getElem hv];rfl
theorem ykK {g:gra.Gr}(h:gra.validE g=0):GV g:=by
 unfold gra.validE at h
 split at h
 ·exact absurd h (by decide)
 rename_i hlen
 split at h
 ·exact absurd h (by decide)
 rename_i hnm
 split at h
 ·rename_i hn;exact absurd h hn
 rename_i hn
 split at h
 ·rename_i hc;exact absurd h hc
 rename_i hc
 have hn':=gra.firstE_ok (f:=gra.nodeE g) (l:=g.ns) (pre:=[]) (by simpa using hn);have hc':=gra.firstE_ok (f:=gra.clusterE g) (l:=g.cs) (pre:=[]) (by simpa using hc);have he':=gra.firstE_ok (f:=fun _ x=>gra.edgeE g x) (l:=g.es) (pre:=[]) h
 have node:∀ i x,g.ns[i]?=some x->NdV x/\(g.ns.take i).any (fun y=>y.nm==x.nm)=false:=fun i x hx=>by
  have h:=hn' i x hx;rw[List.nil_append] at h;unfold gra.nodeE at h
  split at h
  ·exact absurd h (by decide)
  rename_i k1
  split at h
  ·exact absurd h (by decide)
  rename_i k2
  split at h
  ·exact absurd h (by decide)
  rename_i k3
  split at h
  ·exact absurd h (by decide)
  rename_i k4
  split at h
  ·exact absurd h (by decide)
  rename_i k5
  split at h
  ·exact absurd h (by decide)
  rename_i k6
  have hp:=gra.firstE_ok (f:=gra.portE) (l:=x.ps) (pre:=[]) h
  have port:∀ i p,x.ps[i]?=some p->PtV p/\(x.ps.take i).any (fun q=>q.1==p.1)=false:=fun i p hq=>by
   have h:=hp i p hq;rw[List.nil_append] at h;unfold gra.portE at h
   split at h
   ·exact absurd h (by decide)
   rename_i m1
   split at h
   ·exact absurd h (by decide)
   rename_i m2
   split at h
   ·exact absurd h (by decide)
   rename_i m3
   exact⟨⟨by simpa using m1,by omega,by omega⟩,Bool.eq_false_iff.2 m2⟩
  refine⟨⟨by simpa using k1,by omega,by simpa [gra.plainB] using k4,by omega,by omega,fun p hp=>?_,ygU fun i p hq=>(port i p hq).2,by omega⟩,Bool.eq_false_iff.2 k2⟩;obtain⟨i,hi,rfl⟩:=List.mem_iff_getElem.1 hp;exact(port i _ (List.getElem?_eq_getElem hi)).1
 have clu:∀ i x,g.cs[i]?=some x->yK x.1=true/\(g.cs.take i).any (fun y=>y.1==x.1)=false/\g.ns.any (fun y=>y.nm==x.1)=false:=fun i x hx=>by
  have h:=hc' i x hx;rw[List.nil_append] at h;unfold gra.clusterE at h
  split at h
  ·exact absurd h (by decide)
  rename_i k1
  split at h
  ·exact absurd h (by decide)
  rename_i k2
  split at h
  ·exact absurd h (by decide)
  rename_i k3
  exact⟨by simpa using k1,Bool.eq_false_iff.2 k2,Bool.eq_false_iff.2 k3⟩
 have edge:∀ e∈g.es,gra.edgeE g e=0:=fun e hm=>by
  obtain⟨i,hi,rfl⟩:=List.mem_iff_getElem.1 hm;exact he' i _ (List.getElem?_eq_getElem hi)
 have edge2:∀ e∈g.es,EdV e/\0<=e.fr/\e.fr<g.ns.length/\0<=e.to/\e.to<g.ns.length/\-1<=e.fp/\e.fp<(ndAt g.ns e.fr).ps.length/\-1<=e.tp/\e.tp<(ndAt g.ns e.to).ps.length:=fun e hm=>by
  have h:=edge e hm;unfold gra.edgeE at h
  split at h
  ·exact absurd h (by decide)
  rename_i k1
  have a:=yb6 (ns:=g.ns) (v:=e.fr) (by omega) (by omega);have b:=yb6 (ns:=g.ns) (v:=e.to) (by omega) (by omega);rw[a,b] at h;simp only at h
  split at h
  ·exact absurd h (by decide)
  rename_i k2
  split at h
  ·exact absurd h (by decide)
  rename_i k3
  split at h
  ·exact absurd h (by decide)
  rename_i k4
  have k5:e.lb.all yar=true:=by
   cases hq:e.lb.all yar with
   | true=>rfl
   | false=>exact absurd (Or.inl hq) k4
  exact⟨⟨by omega,k5,by omega,by omega⟩,by omega,by omega,by omega,by omega,by omega,by omega,by omega,by omega⟩
 refine⟨by omega,by omega,by omega,by simpa using hnm,fun x hx=>?_,ygU fun i x hx=>(node i x hx).2,ygU fun i x hx=>(clu i x hx).2.1,fun x hx c hc e=>?_,fun c hc=>?_,fun e he=>(edge2 e he).1,fun e he=>(edge2 e he).2⟩
 ·obtain⟨i,hi,rfl⟩:=List.mem_iff_getElem.1 hx
  exact(node i _ (List.getElem?_eq_getElem hi)).1
 ·obtain⟨i,hi,rfl⟩:=List.mem_iff_getElem.1 hc
  have:=(clu i _ (List.getElem?_eq_getElem hi)).2.2;rw[List.any_eq_false] at this;exact this x hx (by rw[e];simp)
 ·obtain⟨i,hi,rfl⟩:=List.mem_iff_getElem.1 hc
  exact(clu i _ (List.getElem?_eq_getElem hi)).1
def sAt (g:gra.Gr)(n k:Nat):Sta:=⟨(g.ns.take n).map (fun x=>(x.nm,x.cl)),(g.ns.take n).map ybd,g.cs.take k,[],0⟩
theorem ydQ {nm:Nm}:∀ {l:List nor.Cl} {i:Nat},(∀ x∈l,x.1≠nm)->yG l nm i=-1
 | [],_,_=>rfl
 | x::t,i,h=>by
  unfold yG;rw[if_neg (h x (List.mem_cons_self ..))];exact ydQ fun y hy=>h y (List.mem_cons_of_mem _ hy)
theorem yhW {nm:Nm}:∀ {l:List nor.Cl} {i v:Nat} {x:nor.Cl},(l.map (·.1)).Nodup->l[v]?=some x->x.1=nm->yG l nm i=(i+v:Nat)
 | [],_,_,_,_,h,_=>by simp at h
 | y::t,i,0,x,_,h,hn=>by
  simp only[List.getElem?_cons_zero,Option.some.injEq] at h;subst h;unfold yG;rw[if_pos hn];simp
 | y::t,i,v+1,x,hd,h,hn=>by
  simp only[List.getElem?_cons_succ] at h;rw[List.map_cons,List.nodup_cons] at hd;unfold yG;rw[if_neg (fun e=>hd.1 (by rw[e,<- hn];exact List.mem_map_of_mem (List.mem_of_getElem? h))),yhW (i:=i+1) hd.2 h hn]
  congr 1;omega
theorem ygV {l:List nor.Cl}{nm:Nm}(h:∀ x∈l,x.1≠nm):yaw l nm=false:=by
 unfold yaw;rw[List.any_eq_false];exact fun x hx=>by simpa using h x hx
theorem yhX (m a:List Pr):∀ (l:List (List Pr)),ycB (l++[a]) (l.length:Int) m=l++[yB a m]
 | []=>by rw[List.nil_append,ycB];rfl
 | x::t=>by
  rw[List.cons_append,ycB,if_neg (by simp;omega),List.length_cons,show ((t.length+1:Nat):Int)-1=(t.length:Int) by omega,yhX m a t,List.cons_append]
theorem ylM {g:gra.Gr}(hg:GV g){n k:Nat}{x:gra.Nd}{c:Int}(hx:g.ns[n]?=some x)(hc:x.cl=c):ya9 (ybp x) ⟨c,[],[]⟩ (sAt g n k)=sAt g (n+1) k:=by
 have hn:n<g.ns.length:=by
  rcases Nat.lt_or_ge n g.ns.length with q | q
  ·exact q
  ·rw[List.getElem?_eq_none q] at hx;cases hx
 have hxe:g.ns[n]=x:=by rw[List.getElem?_eq_getElem hn] at hx;exact Option.some.inj hx
 have hl:(g.ns.take n).length=n:=by rw[List.length_take];omega
 have h1:yG ((g.ns.take n).map (fun x=>(x.nm,x.cl))) x.nm 0=-1:=ydQ fun y hy e=>by
  obtain⟨z,hz,rfl⟩:=List.mem_map.1 hy;obtain⟨i,hi,rfl⟩:=List.mem_take_iff_getElem.1 hz;have hd:=hg.nn;unfold List.Nodup at hd;rw[List.pairwise_iff_getElem] at hd;refine hd i n (by rw[List.length_map];omega) (by rw[List.length_map];exact hn) (by omega) ?_;rw[List.getElem_map,List.getElem_map,hxe];exact e
 have h2:yaw (g.cs.take k) x.nm=false:=ygV fun y hy e=>hg.nc x (List.mem_of_getElem? hx) y (List.mem_of_mem_take hy) e.symm
 have ht:g.ns.take (n+1)=g.ns.take n++[x]:=by rw[List.take_succ_eq_append_getElem hn,hxe]
 have hm:yN (sAt g n k) x.nm ⟨c,[],[]⟩=⟨(g.ns.take n).map (fun x=>(x.nm,x.cl))++[(x.nm,c)],(g.ns.take n).map ybd++[[]],g.cs.take k,[],0⟩:=by
  unfold yN sAt;simp only[h1,h2];rw[if_pos (by decide),if_neg (by simp)]
 have hi:ybS (sAt g n k) x.nm=(((g.ns.take n).map ybd).length:Int):=by
  unfold ybS sAt;simp only[h1];rw[if_pos (by decide),List.length_map,List.length_map]
 unfold ybp;rw[yhH,hm,hi];simp only;rw[yhX,yhO (yhQ x)];unfold sAt;rw[ht,List.map_append,List.map_append];simp only[List.map_cons,List.map_nil,hc]
def AtS (l:List St):Prop:=∀ y∈ybt l 0,∀ a∈y.1.attrs,a.2.length<=32
theorem AtS.cons {x:St}{t:List St}(h:AtS (x::t)):(∀ a∈x.attrs,a.2.length<=32)/\AtS x.body/\AtS t:=by
 unfold AtS at h |-;rw[yH,y6] at h;refine⟨h (x,0) (by simp),fun y hy=>?_,fun y hy=>h y (by simp[hy])⟩;obtain⟨lv,hlv⟩:=yez.2 x.body 0 (if x.kind=5 then (0:Int)+1 else 0) y hy;exact h (y.1,lv) (by simp only[List.cons_append,List.mem_cons,List.mem_append];exact Or.inr (Or.inl hlv))
theorem yds {x:St}{t:List St}{p:Pl}{s:Sta}(h0:s.e=0)(h1:stE x.kind x.name x.attrs=0)(h3:x.kind≠3):yX (x::t) p s=yX t p (ya9 x p s):=by
 rw[yaR,if_neg (by simp[h0]),if_neg (by simp[h1]),ybD h3]
theorem yn9 (n:Nm)(a:List Pr):stE 1 n a=yb1 1 a:=by
 unfold stE;rw[if_neg (by decide),if_neg (fun q=>q.elim (fun e=>absurd e (by decide)) (fun e=>absurd e.1 (by decide)))]
theorem yoa (n:Nm)(a:List Pr):stE 2 n a=yb1 2 a:=by unfold stE;rw[if_neg (by decide),if_pos (Or.inl rfl)]
theorem yq7 (n:Nm):stE 5 n []=0:=by
 unfold stE;rw[if_neg (by decide),if_neg (fun q=>q.elim (fun e=>absurd e (by decide)) (fun e=>absurd e.1 (by decide)))];rfl
theorem yq8 {g:gra.Gr}(hg:GV g){n k:Nat}{x:gra.Nd}{c:Int}{t:List St}(hx:g.ns[n]?=some x)(hc:x.cl=c)(ha:∀ a∈ybd x,a.2.length<=32):yX (ybp x::t) ⟨c,[],[]⟩ (sAt g n k)=yX t ⟨c,[],[]⟩ (sAt g (n+1) k):=by
 rw[yds (x:=ybp x) (s:=sAt g n k) rfl (by
  show stE 1 x.nm (ybd x)=0
  rw[yn9];refine yn3 (hg.nd x (List.mem_of_getElem? hx)) fun hp=>?_
  refine ha (yY,yT x.ps) ?_;unfold ybd
  rw[if_neg hp];simp) (show (1:Int)≠3 by decide),ylM hg hx hc]
theorem yeo {g:gra.Gr}(hg:GV g):∀ (f:Nat) (c:Int) (n k:Nat) (rest:List St),AtS (yR g f c n k).1 ->
    yX ((yR g f c n k).1++rest) ⟨c,[],[]⟩ (sAt g n k)=yX rest ⟨c,[],[]⟩ (sAt g (yR g f c n k).2.1 (yR g f c n k).2.2)
 | 0,_,_,_,_,_=>rfl
 | f+1,c,n,k,rest,ha=>by
  have nodes:∀ y,g.ns[n]?=some y->y.cl=c->AtS (ybp y::(yR g f c (n+1) k).1)->yX ((ybp y::(yR g f c (n+1) k).1)++rest) ⟨c,[],[]⟩ (sAt g n k)=yX rest ⟨c,[],[]⟩ (sAt g (yR g f c (n+1) k).2.1 (yR g f c (n+1) k).2.2):=fun y hy hc h=>by
   obtain⟨a1,-,a3⟩:=h.cons;rw[List.cons_append,yq8 hg hy hc a1,yeo hg f c (n+1) k rest a3]
  cases hk:g.cs[k]? with
  | none =>
   cases hn:g.ns[n]? with
   | none =>
    have e:yR g (f+1) c n k=([],n,k):=by rw[yR];simp only[hk,hn]
    rw[e];rfl
   | some y =>
    by_cases hc:y.cl=c
    ·have e:yR g (f+1) c n k=(ybp y::(yR g f c (n+1) k).1,(yR g f c (n+1) k).2):=by rw[yR];simp only[hk,hn];rw[if_pos hc]
     rw[e] at ha |-;exact nodes y hn hc ha
    ·have e:yR g (f+1) c n k=([],n,k):=by rw[yR];simp only[hk,hn];rw[if_neg hc]
     rw[e];rfl
  | some x =>
   by_cases hx:x.2=c/\inC g n k=true
   ·have e:yR g (f+1) c n k=(.mk 5 x.1 [] [] (yR g f k n (k+1)).1::(yR g f c (yR g f k n (k+1)).2.1 (yR g f k n (k+1)).2.2).1,(yR g f c (yR g f k n (k+1)).2.1 (yR g f k n (k+1)).2.2).2):=by rw[yR];simp only[hk];rw[if_pos hx]
    rw[e] at ha |-;obtain⟨-,a2,a3⟩:=ha.cons
    have hkl:k<g.cs.length:=by
     rcases Nat.lt_or_ge k g.cs.length with q | q
     ·exact q
     ·rw[List.getElem?_eq_none q] at hk;cases hk
    have hxe:g.cs[k]=x:=by rw[List.getElem?_eq_getElem hkl] at hk;exact Option.some.inj hk
    have h1:yaw (g.cs.take k) x.1=false:=ygV fun y hy e=>by
     obtain⟨i,hi,rfl⟩:=List.mem_take_iff_getElem.1 hy;have hd:=hg.cn;unfold List.Nodup at hd;rw[List.pairwise_iff_getElem] at hd;refine hd i k (by rw[List.length_map];omega) (by rw[List.length_map];exact hkl) (by omega) ?_;rw[List.getElem_map,List.getElem_map,hxe];exact e
    have h2:yG ((g.ns.take n).map (fun x=>(x.nm,x.cl))) x.1 0=-1:=ydQ fun y hy e=>by
     obtain⟨z,hz,rfl⟩:=List.mem_map.1 hy;exact hg.nc z (List.mem_of_mem_take hz) x (List.mem_of_getElem? hk) e
    have hl:(g.cs.take k).length=k:=by rw[List.length_take];omega
    have hs:ya9 (.mk 5 x.1 [] [] (yR g f k n (k+1)).1) ⟨c,[],[]⟩ (sAt g n k)=sAt g (yR g f k n (k+1)).2.1 (yR g f k n (k+1)).2.2:=by
     rw[yjt];unfold sAt;simp only[h1,h2,hl];rw[if_neg (by simp)];have q:=yeo hg f k n (k+1) [] a2;rw[List.append_nil,ybc] at q;unfold sAt at q;rw[<- q]
     congr 1
     rw[List.take_succ_eq_append_getElem hkl,hxe,<- hx.1]
    rw[List.cons_append,yds (x:=.mk 5 x.1 [] [] (yR g f k n (k+1)).1) (s:=sAt g n k) rfl (yq7 x.1) (show (5:Int)≠3 by decide),hs];exact yeo hg f c _ _ rest a3
   ·cases hn:g.ns[n]? with
    | none =>
     have e:yR g (f+1) c n k=([],n,k):=by rw[yR];simp only[hk,hn];rw[if_neg hx]
     rw[e];rfl
    | some y =>
     by_cases hc:y.cl=c
     ·have e:yR g (f+1) c n k=(ybp y::(yR g f c (n+1) k).1,(yR g f c (n+1) k).2):=by rw[yR];simp only[hk,hn];rw[if_neg hx,if_pos hc]
      rw[e] at ha |-;exact nodes y hn hc ha
     ·have e:yR g (f+1) c n k=([],n,k):=by rw[yR];simp only[hk,hn];rw[if_neg hx,if_neg hc]
      rw[e];rfl
end Go.Proofs.YtgmidodmmlmmeaaGreatDoor.xpt
