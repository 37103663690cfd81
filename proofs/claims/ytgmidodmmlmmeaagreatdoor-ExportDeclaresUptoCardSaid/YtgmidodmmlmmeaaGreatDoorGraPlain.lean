/-
  Contracts and plain facts of the layers below; conditions as each theorem states them.
-/
import Derived.Test.YtgmidodmmlmmeaaGreatDoorMaa
namespace Go.Proofs.YtgmidodmmlmmeaaGreatDoor.gra
open lex
abbrev Pt:=List UInt8 × Int
abbrev Cl:=List UInt8 × Int
structure Nd where
 nm:List UInt8
 lb:List UInt8
 w:Int
 h:Int
 cl:Int
 ps:List Pt
deriving DecidableEq
structure Ed where
 fr:Int
 «to»:Int
 fp:Int
 tp:Int
 lb:List UInt8
 wt:Int
 ln:Int
deriving DecidableEq
structure Gr where
 nm:List UInt8
 dir:Bool
 ns:List Nd
 es:List Ed
 cs:List Cl
deriving DecidableEq
def plainB (s:List UInt8):Bool:=s.all yar
def firstE {α:Type}(f:List α->α->Int):List α->List α->Int
 | _,[]=>0
 | pre,x::t=>if f pre x≠0 then f pre x else firstE f (pre++[x]) t
theorem firstE_ok {α:Type}{f:List α->α->Int}:∀ {l pre:List α},firstE f pre l=0->∀ i x,l[i]?=some x->f (pre++l.take i) x=0
 | [],_,_,i,x,hx=>by simp at hx
 | y::t,pre,h,i,x,hx=>by
  unfold firstE at h
  split at h
  ·rename_i hne;exact absurd h hne
  ·rename_i hne
   cases i with
   | zero =>
    simp only[List.getElem?_cons_zero,Option.some.injEq] at hx;subst hx
    simpa using hne
   | succ i =>
    simp only[List.getElem?_cons_succ] at hx;have:=firstE_ok h i x hx
    simpa [List.append_assoc] using this
theorem ybo {α:Type}{f:List α->α->Int}{l:List α}{i:Nat}(h:i<l.length):firstE f (l.take i) (l.drop i)=if f (l.take i) l[i]≠0 then f (l.take i) l[i] else firstE f (l.take (i+1)) (l.drop (i+1)):=by
 rw[List.drop_eq_getElem_cons h,List.take_succ_eq_append_getElem h];rfl
theorem ya4 {α:Type}{f:List α->α->Int}{l:List α}{i:Nat}(h:l.length<=i):firstE f (l.take i) (l.drop i)=0:=by rw[List.drop_eq_nil_of_le h];rfl
theorem yjn {α:Type}{f:α->Bool}{l:List α}{k:Nat}(h:k<l.length):(l.take (k+1)).any f=((l.take k).any f||f l[k]):=by
 rw[List.take_succ_eq_append_getElem h,List.any_append];simp
theorem yjo {α:Type}{f:α->Bool}{l:List α}{k i:Nat}(h:k<l.length)(hk:k<i)(hf:f l[k]=true):(l.take i).any f=true:=by
 rw[List.any_eq_true];exact⟨l[k],List.mem_take_iff_getElem.2 ⟨k,by omega,rfl⟩,hf⟩
def portE (pre:List Pt)(p:Pt):Int:=if yK p.1=false then 5 else if pre.any (fun q=>q.1==p.1) then 6 else if p.2<0\/3<p.2 then 7 else 0
def nodeE (g:Gr)(pre:List Nd)(x:Nd):Int :=
 if yK x.nm=false then 5 else if pre.any (fun y=>y.nm==x.nm) then 6 else if 32<x.lb.length then 2 else if plainB x.lb=false then 7
 else if x.w<1\/1048576<x.w\/x.h<1\/1048576<x.h\/x.cl < -1\/(g.cs.length:Int)<=x.cl then 3
 else if 8<x.ps.length then 2 else firstE portE [] x.ps
def findG:List Nd->List UInt8->Nat->Int
 | [],_,_=>-1
 | x::t,s,i=>if x.nm=s then (i:Int) else findG t s (i+1)
def ykH (g:Gr)(s:List UInt8):Int:=findG g.ns s 0
theorem yjp {l:List Nd}{s:List UInt8}{k:Nat}(h:k<l.length):findG (l.drop k) s k=if l[k].nm=s then (k:Int) else findG (l.drop (k+1)) s (k+1):=by
 rw[List.drop_eq_getElem_cons h];rfl
theorem yhF {l:List Nd}{s:List UInt8}{k:Nat}(h:l.length<=k):findG (l.drop k) s k=-1:=by rw[List.drop_eq_nil_of_le h];rfl
theorem ygH (l:List Nd)(s:List UInt8):∀ k,findG l s k=-1\/(k:Int)<=findG l s k:=by
 induction l with
 | nil=>intro k;exact Or.inl rfl
 | cons x t ih =>
  intro k;unfold findG
  split
  ·exact Or.inr (Int.le_refl _)
  ·rcases ih (k+1) with h | h
   ·exact Or.inl h
   ·exact Or.inr (by omega)
theorem yeP {s:List UInt8}:∀ {l:List Nd} {i:Nat} {x:Nd} (j:Nat),l[i]?=some x->x.nm=s->(findG l s j=(j+i:Nat)↔(l.take i).any (fun y=>y.nm==s)=false)
 | [],i,x,j,h,_=>by simp at h
 | y::t,0,x,j,h,hs=>by
  simp only[List.getElem?_cons_zero,Option.some.injEq] at h;subst h;simp[findG,hs]
 | y::t,i+1,x,j,h,hs=>by
  simp only[List.getElem?_cons_succ] at h;have ih:=yeP (l:=t) (j+1) h hs;unfold findG
  by_cases hy:y.nm=s
  ·rw[if_pos hy]
   simp[hy];omega
  ·rw[if_neg hy]
   have e:j+1+i=j+(i+1):=by omega
   rw[e] at ih;rw[ih];simp[hy]
theorem yhG {s:List UInt8}(l:List Nd):∀ j,(0<=findG l s j↔l.any (fun y=>y.nm==s)=true):=by
 induction l with
 | nil=>intro j;simp[findG]
 | cons y t ih =>
  intro j;unfold findG
  by_cases hy:y.nm=s
  ·rw[if_pos hy];simp[hy]
  ·rw[if_neg hy,ih];simp[hy]
def up (cs:List Cl)(c:Int):Int:=match cs[c.toNat]? with | some x=>x.2 | none=>-1
def chain (cs:List Cl):Nat->Int->List Int
 | 0,_=>[]
 | n+1,c=>if c<0 then [] else c::chain cs n (up cs c)
def ch (cs:List Cl)(c:Int):List Int:=chain cs (c+1).toNat c
def dep (cs:List Cl)(c:Int):Int:=(ch cs c).length
def clusterE (g:Gr)(pre:List Cl)(x:Cl):Int :=
 if yK x.1=false then 5 else if pre.any (fun y=>y.1==x.1) then 6 else if g.ns.any (fun y=>y.nm==x.1) then 6
 else if x.2 < -1\/(pre.length:Int)<=x.2 then 3 else if 6<dep (pre++[x]) pre.length then 2 else 0
def Wf (cs:List Cl):Prop:=∀ (i:Nat) (x:Cl),cs[i]?=some x->-1<=x.2/\x.2<(i:Int)
theorem up_neg (cs:List Cl)(h:Wf cs)(c:Int)(hc:0<=c):-1<=up cs c/\up cs c<c:=by
 unfold up
 split
 ·rename_i x hx;have:=h _ x hx;omega
 ·omega
theorem yfX {cs:List Cl}(h:Wf cs):∀ (n m:Nat) (c:Int),c<(n:Int)->c<(m:Int)->chain cs n c=chain cs m c
 | 0,0,_,_,_=>rfl
 | 0,m+1,c,h0,_=>by unfold chain;rw[if_pos (by omega)]
 | n+1,0,c,_,h0=>by unfold chain;rw[if_pos (by omega)]
 | n+1,m+1,c,h0,h1=>by
  unfold chain
  by_cases hc:c<0
  ·rw[if_pos hc,if_pos hc]
  ·rw[if_neg hc,if_neg hc]
   have:=up_neg cs h c (by omega);rw[yfX h n m (up cs c) (by omega) (by omega)]
theorem ch_neg (cs:List Cl)(c:Int)(h:c<0):ch cs c=[]:=by
 unfold ch
 cases (c+1).toNat with
 | zero=>rfl
 | succ n=>unfold chain;rw[if_pos h]
theorem ch_cons {cs:List Cl}(h:Wf cs)(c:Int)(hc:0<=c):ch cs c=c::ch cs (up cs c):=by
 have hu:=up_neg cs h c hc;unfold ch;obtain⟨n,hn⟩:∃ n,(c+1).toNat=n+1:=⟨c.toNat,by omega⟩
 rw[hn]
 conv=>lhs;unfold chain
 rw[if_neg (by omega),yfX h n (up cs c+1).toNat (up cs c) (by omega) (by omega)]
theorem ygI (cs:List Cl)(c:Int)(h:c<0):dep cs c=0:=by unfold dep;rw[ch_neg cs c h];rfl
theorem ylo {cs:List Cl}(h:Wf cs)(c:Int)(hc:0<=c):dep cs c=dep cs (up cs c)+1:=by
 unfold dep;rw[ch_cons h c hc,List.length_cons];omega
theorem yfY (cs:List Cl)(c:Int):0<=dep cs c:=by unfold dep;omega
theorem yeQ {cs:List Cl}(h:Wf cs):∀ (n:Nat) (c:Int),c<(n:Int)->-1<=c->dep cs c<=c+1
 | 0,c,h0,h1=>by rw[ygI cs c (by omega)];omega
 | n+1,c,h0,h1=>by
  by_cases hc:c<0
  ·rw[ygI cs c hc];omega
  ·have hu:=up_neg cs h c (by omega)
   have:=yeQ h n (up cs c) (by omega) hu.1;rw[ylo h c (by omega)];omega
theorem up_at {cs:List Cl}{k:Nat}(h:k<cs.length):up cs (k:Int)=cs[k].2:=by
 unfold up;rw[show ((k:Int)).toNat=k by omega,List.getElem?_eq_getElem h]
theorem ylp {cs:List Cl}(h:Wf cs){c:Int}:∀ {k:Int},c∈ch cs k->∃ pre,ch cs k=pre++ch cs c:=by
 suffices H:∀ (n:Nat) (k:Int),k<(n:Int)->c∈ch cs k->∃ pre,ch cs k=pre++ch cs c from fun {k} hk=>H (k+1).toNat k (by omega) hk
 intro n
 induction n with
 | zero=>intro k h0 hm;rw[ch_neg cs k (by omega)] at hm;exact nomatch hm
 | succ n ih =>
  intro k h0 hm
  by_cases hk:k<0
  ·rw[ch_neg cs k hk] at hm;exact nomatch hm
  ·have hu:=up_neg cs h k (by omega)
   rw[ch_cons h k (by omega)] at hm
   rcases List.mem_cons.1 hm with rfl | hm
   ·exact⟨[],rfl⟩
   ·obtain⟨p,hp⟩:=ih (up cs k) (by omega) hm
    exact⟨k::p,by rw[ch_cons h k (by omega),hp];rfl⟩
theorem yjq {cs:List Cl}(h:Wf cs)(c:Int)(hc:0<=c):c∈ch cs c:=by rw[ch_cons h c hc];exact List.mem_cons_self ..
theorem yqm {cs:List Cl}(h:Wf cs){c k:Int}(hm:c∈ch cs k):c<=k:=by
 suffices H:∀ (n:Nat) (k:Int),k<(n:Int)->c∈ch cs k->c<=k from H (k+1).toNat k (by omega) hm
 intro n
 induction n with
 | zero=>intro k h0 hm;rw[ch_neg cs k (by omega)] at hm;exact nomatch hm
 | succ n ih =>
  intro k h0 hm
  by_cases hk:k<0
  ·rw[ch_neg cs k hk] at hm;exact nomatch hm
  ·have hu:=up_neg cs h k (by omega)
   rw[ch_cons h k (by omega)] at hm
   rcases List.mem_cons.1 hm with rfl | hm
   ·exact Int.le_refl _
   ·have:=ih (up cs k) (by omega) hm;omega
theorem ylq {cs:List Cl}(h:Wf cs){c m k:Int}(hc:c∈ch cs m)(hm:m∈ch cs k):c∈ch cs k:=by
 obtain⟨q,hq⟩:=ylp h hm;rw[hq];exact List.mem_append_right _ hc
def clOf (g:Gr)(v:Nat):Int:=match g.ns[v]? with | some x=>x.cl | none=>-1
def has (g:Gr)(c:Int)(v:Nat):Bool:=decide (c=-1)||decide (c∈ch g.cs (clOf g v))
def mems (g:Gr)(c:Int):List Nat:=(List.range g.ns.length).filter (has g c)
theorem yqU (g:Gr)(c:Int)(v:Nat):has g c v=true↔c=-1\/c∈ch g.cs (clOf g v):=by simp[has]
def edgeE (g:Gr)(x:Ed):Int :=
 if x.fr<0\/(g.ns.length:Int)<=x.fr\/x.to<0\/(g.ns.length:Int)<=x.to then 3
 else if x.fp < -1\/((match g.ns[x.fr.toNat]? with | some n=>n.ps.length | none=>0:Nat):Int)<=x.fp\/x.tp < -1\/((match g.ns[x.to.toNat]? with | some n=>n.ps.length | none=>0:Nat):Int)<=x.tp then 3
 else if 32<x.lb.length then 2
 else if plainB x.lb=false\/x.wt<1\/1000<x.wt\/x.ln<1\/64<x.ln then 7 else 0
def validE (g:Gr):Int :=
 if 64<g.ns.length\/256<g.es.length\/16<g.cs.length then 2
 else if yK g.nm=false then 5
 else if firstE (nodeE g) [] g.ns≠0 then firstE (nodeE g) [] g.ns
 else if firstE (clusterE g) [] g.cs≠0 then firstE (clusterE g) [] g.cs
 else firstE (fun _ x=>edgeE g x) [] g.es
theorem yjr (g:Gr)(h:validE g=0):Wf g.cs/\∀ v:Nat,v<g.ns.length->-1<=clOf g v/\clOf g v<(g.cs.length:Int):=by
 unfold validE at h
 split at h
 ·exact absurd h (by decide)
 split at h
 ·exact absurd h (by decide)
 split at h
 ·rename_i hn;exact absurd h hn
 split at h
 ·rename_i hn;exact absurd h hn
 rename_i _ _ hn hc
 have hn':=firstE_ok (f:=nodeE g) (l:=g.ns) (pre:=[]) (by simpa using hn);have hc':=firstE_ok (f:=clusterE g) (l:=g.cs) (pre:=[]) (by simpa using hc);refine⟨fun i x hx=>?_,fun v hv=>?_⟩
 ·have:=hc' i x hx
  unfold clusterE at this
  have hi:i<g.cs.length:=by
   rcases Nat.lt_or_ge i g.cs.length with h | h
   ·exact h
   ·rw[List.getElem?_eq_none h] at hx;exact nomatch hx
  simp only[List.nil_append,List.length_take] at this
  repeat' (split at this;exact absurd this (by decide))
  rename_i hh _
  omega
 ·have hx:g.ns[v]?=some g.ns[v]:=List.getElem?_eq_getElem hv
  have:=hn' v _ hx;unfold nodeE at this;unfold clOf;rw[hx];dsimp only
  repeat' (split at this;exact absurd this (by decide))
  rename_i hh _
  omega
end Go.Proofs.YtgmidodmmlmmeaaGreatDoor.gra
