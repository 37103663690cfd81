/-
  Contracts and plain facts of the layers below; conditions as each theorem states them.
-/
import Derived.Test.YtgmidodmmlmmeaaGreatDoorMta
import Derived.Deep.AppendLies
import Derived.Lib.QuietBelow
set_option maxHeartbeats 4000000
set_option maxRecDepth 100000
namespace Go.Proofs.YtgmidodmmlmmeaaGreatDoor.att
open Go.RowKit lex tre
theorem ylk:∀ (x y:List UInt8),Op.bytesLess x y=decide (x<y)
 | [],[]=>by simp[Op.bytesLess]
 | _::_,[]=>by simp[Op.bytesLess]
 | [],_::_=>by simp[Op.bytesLess]
 | a::x,b::y=>by
  rw[Op.bytesLess,ylk x y];simp only[List.cons_lt_cons_iff]
  by_cases h1:a<b <;> by_cases h2:a=b <;> by_cases h3:x<y <;> simp[h1,h2,h3]
theorem yc2 (a:List UInt8):¬ a<a:=List.lt_irrefl a
theorem yll {a b c:List UInt8}(h:a<b)(k:b<c):a<c:=List.lt_trans h k
theorem ysK {a b:List UInt8}(h:¬ a<b)(k:¬ b<a):a=b:=List.le_antisymm (List.not_lt.1 k) (List.not_lt.1 h)
def yai:List Pr->List UInt8->List UInt8 × Bool
 | [],_=>([],false)
 | a::t,k=>if (yai t k).2 then yai t k else if a.1=k then (a.2,true) else ([],false)
theorem ycf (a b:List Pr)(k:List UInt8):yai (a++b) k=if (yai b k).2 then yai b k else yai a k:=by
 induction a with
 | nil =>
  rw[List.nil_append]
  split
  ·rfl
  ·rename_i h
   have:∀ l:List Pr,(yai l k).2=false->yai l k=([],false):=by
    intro l
    induction l with
    | nil=>intro _;rfl
    | cons x t ih =>
     intro hl;unfold yai at hl |-
     split
     ·rename_i h1;rw[if_pos h1] at hl;rw[h1] at hl;cases hl
     ·rename_i h1
      rw[if_neg h1] at hl
      split
      ·rename_i h2;rw[if_pos h2] at hl;cases hl
      ·rfl
   rw[this b (by simpa using h)];rfl
 | cons x t ih =>
  rw[List.cons_append]
  show (if (yai (t++b) k).2 then yai (t++b) k else if x.1=k then (x.2,true) else ([],false))=_
  rw[ih]
  by_cases h:(yai b k).2=true
  ·rw[if_pos h,if_pos h,if_pos h]
  ·rw[if_neg h,if_neg h];rfl
theorem ybZ {l:List Pr}{k:List UInt8}(h:(yai l k).2=false):yai l k=([],false):=by
 have h1:=ycf [] l k;rw[List.nil_append,if_neg (by rw[h];decide)] at h1;exact h1
theorem yeL (l:List Pr)(a:Pr)(k:List UInt8):yai (l++[a]) k=if a.1=k then (a.2,true) else yai l k:=by
 rw[ycf]
 show (if (if a.1=k then (a.2,true) else (([]:List UInt8),false)).2 then (if a.1=k then (a.2,true) else ([],false)) else yai l k)=_
 split <;> rename_i h <;> split <;> rename_i h1 <;> simp_all
theorem ydn {l:List Pr}{k:List UInt8}:(yai l k).2=true ↔ ∃ a∈l,a.1=k:=by
 induction l with
 | nil=>exact⟨fun h=>(by cases h),fun⟨a,h,_⟩=>nomatch h⟩
 | cons x t ih =>
  unfold yai
  constructor
  ·intro h
   split at h
   ·obtain⟨a,h1,h2⟩:=ih.1 h;exact⟨a,List.mem_cons_of_mem _ h1,h2⟩
   ·split at h
    ·rename_i h1;exact⟨x,List.mem_cons_self,h1⟩
    ·cases h
  ·rintro⟨a,h1,h2⟩
   split
   ·assumption
   ·rename_i h3
    rcases List.mem_cons.1 h1 with rfl | h1
    ·rw[if_pos h2]
    ·exact absurd (ih.2 ⟨a,h1,h2⟩) h3
def yd6 (a:Pr):List Pr->Bool->List Pr
 | [],d=>if d then [] else [a]
 | x::t,d=>(if d=false/\¬ x.1<a.1 then [a] else [])++((if x.1≠a.1 then [x] else [])++yd6 a t (d||decide (¬ x.1<a.1)))
def ysF (l:List Pr)(a:Pr):List Pr:=yd6 a l false
theorem ygE {P:List Pr->Prop}(h0:P [])(hs:∀ l a,P l->P (l++[a]))(l:List Pr):P l:=by
 have h:∀ m:List Pr,P m.reverse:=by
  intro m
  induction m with
  | nil=>exact h0
  | cons a t ih=>rw[List.reverse_cons];exact hs _ _ ih
 have:=h l.reverse
 rwa [List.reverse_reverse] at this
def ybJ (l:List Pr):List Pr:=l.foldl ysF []
def yB (a b:List Pr):List Pr:=ybJ (a++b)
theorem yb0 (l:List Pr)(a:Pr):ybJ (l++[a])=ysF (ybJ l) a:=by unfold ybJ;rw[List.foldl_append];rfl
def Asc:List Pr->Prop
 | []=>True
 | x::t=>(∀ y∈t,x.1<y.1)/\Asc t
theorem ydo {a:Pr}{l:List Pr}(h:∀ y∈l,a.1<y.1):yd6 a l true=l:=by
 induction l with
 | nil=>rfl
 | cons x t ih =>
  have hx:=h x List.mem_cons_self;unfold yd6;rw[if_neg (by simp),if_pos (fun e=>yc2 a.1 (by rw[e] at hx;exact hx)),Bool.true_or,ih (fun y hy=>h y (List.mem_cons_of_mem _ hy))];rfl
theorem ynR {a:Pr}{l:List Pr}(h:Asc l):Asc (yd6 a l false)/\∀ y∈yd6 a l false,y=a\/y∈l:=by
 induction l with
 | nil=>exact⟨⟨fun y hy=>(nomatch hy),trivial⟩,fun y hy=>Or.inl (by simpa [yd6] using hy)⟩
 | cons x t ih =>
  obtain⟨h1,h2⟩:=h;obtain⟨i1,i2⟩:=ih h2;unfold yd6
  by_cases hx:x.1<a.1
  ·have hne:x.1≠a.1:=fun e=>yc2 a.1 (by rw[e] at hx;exact hx)
   rw[if_neg (fun e=>e.2 hx),if_pos hne,show (false||decide (¬ x.1<a.1))=false by simp[hx]];refine⟨⟨fun y hy=>?_,i1⟩,fun y hy=>?_⟩
   ·rcases i2 y hy with rfl | hy
    ·exact hx
    ·exact h1 y hy
   ·rcases List.mem_cons.1 hy with rfl | hy
    ·exact Or.inr List.mem_cons_self
    ·rcases i2 y hy with rfl | hy
     ·exact Or.inl rfl
     ·exact Or.inr (List.mem_cons_of_mem _ hy)
  ·rw[if_pos ⟨rfl,hx⟩,show (false||decide (¬ x.1<a.1))=true by simp[hx]]
   by_cases he:x.1=a.1
   ·rw[if_neg (fun e=>e he),ydo (fun y hy=>by rw[<- he];exact h1 y hy)]
    refine⟨⟨fun y hy=>by rw[<- he];exact h1 y hy,h2⟩,fun y hy=>?_⟩
    rcases List.mem_cons.1 hy with rfl | hy
    ·exact Or.inl rfl
    ·exact Or.inr (List.mem_cons_of_mem _ hy)
   ·have hax:a.1<x.1:=by
      rcases Decidable.em (a.1<x.1) with q | q
      ·exact q
      ·exact absurd (ysK hx q) he
    rw[if_pos he,ydo (fun y hy=>yll hax (h1 y hy))];refine⟨⟨fun y hy=>?_,h1,h2⟩,fun y hy=>?_⟩
    ·rcases List.mem_cons.1 hy with rfl | hy
     ·exact hax
     ·exact yll hax (h1 y hy)
    ·rcases List.mem_cons.1 hy with rfl | hy
     ·exact Or.inl rfl
     ·exact Or.inr hy
theorem ydp {l:List Pr}{k:List UInt8}(h:∀ y∈l,y.1≠k):yai l k=([],false) :=
 ybZ (by cases hq:(yai l k).2 with
  | false=>rfl
  | true=>obtain⟨a,h1,h2⟩:=ydn.1 hq;exact absurd h2 (h a h1))
theorem yae {x:Pr}{t:List Pr}{k:List UInt8}:yai (x::t) k=if (yai t k).2 then yai t k else if x.1=k then (x.2,true) else ([],false):=rfl
theorem ynS {a:Pr}{l:List Pr}(h:Asc l)(k:List UInt8):yai (yd6 a l false) k=if a.1=k then (a.2,true) else yai l k:=by
 induction l with
 | nil=>unfold yd6;simp only[Bool.false_eq_true,if_false];rw[yae];rfl
 | cons x t ih =>
  obtain⟨h1,h2⟩:=h;have hi:=ih h2;unfold yd6
  by_cases hx:x.1<a.1
  ·have hne:x.1≠a.1:=fun e=>yc2 a.1 (by rw[e] at hx;exact hx)
   rw[if_neg (fun e=>e.2 hx),if_pos hne,show (false||decide (¬ x.1<a.1))=false by simp[hx]]
   show yai (x::yd6 a t false) k=_
   rw[yae,hi,yae]
   by_cases hk:a.1=k
   ·rw[if_pos hk,if_pos hk];rfl
   ·rw[if_neg hk,if_neg hk]
  ·rw[if_pos ⟨rfl,hx⟩,show (false||decide (¬ x.1<a.1))=true by simp[hx]]
   have far:∀ {t:List Pr},(∀ y∈t,a.1<y.1)->a.1=k->yai t k=([],false):=fun ht hk=>ydp fun y hy e=>yc2 k (by have:=ht y hy;rwa [hk,e] at this)
   by_cases he:x.1=a.1
   ·have ht:∀ y∈t,a.1<y.1:=fun y hy=>by rw[<- he];exact h1 y hy
    rw[if_neg (fun e=>e he),ydo ht]
    show yai (a::t) k=_
    rw[yae,yae]
    by_cases hk:a.1=k
    ·rw[if_pos hk,far ht hk];simp[hk]
    ·rw[if_neg hk,if_neg hk,if_neg (show ¬ x.1=k by rw[he];exact hk)]
   ·have hax:a.1<x.1:=by
      rcases Decidable.em (a.1<x.1) with q | q
      ·exact q
      ·exact absurd (ysK hx q) he
    have ht:∀ y∈x::t,a.1<y.1:=fun y hy=>by
     rcases List.mem_cons.1 hy with rfl | hy
     ·exact hax
     ·exact yll hax (h1 y hy)
    rw[if_pos he,ydo (fun y hy=>yll hax (h1 y hy))]
    show yai (a::x::t) k=_
    rw[yae]
    by_cases hk:a.1=k
    ·rw[if_pos hk,far ht hk];simp[hk]
    ·rw[if_neg hk,if_neg hk]
     cases hq:(yai (x::t) k).2 with
     | true=>rfl
     | false=>rw[ybZ hq];rfl
theorem yiK (l:List Pr):Asc (ybJ l)/\∀ k,yai (ybJ l) k=yai l k:=by
 induction l using ygE with
 | h0=>exact⟨trivial,fun _=>rfl⟩
 | hs l a ih =>
  rw[yb0];exact⟨(ynR ih.1).1,fun k=>by rw[yeL,<- ih.2];exact ynS ih.1 k⟩
theorem yqR:∀ {l m:List Pr},Asc l->Asc m->(∀ k,yai l k=yai m k)->l=m:=by
 intro l
 induction l with
 | nil =>
  intro m _ hm h
  cases m with
  | nil=>rfl
  | cons y t =>
   have:=(ydn (l:=y::t) (k:=y.1)).2 ⟨y,List.mem_cons_self,rfl⟩;rw[<- h] at this;cases this
 | cons x t ih =>
  intro m hl hm h
  cases m with
  | nil =>
   have:=(ydn (l:=x::t) (k:=x.1)).2 ⟨x,List.mem_cons_self,rfl⟩;rw[h] at this;cases this
  | cons y s =>
   have hx:yai (x::t) x.1=(x.2,true):=by
    rw[yae,ydp fun z hz e=>yc2 x.1 (by have:=hl.1 z hz;rwa [e] at this)];simp
   have hy:yai (y::s) y.1=(y.2,true):=by
    rw[yae,ydp fun z hz e=>yc2 y.1 (by have:=hm.1 z hz;rwa [e] at this)];simp
   have k1:x.1=y.1:=by
    have e1:∃ a∈y::s,a.1=x.1:=ydn.1 (by rw[<- h,hx])
    have e2:∃ a∈x::t,a.1=y.1:=ydn.1 (by rw[h,hy])
    obtain⟨a,ha,ea⟩:=e1;obtain⟨b,hb,eb⟩:=e2
    rcases List.mem_cons.1 ha with rfl | ha
    ·exact ea.symm
    ·rcases List.mem_cons.1 hb with rfl | hb
     ·exact eb
     ·have q1:=hm.1 a ha
      have q2:=hl.1 b hb;rw[ea] at q1;rw[eb] at q2;exact absurd (yll q1 q2) (yc2 _)
   have k2:x.2=y.2:=by
    rw[h,k1,hy] at hx;exact(Prod.mk.inj hx).1.symm
   have hxy:x=y:=Prod.ext k1 k2;subst hxy;rw[ih hl.2 hm.2 fun k=>?_]
   by_cases hk:x.1=k
   ·subst hk
    rw[ydp fun z hz e=>yc2 x.1 (by have:=hl.1 z hz;rwa [e] at this),ydp fun z hz e=>yc2 x.1 (by have:=hm.1 z hz;rwa [e] at this)]
   ·have h3:=h k
    rw[yae,yae,if_neg hk] at h3
    cases hq:(yai t k).2 with
    | true =>
     rw[hq] at h3;simp only[if_true] at h3
     cases hr:(yai s k).2 with
     | true=>rw[hr] at h3;simpa using h3
     | false=>rw[hr] at h3;simp only[Bool.false_eq_true,if_false] at h3;rw[h3] at hq;cases hq
    | false =>
     rw[hq] at h3;simp only[Bool.false_eq_true,if_false] at h3
     cases hr:(yai s k).2 with
     | true=>rw[hr] at h3;simp only[if_true] at h3;rw[<- h3] at hr;cases hr
     | false=>rw[ybZ hq,ybZ hr]
theorem ylm (a b:List Pr):Asc (yB a b):=(yiK _).1
theorem yqS (a:Pr):∀ (l:List Pr) (d:Bool),(yd6 a l d).length<=l.length+1:=by
 intro l
 induction l with
 | nil=>intro d;unfold yd6;split <;> simp
 | cons x t ih =>
  intro d;unfold yd6;rw[List.length_append,List.length_append];cases d
  ·by_cases hx:x.1<a.1
   ·rw[if_neg (fun e=>e.2 hx),show (false||decide (¬ x.1<a.1))=false by simp[hx]]
    have:=ih false;have:(if x.1≠a.1 then [x] else []).length<=1:=by split <;> simp
    simp only[List.length_nil,List.length_cons];omega
   ·rw[if_pos ⟨rfl,hx⟩,show (false||decide (¬ x.1<a.1))=true by simp[hx]]
    have h2:(yd6 a t true).length<=t.length:=by
     clear ih
     induction t with
     | nil=>simp[yd6]
     | cons y s ih =>
      unfold yd6;rw[if_neg (by simp),Bool.true_or,List.nil_append,List.length_append];have:(if y.1≠a.1 then [y] else []).length<=1:=by split <;> simp
      simp only[List.length_cons];omega
    have:(if x.1≠a.1 then [x] else []).length<=1:=by split <;> simp
    simp only[List.length_cons,List.length_nil];omega
  ·rw[if_neg (by simp),Bool.true_or]
   have:=ih true;have:(if x.1≠a.1 then [x] else []).length<=1:=by split <;> simp
   simp only[List.length_cons,List.length_nil];omega
theorem yjm (l:List Pr):(ybJ l).length<=l.length:=by
 induction l using ygE with
 | h0=>exact Nat.le_refl _
 | hs l a ih=>rw[yb0,List.length_append];exact Nat.le_trans (yqS _ _ _) (by simpa using ih)
theorem yqT {a:Pr}:∀ {l:List Pr} {d:Bool},∀ y∈yd6 a l d,y=a\/y∈l:=by
 intro l
 induction l with
 | nil=>intro d y hy;unfold yd6 at hy;split at hy;exact nomatch hy;exact Or.inl (by simpa using hy)
 | cons x t ih =>
  intro d y hy;unfold yd6 at hy
  rcases List.mem_append.1 hy with hy | hy
  ·split at hy
   ·exact Or.inl (by simpa using hy)
   ·exact nomatch hy
  ·rcases List.mem_append.1 hy with hy | hy
   ·split at hy
    ·exact Or.inr (by rw[List.mem_singleton.1 hy];exact List.mem_cons_self)
    ·exact nomatch hy
   ·exact(ih y hy).imp id (List.mem_cons_of_mem _)
theorem ygF (l:List Pr):∀ y∈ybJ l,y∈l:=by
 induction l using ygE with
 | h0=>exact fun y hy=>hy
 | hs l a ih =>
  rw[yb0];intro y hy
  rcases yqT y hy with rfl | hy
  ·simp
  ·exact List.mem_append_left _ (ih y hy)
def yE:List UInt8:=[108,97,98,101,108]
def yao:List UInt8:=[119,105,100,116,104]
def yQ:List UInt8:=[104,101,105,103,104,116]
def yY:List UInt8:=[112,111,114,116,115]
def yV:List UInt8:=[119,101,105,103,104,116]
def yej:List UInt8:=[108,101,110]
def ycv:List UInt8:=[109,111,100,101]
def yam:List UInt8:=[110,111,100,101,115,101,112]
def yan:List UInt8:=[114,97,110,107,115,101,112]
def yaM:List UInt8:=[109,97,114,103,105,110]
def yaN:List UInt8:=[114,111,117,110,100,115]
structure Ru where
 form:Int
 low:Int
 high:Int
 normal:Int
def ruN (c:List UInt8):Ru:=if c=yE then ⟨1,0,0,0⟩ else if c=yao then ⟨2,1,1048576,20000⟩ else if c=yQ then ⟨2,1,1048576,10000⟩ else if c=yY then ⟨4,0,0,0⟩ else ⟨0,0,0,0⟩
def ruE (c:List UInt8):Ru:=if c=yE then ⟨1,0,0,0⟩ else if c=yV then ⟨3,1,1000,1⟩ else if c=yej then ⟨3,1,64,1⟩ else ⟨0,0,0,0⟩
def ruS (c:List UInt8):Ru:=if c=ycv then ⟨5,0,0,0⟩ else if c=yam then ⟨2,0,1048576,10000⟩ else if c=yan then ⟨2,0,1048576,20000⟩ else if c=yaM then ⟨2,0,1048576,5000⟩ else if c=yaN then ⟨3,0,100,8⟩ else ⟨0,0,0,0⟩
def yo (k:Int)(c:List UInt8):Ru:=if k=1 then ruN c else if k=2 then ruE c else if k=4 then ruS c else ⟨0,0,0,0⟩
def yeM (x:Ru)(s:List UInt8):Int × Bool :=
 if (prL s).2≠0 then (0,false)
 else if x.form=3 then
  if (prL s).1.tmod 1000≠0 then (0,false)
  else ((prL s).1.tdiv 1000,decide (x.low<=(prL s).1.tdiv 1000)&&decide ((prL s).1.tdiv 1000<=x.high))
 else ((prL s).1,decide (x.low<=(prL s).1)&&decide ((prL s).1<=x.high))
def ya6:List (List UInt8):=[[108,97,121,101,114,101,100],[111,114,116,104,111,103,111,110,97,108],[115,116,114,97,105,103,104,116],[116,105,100,121],[114,97,100,105,97,108]]
def yeN:List (List UInt8):=[[116,111,112],[114,105,103,104,116],[98,111,116,116,111,109],[108,101,102,116]]
def yiL (s:List UInt8):List (List UInt8)->Int->Int
 | [],_=>-1
 | x::t,i=>if x=s then i else yiL s t (i+1)
def yln (s:List UInt8):Int:=yiL s ya6 0
def ygG (s:List UInt8):Int:=yiL s yeN 0
def yal (c:List UInt8):List UInt8->List (List UInt8)
 | []=>[c]
 | [x]=>[c++[x]]
 | x::y::t=>if x=44/\y=32 then c::yal [] t else yal (c++[x]) (y::t)
def yeO (s:List UInt8):List (List UInt8):=yal [] s
def yql (s:List UInt8):Option (List UInt8 × List UInt8):=if (s.takeWhile (·≠32)).length<s.length then some (s.takeWhile (·≠32),s.drop ((s.takeWhile (·≠32)).length+1)) else none
def ybB (s:List UInt8):Int × List UInt8 × Int:=match yql s with
 | none=>(4,[],0)
 | some (n,r)=>if ygG r<0 then (4,[],0) else if yK n=false then (5,[],0) else (0,n,ygG r)
def ybM:List (List UInt8)->List (List UInt8 × Int)->List (List UInt8 × Int) × Int
 | [],out=>(out,0)
 | s::t,out =>
  if (ybB s).1≠0 then ([],(ybB s).1)
  else if out.any (fun p=>decide (p.1=(ybB s).2.1)) then ([],6)
  else if out.length=8 then ([],2)
  else ybM t (out++[((ybB s).2.1,(ybB s).2.2)])
def yaQ (s:List UInt8):List (List UInt8 × Int) × Int:=if s=[] then ([],0) else ybM (yeO s) []
def yaY (k:Int):Bool:=decide (k=1)||decide (k=2)||decide (k=4)
def okV (x:Ru)(s:List UInt8):Bool :=
 if x.form=1 then s.all yar else if x.form=2\/x.form=3 then (yeM x s).2
 else if x.form=4 then decide ((yaQ s).2=0)&&decide (s.length<=32) else if x.form=5 then decide (0<=yln s) else true
def yaa (k:Int)(a:Pr):Int :=
 if yaY k=false then 1 else if (yo k a.1).form=0 then 5 else if (yo k a.1).form=1/\32<a.2.length then 2
 else if okV (yo k a.1) a.2 then 0 else 7
def ycA (k:Int)(l:List Pr)(c:List UInt8):Int :=
 if (yo k c).form≠2/\(yo k c).form≠3 then 0
 else if (yai l c).2=false then (yo k c).normal
 else if (yeM (yo k c) (yai l c).1).2 then (yeM (yo k c) (yai l c).1).1 else (yo k c).normal
theorem yfW (k:Int)(c:List UInt8):let x:=yo k c
    (x.form=0\/x.form=1\/x.form=4\/x.form=5)\/(yaY k=true/\((x.form=2/\0<=x.low/\x.low<=x.normal/\x.normal<=x.high/\x.high<=1048576)\/(x.form=3/\0<=x.low/\x.low<=x.normal/\x.normal<=x.high/\x.high<=1000))):=by
 show (_:Prop)
 unfold yo
 split
 ·rename_i h;subst h
  unfold ruN
  repeat' split
  all_goals decide
 ·split
  ·rename_i h;subst h
   unfold ruE
   repeat' split
   all_goals decide
  ·split
   ·rename_i h;subst h
    unfold ruS
    repeat' split
    all_goals decide
   ·exact Or.inl (Or.inl rfl)
theorem ysL (k:Int)(l:List Pr)(c:List UInt8)(h:(yo k c).form=2\/(yo k c).form=3) :
    0<=ycA k l c/\ycA k l c<=1048576/\((yo k c).form=3->ycA k l c<=1000)/\yaa k (c,yJ (if (yo k c).form=3 then 1000*ycA k l c else ycA k l c))=0:=by
 have hw:=yfW k c;simp only at hw
 rcases hw with hw | ⟨hg,hw⟩
 ·exfalso;omega
 have hn:(yo k c).low<=ycA k l c/\ycA k l c<=(yo k c).high:=by
  unfold ycA;rw[if_neg (by omega)]
  split
  ·omega
  ·split
   ·rename_i hv
    unfold yeM at hv |-
    split at hv
    ·cases hv
    ·rename_i h1
     rw[if_neg h1]
     split at hv
     ·rename_i h2
      rw[if_pos h2]
      split at hv
      ·cases hv
      ·rename_i h3
       rw[if_neg h3];simp only[Bool.and_eq_true,decide_eq_true_eq] at hv;exact hv
     ·rename_i h2
      rw[if_neg h2];simp only[Bool.and_eq_true,decide_eq_true_eq] at hv;exact hv
   ·omega
 generalize ycA k l c=n at hn |-;refine⟨by omega,by omega,fun h3=>by omega,?_⟩
 show (if yaY k=false then 1 else if (yo k c).form=0 then 5 else if (yo k c).form=1/\32<(yJ (if (yo k c).form=3 then 1000*n else n)).length then 2 else if okV (yo k c) (yJ (if (yo k c).form=3 then 1000*n else n)) then (0:Int) else 7)=0
 rw[if_neg (by rw[hg];decide),if_neg (by omega),if_neg (by omega)]
 have hv:okV (yo k c) (yJ (if (yo k c).form=3 then 1000*n else n))=true:=by
  unfold okV;rw[if_neg (by omega),if_pos h];unfold yeM
  rcases hw with ⟨h2,_⟩ | ⟨h3,_⟩
  ·have h3:¬ (yo k c).form=3:=by omega
   rw[if_neg h3,ydO n (by omega) (by omega),if_neg (by simp),if_neg h3];simp only[Bool.and_eq_true,decide_eq_true_eq];exact hn
  ·rw[if_pos h3,ydO (1000*n) (by omega) (by omega),if_neg (by simp),if_pos h3,if_neg (by simp[Int.mul_tmod_right])]
   have e:(1000*n).tdiv 1000=n:=Int.mul_tdiv_cancel_left n (by decide);simp only[e,Bool.and_eq_true,decide_eq_true_eq];exact hn
 rw[hv];rfl
theorem add_at (b o j:Nat):(⟨b,o,none⟩:Addr).add j=⟨b,o+j,none⟩:=by
 unfold Addr.add;split
 ·subst_vars;rfl
 ·rfl
def prC (r:Pr):List Value:=[.string (bb r.1),.string (bb r.2)]
def blk (W:World)(g:Nat)(t:TypeId)(arr:Array Value):Prop:=W.heap[g]?=some (.cells arr t (0,0))
theorem yd {W:World}{g o:Nat}{t:TypeId}{arr:Array Value}(h:blk W g t arr):W.cell? ⟨g,o,none⟩=arr[o]?:=by
 unfold blk at h;simp[World.cell?,h]
theorem yP {W:World}{g:Nat}{t:TypeId}{arr:Array Value}(h:blk W g t arr):g<W.heap.size:=by
 rcases Nat.lt_or_ge g W.heap.size with q | q
 ·exact q
 ·unfold blk at h;rw[Array.getElem?_eq_none (by omega)] at h;cases h
theorem yl (w:World)(c:Array Value)(t:TypeId):blk (w.alloc (.cells c t)) w.heap.size t c:=heap_alloc_new w _
theorem yel {X:Type}(f:X->List Value)(k:Nat)(hk:∀ x,(f x).length=k)(l:List X):(l.flatMap f).length=l.length*k:=by
 induction l with
 | nil=>simp
 | cons x t ih=>rw[List.flatMap_cons,List.length_append,ih,hk,List.length_cons,Nat.add_mul];omega
theorem yac {X:Type}(f:X->List Value)(k:Nat)(hk:∀ x,(f x).length=k):∀ (l:List X) (i j:Nat) (h:i<l.length),j<k->(l.flatMap f)[i*k+j]?=(f l[i])[j]?:=by
 intro l
 induction l with
 | nil=>intro i j h;simp at h
 | cons x t ih =>
  intro i j h hj;rw[List.flatMap_cons]
  cases i with
  | zero=>rw[Nat.zero_mul,Nat.zero_add,List.getElem?_append_left (by rw[hk];exact hj)];rfl
  | succ i =>
   rw[List.getElem?_append_right (by rw[hk,Nat.add_mul];omega),hk,show (i+1)*k+j-k=i*k+j by rw[Nat.add_mul];omega];exact ih i j (by simpa using h) hj
theorem yaE {w:World}{B s n:Nat}{t:TypeId}{v:Value}{xs:List Value}(h:w.ownsRow B t s v n xs)(hn:0<n):∃ g cap arr,v=.slice (some ⟨g,0,none⟩) n cap/\B<=g/\blk w g t arr/\n<=cap/\cap<=maxLen/\∀ j,j<n*s->arr[j]?=xs[j]?:=by
 rcases h.2 with ⟨_,rfl⟩ | ⟨g,cap,cur,rfl,hB,hk,h1,h2,h3,h4⟩
 ·omega
 ·refine⟨g,cap,cur,rfl,hB,hk,h1,h2,fun j hj=>?_⟩
  rw[<- h4,List.getElem?_take_of_lt hj,Array.getElem?_toList]
theorem yu {w:World}{B s n:Nat}{t:TypeId}{v:Value}{xs:List Value}(h:w.ownsRow B t s v n xs):∃ ao cap,v=.slice ao n cap/\n<=cap/\cap<=maxLen:=by
 rcases h.2 with ⟨rfl,rfl⟩ | ⟨g,cap,cur,rfl,_,_,h1,h2,_⟩
 ·exact⟨_,0,rfl,Nat.le_refl _,by decide⟩
 ·exact⟨_,cap,rfl,h1,h2⟩
theorem ygN:(Tryz.prog.info? 69).map (fun i=>(i.zero,i.size,i.bytes))=some (some (.agg #[.string ⟨#[]⟩,.string ⟨#[]⟩]),2,32):=by kernel_rfl
theorem yaj:∃ i,Tryz.prog.info? 69=some i/\i.zero=some (.agg #[.string ⟨#[]⟩,.string ⟨#[]⟩])/\i.size=2/\i.bytes=32:=by
 have h:=ygN
 cases hq:Tryz.prog.info? 69 with
 | none=>rw[hq] at h;cases h
 | some i =>
  rw[hq] at h;simp only[Option.map_some,Option.some.injEq,Prod.mk.injEq] at h;exact⟨i,rfl,h.1,h.2.1,h.2.2⟩
theorem yly {w:World}{B:Nat}{t:TypeId}{v:Value}{l:List Pr}(h:w.ownsRow B t 2 v l.length (l.flatMap prC))(hl:∀ r∈l,r.1.length<=maxLen/\r.2.length<=maxLen):Prs w v l:=by
 by_cases h0:l.length=0
 ·obtain⟨ao,cap,rfl,h1,h2⟩:=yu h
  exact⟨ao,cap,rfl,h1,h2,fun hn=>by omega⟩
 ·obtain⟨g,cap,arr,rfl,hB',hk,h1,h2,h3⟩:=yaE h (by omega)
  refine⟨_,cap,rfl,h1,h2,fun _=>⟨_,rfl,fun i hi=>?_⟩⟩;have e0:=yac prC 2 (fun _=>rfl) l i 0 hi (by decide);have e1:=yac prC 2 (fun _=>rfl) l i 1 hi (by decide);obtain⟨p2,p3⟩:=hl l[i] (List.getElem_mem hi);refine⟨?_,?_,p2,p3⟩
  ·rw[add_at,Nat.zero_add,yd hk,<- Nat.add_zero (i*2),h3 _ (by omega)];exact e0
  ·rw[add_at]
   show w.cell? ⟨g,0+i*2+1,none⟩=_
   rw[Nat.zero_add,yd hk,h3 _ (by omega)];exact e1
structure PrsT (w:World)(v:Value)(l:List Pr):Prop where
 prs:Prs w v l
 typ:∀ g,v.ownBlock=some g->∃ arr fr,w.heap[g]?=some (.cells arr 69 fr)
theorem ygO {w:World}{B:Nat}{v:Value}{l:List Pr}(h:w.ownsRow B 69 2 v l.length (l.flatMap prC))(hl:∀ r∈l,r.1.length<=maxLen/\r.2.length<=maxLen):PrsT w v l:=by
 refine⟨yly h hl,fun g hg=>?_⟩
 rcases h.2 with ⟨rfl,_⟩ | ⟨g',cap,cur,rfl,_,hk,_⟩
 ·cases hg
 ·obtain rfl:g'=g:=Option.some.inj hg
  exact⟨_,_,hk⟩
theorem PrsT.keep {w1 w2:World}{v:Value}{l:List Pr}(h:PrsT w1 v l)(hb:Below w1.heap.size w1 w2):PrsT w2 v l:=by
 refine⟨h.1.keep hb,fun g hg=>?_⟩;obtain⟨arr,fr,hk⟩:=h.2 g hg
 have hl:g<w1.heap.size:=by
  rcases Nat.lt_or_ge g w1.heap.size with q | q
  ·exact q
  ·rw[Array.getElem?_eq_none (by omega)] at hk;cases hk
 exact⟨arr,fr,by rw[hb.block g hl];exact hk⟩
theorem yd8 {w:World}{ops:Array Oper}{rest:List Oper}{o:Oper}{a:Act}{Q:Exit->Act->World->Prop}{T E:TypeId}(hT:Tryz.prog.underlying T=some (.slice E))(hE:∃ i,Tryz.prog.info? E=some i/\i.zero=some (.agg #[.string ⟨#[]⟩,.string ⟨#[]⟩])/\i.size=2/\i.bytes=32)
    (hg:o.guard=none) (p y:Operand) (ho:o.op=.call { callee:=.builtin .append,args:=#[p,y],argTypes:=#[T,T] })
    (B:Nat) (v:Value) (l:List Pr) (x:Pr) (H:Nat) (hH:w.heap.size=H) (hs:a.eval p=v) (hx:a.eval y=.slice (some ⟨H,0,none⟩) 1 1) (h:Hid (w.ownsRow B E 2 v l.length (l.flatMap prC))) (hl:l.length<=1000000) (hB:B<=w.heap.size)
    (hK:∀ ao cap w',w'.ownsRow B E 2 (.slice ao (l.length+1) cap) (l++[x]).length ((l++[x]).flatMap prC)->w.grownBy w' v.ownBlock->wpList Tryz.prog ops Q rest (a.put o.dst (.slice ao (l.length+1) cap)) w'):wpList Tryz.prog ops Q (o::rest) a (w.alloc (.cells #[.string (bb x.1),.string (bb x.2)] E)):=by
 subst hH;obtain⟨i0,hi,hz0,hz1,hz2⟩:=hE;refine wpList_append_own _ hg p y T ho B E i0 _ 2 32 hT hi hz0 hz1 hz2 rfl (by decide) v l.length _ hs (World.ownsRow.alloc h.out _) ⟨w.heap.size,0,none⟩ 1 1 [.string (bb x.1),.string (bb x.2)] hx rfl ?_ (by simp[Value.oneCell']) (by unfold maxLen;omega) (by omega) (by simp;omega) ?_
 ·intro j u hj
  rw[add_at,Nat.zero_add,yd (yl w #[.string (bb x.1),.string (bb x.2)] E),<- hj];simp
 ·intro v' w' hown hgrow _
  obtain⟨ao,cap,rfl,_,_⟩:=yu hown;refine hK ao cap w' ?_ ?_
  ·rw[List.length_append,List.flatMap_append];exact hown
  ·refine⟨hgrow.os,hgrow.tape,hgrow.output,Nat.le_trans (by simp) hgrow.size,fun k hk hne=>?_⟩
   rw[hgrow.block k (by simp;omega) hne,heap_alloc_old w _ hk]
end Go.Proofs.YtgmidodmmlmmeaaGreatDoor.att
namespace Go.Proofs.YtgmidodmmlmmeaaGreatDoor.att
open Go.RowKit Go.ChangeMaps Go.MapKept lex tre _root_.Go.Proofs.Tryz
def yol (v:Value):Option (DataW Value × List MemPlace):=some (.held v,[])
def mAt (z:Value)(W:World)(b n:Nat)(D:DataW Value)(F:List UInt8->Value × Bool):Prop :=
 W.ownsMap Tryz.prog 9 yol b n D/\Maps.IsMap D/\∀ x:List UInt8,D.atKey (.string x) (.held z)=.held (F x).1/\Maps.has D (.string x)=(F x).2
theorem yg4 (z:Value)(w:World):mAt z (w.alloc (.map #[] 0)) w.heap.size 0 (.map []) (fun _=>(z,false)) :=
 ⟨World.ownsMap_made w _ _ _,Maps.isMap_empty,fun _=>⟨rfl,rfl⟩⟩
theorem mAt.look {T e:TypeId}{z:Value}(ht:Tryz.prog.underlying T=some (.map 9 e))(hz:∀ w,(zeroValue e).run Tryz.prog w=.ok z w){w:World}{b n:Nat}{D:DataW Value}{F:List UInt8->Value × Bool}(h:mAt z w b n D F)(s:ByteArray)(hs:s.size<=maxLen) :
    (Instr.lookup T (.map (some b)) (.string s) false).run Tryz.prog w=.ok (F s.data.toList).1 w:=by
 obtain⟨v,ps,hrun,hv⟩:=h.1.lookup (Maps.string_keyed underlying9) ht (hz w) (R:=yol) (zd:=.held z) (zp:=[]) rfl (WideMaps.keyOf_string_mk underlying9 hs);rw[(h.2.2 _).1] at hv;unfold yol at hv;cases hv
 exact hrun
theorem mAt.put {T e:TypeId}{z:Value}(ht:Tryz.prog.underlying T=some (.map 9 e)){w:World}{b n:Nat}{D:DataW Value}{F:List UInt8->Value × Bool}(h:mAt z w b n D F)(s:ByteArray)(v:Value)(hs:s.size<=maxLen)(hn:n<maxLen) :
    ∃ w',(Instr.mapUpdate T (.map (some b)) (.string s) v).run Tryz.prog w=.ok () w'/\mAt z w' b (n+1) (D.put (.string s.data.toList) (.held v)) (fun x=>if x=s.data.toList then (v,true) else F x)/\w.grownBy w' (some b):=by
 obtain⟨w',hrun,h5,h6⟩:=h.1.update (Maps.string_keyed underlying9) ht hn (R:=yol) (WideMaps.keyOf_string_mk underlying9 hs) (d:=.held v) (ps:=[]) rfl;refine⟨w',hrun,⟨h5,h.2.1.put _ _,fun x=>?_⟩,h6⟩
 by_cases hx:x=s.data.toList
 ·subst hx
  rw[Maps.atKey_put_same h.2.1 (by trivial),Maps.has_put_same h.2.1 (by trivial)];simp
 ·rw[Maps.atKey_put_other (by intro e;injection e with e;exact hx e),Maps.has_put_other (by intro e;injection e with e;exact hx e)]
  simp only[if_neg hx];exact h.2.2 x
end Go.Proofs.YtgmidodmmlmmeaaGreatDoor.att
namespace Go.Proofs.YtgmidodmmlmmeaaGreatDoor.att
open Go.RowKit lex tre _root_.Go.Proofs.Tryz
def RV (u lo hi us:Int)(f:Value):Value:=.agg #[.int .i64 u,.int .i64 lo,.int .i64 hi,.int .i64 us,f]
def RZ:Value:=RV 0 0 0 0 .nilFunc
def fTx:Value:=.func (.func 162) #[] #[]
def fPo:Value:=.func (.func 163) #[] #[]
def fMo:Value:=.func (.func 164) #[] #[]
def rvN (c:List UInt8):Value × Bool:=if c=yE then (RV 0 0 0 0 fTx,true) else if c=yao then (RV 1 1 1048576 20000 .nilFunc,true) else if c=yQ then (RV 1 1 1048576 10000 .nilFunc,true) else if c=yY then (RV 0 0 0 0 fPo,true) else (RZ,false)
def rvE (c:List UInt8):Value × Bool:=if c=yE then (RV 0 0 0 0 fTx,true) else if c=yV then (RV 1000 1 1000 1 .nilFunc,true) else if c=yej then (RV 1000 1 64 1 .nilFunc,true) else (RZ,false)
def rvS (c:List UInt8):Value × Bool:=if c=ycv then (RV 0 0 0 0 fMo,true) else if c=yam then (RV 1 0 1048576 10000 .nilFunc,true) else if c=yan then (RV 1 0 1048576 20000 .nilFunc,true) else if c=yaM then (RV 1 0 1048576 5000 .nilFunc,true) else if c=yaN then (RV 1000 0 100 8 .nilFunc,true) else (RZ,false)
def rvK (k:Int)(c:List UInt8):Value × Bool:=if k=1 then rvN c else if k=2 then rvE c else if k=4 then rvS c else (RZ,false)
def RuM (w:World)(b:Nat)(k:Int):Prop:=∃ n D,mAt RZ w b n D (rvK k)
theorem ylY (w:World):(zeroValue 175).run Tryz.prog w=.ok RZ w:=Tryz.zeroValue175 w
theorem RuM.look {w:World}{b:Nat}{k:Int}(h:RuM w b k)(s:ByteArray)(hs:s.size<=maxLen):(Instr.lookup 172 (.map (some b)) (.string s) false).run Tryz.prog w=.ok (rvK k s.data.toList).1 w:=by
 obtain⟨n,D,h⟩:=h;exact h.look underlying172 ylY s hs
theorem yau {w0 w w':World}{b:Nat}(h:Below w0.heap.size w0 w)(hg:w.grownBy w' (some b))(hb:w0.heap.size<=b):Below w0.heap.size w0 w':=h.grown hg h.size (fun k e=>by cases e;exact hb)
-- walks
theorem yrl (w:World):Calls Tryz.prog 96 #[.int .i64 1] w fun e w'=>(∃ b,e=.returned (.map (some b))/\RuM w' b 1)/\Below w.heap.size w w':=by
 have m0:=yg4 RZ w;have B0:=al1 w (.map #[] 0);obtain⟨w1,r1,m1,g1⟩:=m0.put underlying172 ⟨#[108,97,98,101,108]⟩ (RV 0 0 0 0 fTx) (by decide) (by decide);have B1:=yau B0 g1 (Nat.le_refl _);obtain⟨w2,r2,m2,g2⟩:=m1.put underlying172 ⟨#[119,105,100,116,104]⟩ (RV 1 1 1048576 20000 .nilFunc) (by decide) (by decide);have B2:=yau B1 g2 (Nat.le_refl _);obtain⟨w3,r3,m3,g3⟩:=m2.put underlying172 ⟨#[104,101,105,103,104,116]⟩ (RV 1 1 1048576 10000 .nilFunc) (by decide) (by decide);have B3:=yau B2 g3 (Nat.le_refl _);obtain⟨w4,r4,m4,g4⟩:=m3.put underlying172 ⟨#[112,111,114,116,115]⟩ (RV 0 0 0 0 fPo) (by decide) (by decide);have B4:=yau B3 g4 (Nat.le_refl _)
 have HR:Hid (RuM w4 w.heap.size 1):=by
  refine Lh ⟨_,_,m4.1,m4.2.1,fun x=>?_⟩;have q:=m4.2.2 x;rw[show rvK 1 x=_ from (?_:rvK 1 x=(_:Value × Bool))]
  ·exact q
  ·rw[show rvK 1 x=rvN x by unfold rvK;simp]
   unfold rvN yE yao yQ yY
   repeat' split
   all_goals (first | rfl | (subst_vars;simp_all) | simp_all)
 clear m0 m1 m2 m3 m4 g1 g2 g3 g4 B0 B1 B2 B3;replace r1:(Instr.mapUpdate 172 (.map (some w.heap.size)) (.string ⟨#[108,97,98,101,108]⟩) (.agg #[.int .i64 0,.int .i64 0,.int .i64 0,.int .i64 0,.func (.func 162) #[] #[]])).run Tryz.prog (w.alloc (.map #[] 0))=.ok () w1:=r1;replace r2:(Instr.mapUpdate 172 (.map (some w.heap.size)) (.string ⟨#[119,105,100,116,104]⟩) (.agg #[.int .i64 1,.int .i64 1,.int .i64 1048576,.int .i64 20000,.nilFunc])).run Tryz.prog w1=.ok () w2:=r2;replace r3:(Instr.mapUpdate 172 (.map (some w.heap.size)) (.string ⟨#[104,101,105,103,104,116]⟩) (.agg #[.int .i64 1,.int .i64 1,.int .i64 1048576,.int .i64 10000,.nilFunc])).run Tryz.prog w2=.ok () w3:=r3;replace r4:(Instr.mapUpdate 172 (.map (some w.heap.size)) (.string ⟨#[112,111,114,116,115]⟩) (.agg #[.int .i64 0,.int .i64 0,.int .i64 0,.int .i64 0,.func (.func 163) #[] #[]])).run Tryz.prog w3=.ok () w4:=r4;have hmm:=@run_makeMap Tryz.prog;have HB:=Lh B4;clear B4;go_enter func96,ntmps96;go_wp2;go_ret;exact⟨⟨_,rfl,HR.out⟩,HB.out⟩
theorem yrm (w:World):Calls Tryz.prog 96 #[.int .i64 2] w fun e w'=>(∃ b,e=.returned (.map (some b))/\RuM w' b 2)/\Below w.heap.size w w':=by
 have m0:=yg4 RZ w;have B0:=al1 w (.map #[] 0);obtain⟨w1,r1,m1,g1⟩:=m0.put underlying172 ⟨#[108,97,98,101,108]⟩ (RV 0 0 0 0 fTx) (by decide) (by decide);have B1:=yau B0 g1 (Nat.le_refl _);obtain⟨w2,r2,m2,g2⟩:=m1.put underlying172 ⟨#[119,101,105,103,104,116]⟩ (RV 1000 1 1000 1 .nilFunc) (by decide) (by decide);have B2:=yau B1 g2 (Nat.le_refl _);obtain⟨w3,r3,m3,g3⟩:=m2.put underlying172 ⟨#[108,101,110]⟩ (RV 1000 1 64 1 .nilFunc) (by decide) (by decide);have B3:=yau B2 g3 (Nat.le_refl _)
 have HR:Hid (RuM w3 w.heap.size 2):=by
  refine Lh ⟨_,_,m3.1,m3.2.1,fun x=>?_⟩;have q:=m3.2.2 x;rw[show rvK 2 x=_ from (?_:rvK 2 x=(_:Value × Bool))]
  ·exact q
  ·rw[show rvK 2 x=rvE x by unfold rvK;simp]
   unfold rvE yE yV yej
   repeat' split
   all_goals (first | rfl | (subst_vars;simp_all) | simp_all)
 clear m0 m1 m2 m3 g1 g2 g3 B0 B1 B2;replace r1:(Instr.mapUpdate 172 (.map (some w.heap.size)) (.string ⟨#[108,97,98,101,108]⟩) (.agg #[.int .i64 0,.int .i64 0,.int .i64 0,.int .i64 0,.func (.func 162) #[] #[]])).run Tryz.prog (w.alloc (.map #[] 0))=.ok () w1:=r1;replace r2:(Instr.mapUpdate 172 (.map (some w.heap.size)) (.string ⟨#[119,101,105,103,104,116]⟩) (.agg #[.int .i64 1000,.int .i64 1,.int .i64 1000,.int .i64 1,.nilFunc])).run Tryz.prog w1=.ok () w2:=r2;replace r3:(Instr.mapUpdate 172 (.map (some w.heap.size)) (.string ⟨#[108,101,110]⟩) (.agg #[.int .i64 1000,.int .i64 1,.int .i64 64,.int .i64 1,.nilFunc])).run Tryz.prog w2=.ok () w3:=r3;have hmm:=@run_makeMap Tryz.prog;have HB:=Lh B3;clear B3;go_enter func96,ntmps96;go_wp2;go_ret;exact⟨⟨_,rfl,HR.out⟩,HB.out⟩
theorem yrn (w:World):Calls Tryz.prog 96 #[.int .i64 4] w fun e w'=>(∃ b,e=.returned (.map (some b))/\RuM w' b 4)/\Below w.heap.size w w':=by
 have m0:=yg4 RZ w;have B0:=al1 w (.map #[] 0);obtain⟨w1,r1,m1,g1⟩:=m0.put underlying172 ⟨#[109,111,100,101]⟩ (RV 0 0 0 0 fMo) (by decide) (by decide);have B1:=yau B0 g1 (Nat.le_refl _);obtain⟨w2,r2,m2,g2⟩:=m1.put underlying172 ⟨#[110,111,100,101,115,101,112]⟩ (RV 1 0 1048576 10000 .nilFunc) (by decide) (by decide);have B2:=yau B1 g2 (Nat.le_refl _);obtain⟨w3,r3,m3,g3⟩:=m2.put underlying172 ⟨#[114,97,110,107,115,101,112]⟩ (RV 1 0 1048576 20000 .nilFunc) (by decide) (by decide);have B3:=yau B2 g3 (Nat.le_refl _);obtain⟨w4,r4,m4,g4⟩:=m3.put underlying172 ⟨#[109,97,114,103,105,110]⟩ (RV 1 0 1048576 5000 .nilFunc) (by decide) (by decide);have B4:=yau B3 g4 (Nat.le_refl _);obtain⟨w5,r5,m5,g5⟩:=m4.put underlying172 ⟨#[114,111,117,110,100,115]⟩ (RV 1000 0 100 8 .nilFunc) (by decide) (by decide);have B5:=yau B4 g5 (Nat.le_refl _)
 have HR:Hid (RuM w5 w.heap.size 4):=by
  refine Lh ⟨_,_,m5.1,m5.2.1,fun x=>?_⟩;have q:=m5.2.2 x;rw[show rvK 4 x=_ from (?_:rvK 4 x=(_:Value × Bool))]
  ·exact q
  ·rw[show rvK 4 x=rvS x by unfold rvK;simp]
   unfold rvS ycv yam yan yaM yaN
   repeat' split
   all_goals (first | rfl | (subst_vars;simp_all) | simp_all)
 clear m0 m1 m2 m3 m4 m5 g1 g2 g3 g4 g5 B0 B1 B2 B3 B4;replace r1:(Instr.mapUpdate 172 (.map (some w.heap.size)) (.string ⟨#[109,111,100,101]⟩) (.agg #[.int .i64 0,.int .i64 0,.int .i64 0,.int .i64 0,.func (.func 164) #[] #[]])).run Tryz.prog (w.alloc (.map #[] 0))=.ok () w1:=r1;replace r2:(Instr.mapUpdate 172 (.map (some w.heap.size)) (.string ⟨#[110,111,100,101,115,101,112]⟩) (.agg #[.int .i64 1,.int .i64 0,.int .i64 1048576,.int .i64 10000,.nilFunc])).run Tryz.prog w1=.ok () w2:=r2;replace r3:(Instr.mapUpdate 172 (.map (some w.heap.size)) (.string ⟨#[114,97,110,107,115,101,112]⟩) (.agg #[.int .i64 1,.int .i64 0,.int .i64 1048576,.int .i64 20000,.nilFunc])).run Tryz.prog w2=.ok () w3:=r3;replace r4:(Instr.mapUpdate 172 (.map (some w.heap.size)) (.string ⟨#[109,97,114,103,105,110]⟩) (.agg #[.int .i64 1,.int .i64 0,.int .i64 1048576,.int .i64 5000,.nilFunc])).run Tryz.prog w3=.ok () w4:=r4;replace r5:(Instr.mapUpdate 172 (.map (some w.heap.size)) (.string ⟨#[114,111,117,110,100,115]⟩) (.agg #[.int .i64 1000,.int .i64 0,.int .i64 100,.int .i64 8,.nilFunc])).run Tryz.prog w4=.ok () w5:=r5;have hmm:=@run_makeMap Tryz.prog;have HB:=Lh B5;clear B5;go_enter func96,ntmps96;go_wp2;go_ret;exact⟨⟨_,rfl,HR.out⟩,HB.out⟩
theorem yom (k:Int)(w:World)(h:yaY k=false):Calls Tryz.prog 96 #[.int .i64 k] w fun e w'=>e=.returned (.map none)/\Below w.heap.size w w':=by
 unfold yaY at h;simp only[Bool.or_eq_false_iff,decide_eq_false_iff_not] at h;obtain⟨⟨h1,h2⟩,h4⟩:=h;go_enter func96,ntmps96;go_wp2;go_ret;exact⟨rfl,Below.refl _ _⟩
theorem ylZ (k:Int)(w:World)(h:yaY k=true):Calls Tryz.prog 96 #[.int .i64 k] w fun e w'=>(∃ b,e=.returned (.map (some b))/\RuM w' b k)/\Below w.heap.size w w':=by
 unfold yaY at h;simp only[Bool.or_eq_true,decide_eq_true_eq] at h
 rcases h with (rfl | rfl) | rfl
 ·exact yrl w
 ·exact yrm w
 ·exact yrn w
def ruV (x:Ru):Value:=.agg #[.int .i64 x.form,.int .i64 x.low,.int .i64 x.high,.int .i64 x.normal]
theorem yF (w:World):∀ n,Below w.heap.size w (w.drewN n)
 | 0=>Below.refl _ _
 | n+1=>(yF w n).drew
theorem yqv (s:ByteArray)(c:List UInt8):(s.toList==c)=decide (s.data.toList=c):=by
 rw[ByteArray.toList_eq]
 by_cases h:s.data.toList=c
 ·simp[h]
 ·simp[h]
theorem yaZ {s:ByteArray}{c:List UInt8}(h:s.data.toList=c):(s.toList==c)=true:=by rw[yqv];exact decide_eq_true h
theorem yU {s:ByteArray}{c:List UInt8}(h:¬ s.data.toList=c):(s.toList==c)=false:=by rw[yqv];exact decide_eq_false h
theorem yon (s:ByteArray)(x:Ru)(w:World)(h:Hid (ruN s.data.toList=x)) :
    Calls Tryz.prog 172 #[.int .i64 1,.string s] w fun e w'=>e=.returned (ruV x)/\Below w.heap.size w w':=by
 have hr:=h.out;clear h;unfold ruN at hr
 by_cases clabel:s.data.toList=yE
 ·rw[if_pos clabel] at hr
  have blabel:(s.toList==([108,97,98,101,108]:List UInt8))=true:=yaZ clabel;clear clabel;subst hr;go_enter func172,ntmps172;go_wp2;refine bodyPost_ret (v:=ruV _) (by simp[results,results172,go_sem,ruV]) rfl ⟨rfl,al1 ..⟩
 ·rw[if_neg clabel] at hr
  by_cases cwidth:s.data.toList=yao
  ·rw[if_pos cwidth] at hr
   have blabel:(s.toList==([108,97,98,101,108]:List UInt8))=false:=yU clabel;have bwidth:(s.toList==([119,105,100,116,104]:List UInt8))=true:=yaZ cwidth;clear clabel cwidth;subst hr;go_enter func172,ntmps172;go_wp2;refine bodyPost_ret (v:=ruV _) (by simp[results,results172,go_sem,ruV]) rfl ⟨rfl,al1 ..⟩
  ·rw[if_neg cwidth] at hr
   by_cases cheight:s.data.toList=yQ
   ·rw[if_pos cheight] at hr
    have blabel:(s.toList==([108,97,98,101,108]:List UInt8))=false:=yU clabel;have bwidth:(s.toList==([119,105,100,116,104]:List UInt8))=false:=yU cwidth;have bheight:(s.toList==([104,101,105,103,104,116]:List UInt8))=true:=yaZ cheight;clear clabel cwidth cheight;subst hr;go_enter func172,ntmps172;go_wp2;refine bodyPost_ret (v:=ruV _) (by simp[results,results172,go_sem,ruV]) rfl ⟨rfl,al1 ..⟩
   ·rw[if_neg cheight] at hr
    by_cases cports:s.data.toList=yY
    ·rw[if_pos cports] at hr
     have blabel:(s.toList==([108,97,98,101,108]:List UInt8))=false:=yU clabel;have bwidth:(s.toList==([119,105,100,116,104]:List UInt8))=false:=yU cwidth;have bheight:(s.toList==([104,101,105,103,104,116]:List UInt8))=false:=yU cheight;have bports:(s.toList==([112,111,114,116,115]:List UInt8))=true:=yaZ cports;clear clabel cwidth cheight cports;subst hr;go_enter func172,ntmps172;go_wp2;refine bodyPost_ret (v:=ruV _) (by simp[results,results172,go_sem,ruV]) rfl ⟨rfl,al1 ..⟩
    ·rw[if_neg cports] at hr
     have blabel:(s.toList==([108,97,98,101,108]:List UInt8))=false:=yU clabel;have bwidth:(s.toList==([119,105,100,116,104]:List UInt8))=false:=yU cwidth;have bheight:(s.toList==([104,101,105,103,104,116]:List UInt8))=false:=yU cheight;have bports:(s.toList==([112,111,114,116,115]:List UInt8))=false:=yU cports;clear clabel cwidth cheight cports;subst hr;go_enter func172,ntmps172;go_wp2;refine bodyPost_ret (v:=ruV _) (by simp[results,results172,go_sem,ruV]) rfl ⟨rfl,al1 ..⟩
theorem yoo (s:ByteArray)(x:Ru)(w:World)(h:Hid (ruE s.data.toList=x)) :
    Calls Tryz.prog 172 #[.int .i64 2,.string s] w fun e w'=>e=.returned (ruV x)/\Below w.heap.size w w':=by
 have hr:=h.out;clear h;unfold ruE at hr
 by_cases clabel:s.data.toList=yE
 ·rw[if_pos clabel] at hr
  have blabel:(s.toList==([108,97,98,101,108]:List UInt8))=true:=yaZ clabel;clear clabel;subst hr;go_enter func172,ntmps172;go_wp2;refine bodyPost_ret (v:=ruV _) (by simp[results,results172,go_sem,ruV]) rfl ⟨rfl,al1 ..⟩
 ·rw[if_neg clabel] at hr
  by_cases cweight:s.data.toList=yV
  ·rw[if_pos cweight] at hr
   have blabel:(s.toList==([108,97,98,101,108]:List UInt8))=false:=yU clabel;have bweight:(s.toList==([119,101,105,103,104,116]:List UInt8))=true:=yaZ cweight;clear clabel cweight;subst hr;go_enter func172,ntmps172;go_wp2;refine bodyPost_ret (v:=ruV _) (by simp[results,results172,go_sem,ruV]) rfl ⟨rfl,al1 ..⟩
  ·rw[if_neg cweight] at hr
   by_cases clen:s.data.toList=yej
   ·rw[if_pos clen] at hr
    have blabel:(s.toList==([108,97,98,101,108]:List UInt8))=false:=yU clabel;have bweight:(s.toList==([119,101,105,103,104,116]:List UInt8))=false:=yU cweight;have blen:(s.toList==([108,101,110]:List UInt8))=true:=yaZ clen;clear clabel cweight clen;subst hr;go_enter func172,ntmps172;go_wp2;refine bodyPost_ret (v:=ruV _) (by simp[results,results172,go_sem,ruV]) rfl ⟨rfl,al1 ..⟩
   ·rw[if_neg clen] at hr
    have blabel:(s.toList==([108,97,98,101,108]:List UInt8))=false:=yU clabel;have bweight:(s.toList==([119,101,105,103,104,116]:List UInt8))=false:=yU cweight;have blen:(s.toList==([108,101,110]:List UInt8))=false:=yU clen;clear clabel cweight clen;subst hr;go_enter func172,ntmps172;go_wp2;refine bodyPost_ret (v:=ruV _) (by simp[results,results172,go_sem,ruV]) rfl ⟨rfl,al1 ..⟩
theorem yop (s:ByteArray)(x:Ru)(w:World)(h:Hid (ruS s.data.toList=x)) :
    Calls Tryz.prog 172 #[.int .i64 4,.string s] w fun e w'=>e=.returned (ruV x)/\Below w.heap.size w w':=by
 have hr:=h.out;clear h;unfold ruS at hr
 by_cases cmode:s.data.toList=ycv
 ·rw[if_pos cmode] at hr
  have bmode:(s.toList==([109,111,100,101]:List UInt8))=true:=yaZ cmode;clear cmode;subst hr;go_enter func172,ntmps172;go_wp2;refine bodyPost_ret (v:=ruV _) (by simp[results,results172,go_sem,ruV]) rfl ⟨rfl,al1 ..⟩
 ·rw[if_neg cmode] at hr
  by_cases cnodesep:s.data.toList=yam
  ·rw[if_pos cnodesep] at hr
   have bmode:(s.toList==([109,111,100,101]:List UInt8))=false:=yU cmode;have bnodesep:(s.toList==([110,111,100,101,115,101,112]:List UInt8))=true:=yaZ cnodesep;clear cmode cnodesep;subst hr;go_enter func172,ntmps172;go_wp2;refine bodyPost_ret (v:=ruV _) (by simp[results,results172,go_sem,ruV]) rfl ⟨rfl,al1 ..⟩
  ·rw[if_neg cnodesep] at hr
   by_cases cranksep:s.data.toList=yan
   ·rw[if_pos cranksep] at hr
    have bmode:(s.toList==([109,111,100,101]:List UInt8))=false:=yU cmode;have bnodesep:(s.toList==([110,111,100,101,115,101,112]:List UInt8))=false:=yU cnodesep;have branksep:(s.toList==([114,97,110,107,115,101,112]:List UInt8))=true:=yaZ cranksep;clear cmode cnodesep cranksep;subst hr;go_enter func172,ntmps172;go_wp2;refine bodyPost_ret (v:=ruV _) (by simp[results,results172,go_sem,ruV]) rfl ⟨rfl,al1 ..⟩
   ·rw[if_neg cranksep] at hr
    by_cases cmargin:s.data.toList=yaM
    ·rw[if_pos cmargin] at hr
     have bmode:(s.toList==([109,111,100,101]:List UInt8))=false:=yU cmode;have bnodesep:(s.toList==([110,111,100,101,115,101,112]:List UInt8))=false:=yU cnodesep;have branksep:(s.toList==([114,97,110,107,115,101,112]:List UInt8))=false:=yU cranksep;have bmargin:(s.toList==([109,97,114,103,105,110]:List UInt8))=true:=yaZ cmargin;clear cmode cnodesep cranksep cmargin;subst hr;go_enter func172,ntmps172;go_wp2;refine bodyPost_ret (v:=ruV _) (by simp[results,results172,go_sem,ruV]) rfl ⟨rfl,al1 ..⟩
    ·rw[if_neg cmargin] at hr
     by_cases crounds:s.data.toList=yaN
     ·rw[if_pos crounds] at hr
      have bmode:(s.toList==([109,111,100,101]:List UInt8))=false:=yU cmode;have bnodesep:(s.toList==([110,111,100,101,115,101,112]:List UInt8))=false:=yU cnodesep;have branksep:(s.toList==([114,97,110,107,115,101,112]:List UInt8))=false:=yU cranksep;have bmargin:(s.toList==([109,97,114,103,105,110]:List UInt8))=false:=yU cmargin;have brounds:(s.toList==([114,111,117,110,100,115]:List UInt8))=true:=yaZ crounds;clear cmode cnodesep cranksep cmargin crounds;subst hr;go_enter func172,ntmps172;go_wp2;refine bodyPost_ret (v:=ruV _) (by simp[results,results172,go_sem,ruV]) rfl ⟨rfl,al1 ..⟩
     ·rw[if_neg crounds] at hr
      have bmode:(s.toList==([109,111,100,101]:List UInt8))=false:=yU cmode;have bnodesep:(s.toList==([110,111,100,101,115,101,112]:List UInt8))=false:=yU cnodesep;have branksep:(s.toList==([114,97,110,107,115,101,112]:List UInt8))=false:=yU cranksep;have bmargin:(s.toList==([109,97,114,103,105,110]:List UInt8))=false:=yU cmargin;have brounds:(s.toList==([114,111,117,110,100,115]:List UInt8))=false:=yU crounds;clear cmode cnodesep cranksep cmargin crounds;subst hr;go_enter func172,ntmps172;go_wp2;refine bodyPost_ret (v:=ruV _) (by simp[results,results172,go_sem,ruV]) rfl ⟨rfl,al1 ..⟩
theorem yl0 (k:Int)(s:ByteArray)(x:Ru)(w:World)(h:Hid (yo k s.data.toList=x)) :
    Calls Tryz.prog 172 #[.int .i64 k,.string s] w fun e w'=>e=.returned (ruV x)/\Below w.heap.size w w':=by
 have hr:=h.out;unfold yo at hr
 by_cases k1:k=1
 ·subst k1;rw[if_pos rfl] at hr;exact yon s x w (Lh hr)
 rw[if_neg k1] at hr
 by_cases k2:k=2
 ·subst k2;rw[if_pos rfl] at hr;exact yoo s x w (Lh hr)
 rw[if_neg k2] at hr
 by_cases k4:k=4
 ·subst k4;rw[if_pos rfl] at hr;exact yop s x w (Lh hr)
 rw[if_neg k4] at hr;have b1:(k==1)=false:=by rw[beq_eq_false_iff_ne];exact k1
 have b2:(k==2)=false:=by rw[beq_eq_false_iff_ne];exact k2
 have b4:(k==4)=false:=by rw[beq_eq_false_iff_ne];exact k4
 clear h;subst hr;go_enter func172,ntmps172;go_wp2;refine bodyPost_ret (v:=ruV _) (by simp[results,results172,go_sem,ruV]) rfl ⟨rfl,al1 ..⟩
def yjN (u lo hi:Int)(s:List UInt8):Int × Bool :=
 if (prL s).2≠0\/u=0\/(prL s).1.tmod u≠0 then (0,false) else ((prL s).1.tdiv u,decide (lo<=(prL s).1.tdiv u)&&decide ((prL s).1.tdiv u<=hi))
theorem yoq (lo hi us:Int)(fv:Value)(s:ByteArray)(n:Int)(b:Bool)(w:World)(hs:s.size<=maxLen)(h:Hid (yjN 0 lo hi s.data.toList=(n,b))) :
    Calls Tryz.prog 100 #[.agg #[.int .i64 0,.int .i64 lo,.int .i64 hi,.int .i64 us,fv],.string s] w fun e w'=>e=.returned (.tuple #[.int .i64 n,.bool b])/\Below w.heap.size w w':=by
 have hs':s.size<=9223372036854775807:=by unfold maxLen at hs;omega
 have hr:=h.out;clear h hs;unfold yjN at hr;have hrg:=ydm s.data.toList;obtain⟨pn,pe,hpe⟩:∃ a c,prL s.data.toList=(a,c):=⟨_,_,rfl⟩
 have HP:Hid (yas s.data.toList=.tuple #[.int .i64 pn,.int .i64 pe]):=Lh (by rw[ybY,hpe]);rw[hpe] at hr hrg;simp only at hr hrg;clear hpe
 by_cases h0:pe=0
 case neg =>
  rw[if_pos (Or.inl h0)] at hr;cases hr
  have b0:(pe != 0)=true:=by rw[bne_iff_ne];exact h0
  clear hrg h0;go_enter func100,ntmps100;go_wp2_with fail
  refine(yaP _ _ hs').mono ?_;rintro e w1 ⟨rfl,rfl⟩;rw[HP.out];go_wp2
  go_ret2
  exact⟨rfl,al1 ..⟩
 have hg:=hrg h0;subst h0;clear hrg;rw[if_pos (Or.inr (Or.inl trivial))] at hr;cases hr
 clear hg;go_enter func100,ntmps100;go_wp2_with fail
 refine(yaP _ _ hs').mono ?_;rintro e w1 ⟨rfl,rfl⟩;rw[HP.out];go_wp2
 go_ret2
 exact⟨rfl,al1 ..⟩
theorem yor (lo hi us:Int)(fv:Value)(s:ByteArray)(n:Int)(b:Bool)(w:World)(hs:s.size<=maxLen)(h:Hid (yjN 1 lo hi s.data.toList=(n,b))) :
    Calls Tryz.prog 100 #[.agg #[.int .i64 1,.int .i64 lo,.int .i64 hi,.int .i64 us,fv],.string s] w fun e w'=>e=.returned (.tuple #[.int .i64 n,.bool b])/\Below w.heap.size w w':=by
 have hs':s.size<=9223372036854775807:=by unfold maxLen at hs;omega
 have hr:=h.out;clear h hs;unfold yjN at hr;have hrg:=ydm s.data.toList;obtain⟨pn,pe,hpe⟩:∃ a c,prL s.data.toList=(a,c):=⟨_,_,rfl⟩
 have HP:Hid (yas s.data.toList=.tuple #[.int .i64 pn,.int .i64 pe]):=Lh (by rw[ybY,hpe]);rw[hpe] at hr hrg;simp only at hr hrg;clear hpe
 by_cases h0:pe=0
 case neg =>
  rw[if_pos (Or.inl h0)] at hr;cases hr
  have b0:(pe != 0)=true:=by rw[bne_iff_ne];exact h0
  clear hrg h0;go_enter func100,ntmps100;go_wp2_with fail
  refine(yaP _ _ hs').mono ?_;rintro e w1 ⟨rfl,rfl⟩;rw[HP.out];go_wp2
  go_ret2
  exact⟨rfl,al1 ..⟩
 have hg:=hrg h0;subst h0;clear hrg;rw[if_neg (by simp[Int.tmod_one])] at hr;rw[Int.tdiv_one] at hr;have t1:IntKind.i64.wrap pn=pn:=IntWalk.i64_in _ (by omega);have u1:pn.tmod 1=0:=Int.tmod_one pn;have u2:pn.tdiv 1=pn:=Int.tdiv_one pn;have e1:=(Prod.mk.inj hr).1;have e2:=(Prod.mk.inj hr).2;subst e1;subst e2;clear hr hg;obtain⟨q1,hq1⟩:∃ q,decide (lo<=pn)=q:=⟨_,rfl⟩
 obtain⟨q2,hq2⟩:∃ q,decide (pn<=hi)=q:=⟨_,rfl⟩
 rw[hq1,hq2];cases q1
 ·go_enter func100,ntmps100
  go_wp2_with fail
  refine(yaP _ _ hs').mono ?_;rintro e w1 ⟨rfl,rfl⟩;rw[HP.out];go_wp2
  go_quiet (fail)
  have hB:=ya (yF (w.alloc (.cells #[.int .i64 1,.int .i64 lo,.int .i64 hi,.int .i64 us,fv] 175)) nq) (al1 ..);generalize (w.alloc (.cells #[.int .i64 1,.int .i64 lo,.int .i64 hi,.int .i64 us,fv] 175)).drewN nq=wn at hB |-;go_wp2
  go_ret2
  exact⟨rfl,hB⟩
 ·go_enter func100,ntmps100
  go_wp2_with fail
  refine(yaP _ _ hs').mono ?_;rintro e w1 ⟨rfl,rfl⟩;rw[HP.out];go_wp2
  go_quiet (fail)
  have hB:=ya (yF (w.alloc (.cells #[.int .i64 1,.int .i64 lo,.int .i64 hi,.int .i64 us,fv] 175)) nq) (al1 ..);generalize (w.alloc (.cells #[.int .i64 1,.int .i64 lo,.int .i64 hi,.int .i64 us,fv] 175)).drewN nq=wn at hB |-;go_wp2
  go_ret2
  exact⟨rfl,hB⟩
theorem yiT (lo hi us:Int)(fv:Value)(s:ByteArray)(n:Int)(b:Bool)(w:World)(hs:s.size<=maxLen)(h:Hid (yjN 1000 lo hi s.data.toList=(n,b))) :
    Calls Tryz.prog 100 #[.agg #[.int .i64 1000,.int .i64 lo,.int .i64 hi,.int .i64 us,fv],.string s] w fun e w'=>e=.returned (.tuple #[.int .i64 n,.bool b])/\Below w.heap.size w w':=by
 have hs':s.size<=9223372036854775807:=by unfold maxLen at hs;omega
 have hr:=h.out;clear h hs;unfold yjN at hr;have hrg:=ydm s.data.toList;obtain⟨pn,pe,hpe⟩:∃ a c,prL s.data.toList=(a,c):=⟨_,_,rfl⟩
 have HP:Hid (yas s.data.toList=.tuple #[.int .i64 pn,.int .i64 pe]):=Lh (by rw[ybY,hpe]);rw[hpe] at hr hrg;simp only at hr hrg;clear hpe
 by_cases h0:pe=0
 case neg =>
  rw[if_pos (Or.inl h0)] at hr;cases hr
  have b0:(pe != 0)=true:=by rw[bne_iff_ne];exact h0
  clear hrg h0;go_enter func100,ntmps100;go_wp2_with fail
  refine(yaP _ _ hs').mono ?_;rintro e w1 ⟨rfl,rfl⟩;rw[HP.out];go_wp2
  go_ret2
  exact⟨rfl,al1 ..⟩
 have hg:=hrg h0;subst h0;clear hrg;have m1:(pn.tmod 1000).natAbs=pn.natAbs % 1000:=by rw[Int.natAbs_tmod];rfl
 have m2:(pn.tdiv 1000).natAbs=pn.natAbs / 1000:=by rw[Int.natAbs_tdiv];rfl
 have t1:IntKind.i64.wrap (pn.tmod 1000)=pn.tmod 1000:=IntWalk.i64_in _ (by omega);have t2:IntKind.i64.wrap (pn.tdiv 1000)=pn.tdiv 1000:=IntWalk.i64_in _ (by omega)
 by_cases h4:pn.tmod 1000=0
 case neg =>
  rw[if_pos (Or.inr (Or.inr h4))] at hr;cases hr
  have b4:(pn.tmod 1000 != 0)=true:=by rw[bne_iff_ne];exact h4
  clear h4 hg m1 m2;go_enter func100,ntmps100;go_wp2_with fail
  refine(yaP _ _ hs').mono ?_;rintro e w1 ⟨rfl,rfl⟩;rw[HP.out];go_wp2
  go_ret2
  exact⟨rfl,al1 ..⟩
 rw[if_neg (by simp[h4])] at hr;have b4:(pn.tmod 1000 != 0)=false:=by rw[h4];rfl
 have e1:=(Prod.mk.inj hr).1;have e2:=(Prod.mk.inj hr).2;subst e1;subst e2;clear hr h4 hg m1 m2;obtain⟨q1,hq1⟩:∃ q,decide (lo<=pn.tdiv 1000)=q:=⟨_,rfl⟩
 obtain⟨q2,hq2⟩:∃ q,decide (pn.tdiv 1000<=hi)=q:=⟨_,rfl⟩
 rw[hq1,hq2];cases q1
 ·go_enter func100,ntmps100
  go_wp2_with fail
  refine(yaP _ _ hs').mono ?_;rintro e w1 ⟨rfl,rfl⟩;rw[HP.out];go_wp2
  go_quiet (fail)
  have hB:=ya (yF (w.alloc (.cells #[.int .i64 1000,.int .i64 lo,.int .i64 hi,.int .i64 us,fv] 175)) nq) (al1 ..);generalize (w.alloc (.cells #[.int .i64 1000,.int .i64 lo,.int .i64 hi,.int .i64 us,fv] 175)).drewN nq=wn at hB |-;go_wp2
  go_ret2
  exact⟨rfl,hB⟩
 ·go_enter func100,ntmps100
  go_wp2_with fail
  refine(yaP _ _ hs').mono ?_;rintro e w1 ⟨rfl,rfl⟩;rw[HP.out];go_wp2
  go_quiet (fail)
  have hB:=ya (yF (w.alloc (.cells #[.int .i64 1000,.int .i64 lo,.int .i64 hi,.int .i64 us,fv] 175)) nq) (al1 ..);generalize (w.alloc (.cells #[.int .i64 1000,.int .i64 lo,.int .i64 hi,.int .i64 us,fv] 175)).drewN nq=wn at hB |-;go_wp2
  go_ret2
  exact⟨rfl,hB⟩
theorem yl1 (u lo hi us:Int)(fv:Value)(s:ByteArray)(n:Int)(b:Bool)(w:World)(hs:s.size<=maxLen)(hu:u=0\/u=1\/u=1000)(h:Hid (yjN u lo hi s.data.toList=(n,b))) :
    Calls Tryz.prog 100 #[.agg #[.int .i64 u,.int .i64 lo,.int .i64 hi,.int .i64 us,fv],.string s] w fun e w'=>e=.returned (.tuple #[.int .i64 n,.bool b])/\Below w.heap.size w w':=by
 rcases hu with rfl | rfl | rfl
 ·exact yoq lo hi us fv s n b w hs h
 ·exact yor lo hi us fv s n b w hs h
 ·exact yiT lo hi us fv s n b w hs h
end Go.Proofs.YtgmidodmmlmmeaaGreatDoor.att
