/-
  Contracts and plain facts of the layers below; conditions as each theorem states them.
-/
import Derived.Test.YtgmidodmmlmmeaaGreatDoorMac
set_option maxHeartbeats 8000000
set_option maxRecDepth 100000
namespace Go.Proofs.YtgmidodmmlmmeaaGreatDoor.tre
open lex
abbrev Pr:=List UInt8 × List UInt8
inductive St where
 | mk (kind:Int) (name:List UInt8) (refs attrs:List Pr) (body:List St)
def St.kind:St->Int | .mk k _ _ _ _=>k
def St.name:St->List UInt8 | .mk _ n _ _ _=>n
def St.refs:St->List Pr | .mk _ _ r _ _=>r
def St.attrs:St->List Pr | .mk _ _ _ a _=>a
def St.body:St->List St | .mk _ _ _ _ b=>b
structure Tr where
 name:List UInt8
 dir:Bool
 body:List St
mutual
def ykD:St->Int->List (St × Int)
 | .mk k n r a b,lv=>(.mk k n r a b,lv)::ybt b (if k=5 then lv+1 else lv)
def ybt:List St->Int->List (St × Int)
 | [],_=>[]
 | s::t,lv=>ykD s lv++ybt t lv
end
theorem yef (lv:Int):ybt [] lv=[]:=rfl
theorem yH (s:St)(t:List St)(lv:Int):ybt (s::t) lv=ykD s lv++ybt t lv:=rfl
theorem y6 (s:St)(lv:Int):ykD s lv=(s,lv)::ybt s.body (if s.kind=5 then lv+1 else lv):=by cases s;rfl
theorem yba (a b:List St)(lv:Int):ybt (a++b) lv=ybt a lv++ybt b lv:=by
 induction a with
 | nil=>rfl
 | cons s t ih=>rw[List.cons_append,yH,yH,ih,List.append_assoc]
theorem ya2 {P:St->Prop}{Q:List St->Prop}(hS:∀ k n r a b,Q b->P (.mk k n r a b))(h0:Q [])(h1:∀ s t,P s->Q t->Q (s::t)):(∀ s,P s)/\∀ l,Q l :=
 ⟨fun s=>St.rec (motive_1:=P) (motive_2:=Q) (fun k n r a b hb=>hS k n r a b hb) h0 (fun s t hs ht=>h1 s t hs ht) s,
  fun l=>St.rec_1 (motive_1:=P) (motive_2:=Q) (fun k n r a b hb=>hS k n r a b hb) h0 (fun s t hs ht=>h1 s t hs ht) l⟩
theorem yc5:(∀ s:St,∀ a b,(ykD s a).length=(ykD s b).length)/\∀ l:List St,∀ a b,(ybt l a).length=(ybt l b).length :=
 ya2 (fun k n r at' b hb x y=>by rw[y6,y6,List.length_cons,List.length_cons];exact congrArg (·+1) (hb _ _)) (fun _ _=>rfl) (fun s t hs ht x y=>by rw[yH,yH,List.length_append,List.length_append,hs x y,ht x y])
def cnt (l:List St):Nat:=(ybt l 0).length
theorem yiE:cnt []=0:=rfl
theorem yaI (s:St)(t:List St):cnt (s::t)=1+cnt s.body+cnt t:=by
 unfold cnt;rw[yH,List.length_append,y6,List.length_cons,yc5.2 s.body _ 0];omega
def okL (l:List St):Prop:=∀ x∈ybt l 0,x.1.refs.length<=40/\x.1.attrs.length<=40
theorem yez:(∀ s:St,∀ a b,∀ x∈ykD s a,∃ lv,(x.1,lv)∈ykD s b)/\∀ l:List St,∀ a b,∀ x∈ybt l a,∃ lv,(x.1,lv)∈ybt l b:=by
 refine ya2 (fun k n r at' b hb x y z hz=>?_) (fun _ _ z hz=>by cases hz) (fun s t hs ht x y z hz=>?_)
 ·rw[y6] at hz |-
  rcases List.mem_cons.1 hz with rfl | hz
  ·exact⟨y,by simp⟩
  ·obtain⟨lv,h⟩:=hb _ (if (St.mk k n r at' b).kind=5 then y+1 else y) z hz
   exact⟨lv,List.mem_cons_of_mem _ h⟩
 ·rw[yH] at hz |-
  rcases List.mem_append.1 hz with hz | hz
  ·obtain⟨lv,h⟩:=hs x y z hz
   exact⟨lv,List.mem_append_left _ h⟩
  ·obtain⟨lv,h⟩:=ht x y z hz
   exact⟨lv,List.mem_append_right _ h⟩
theorem yjg {s:St}{t:List St}:okL (s::t)↔(s.refs.length<=40/\s.attrs.length<=40)/\okL s.body/\okL t:=by
 constructor
 ·intro h
  refine⟨h (s,0) (by rw[yH,y6];simp),fun x hx=>?_,fun x hx=>h x (by rw[yH];exact List.mem_append_right _ hx)⟩;obtain⟨lv,hl⟩:=yez.2 s.body 0 (if s.kind=5 then 0+1 else 0) x hx;exact h (x.1,lv) (by rw[yH,y6];exact List.mem_append_left _ (List.mem_cons_of_mem _ hl))
 ·rintro⟨h1,h2,h3⟩ x hx
  rw[yH,y6] at hx
  rcases List.mem_append.1 hx with hx | hx
  ·rcases List.mem_cons.1 hx with rfl | hx
   ·exact h1
   ·obtain⟨lv,hl⟩:=yez.2 s.body _ 0 x hx
    exact h2 (x.1,lv) hl
  ·exact h3 x hx
def yc0:List UInt8:=[110,111,100,101]
def ybR:List UInt8:=[101,100,103,101]
def ydL (s:St):Int :=
 if s.kind<1\/5<s.kind then 1
 else if (s.kind=2/\s.name≠[])\/(s.kind≠2/\0<s.refs.length)\/(s.kind=5/\0<s.attrs.length)\/(s.kind≠5/\0<s.body.length) then 1
 else if (s.kind=3/\s.name≠yc0/\s.name≠ybR)\/(s.kind=2/\s.refs.length<2) then 1
 else if s.kind=4/\(s.attrs.length≠1\/(s.attrs.head?.map (·.1))≠some []) then 1 else 0
def yc6 (k:Int):List Pr->List Pr->Int
 | _,[]=>0
 | done,a::t =>
  if k≠4/\yK a.1=false then 5
  else if done.any (fun x=>decide (x.1=a.1))=true then 6
  else if 32<a.2.length then 2
  else if a.2.all yar=false then 7
  else yc6 k (done++[a]) t
def yjh (s:St):Int:=if 16<s.attrs.length then 2 else yc6 s.kind [] s.attrs
def ydj (r:Pr):Bool:=yK r.1&&(r.2.isEmpty||yK r.2)
def ybs (s:St)(lv:Int):Int :=
 if ydL s≠0 then ydL s
 else if s.kind=5/\6<=lv then 2
 else if s.kind≠2/\s.kind≠3/\yK s.name=false then 5
 else if s.refs.all ydj=false then 5
 else yjh s
def firstE:List (St × Int)->Int
 | []=>0
 | x::t=>if ybs x.1 x.2≠0 then ybs x.1 x.2 else firstE t
def yab (T:Tr):Int:=if yK T.name=false then 5 else if 512<cnt T.body then 2 else firstE (ybt T.body 0)
theorem firstE_ok {l:List (St × Int)}:firstE l=0 ↔ ∀ x∈l,ybs x.1 x.2=0:=by
 induction l with
 | nil=>simp[firstE]
 | cons x t ih =>
  unfold firstE
  by_cases h:ybs x.1 x.2≠0
  ·rw[if_pos h];exact⟨fun e=>absurd e h,fun e=>e x (by simp)⟩
  ·rw[if_neg h,ih]
   simp only[ne_eq,Decidable.not_not] at h;exact⟨fun e y hy=>by rcases List.mem_cons.1 hy with rfl | hy;exact h;exact e y hy,fun e y hy=>e y (List.mem_cons_of_mem _ hy)⟩
theorem yaO (T:Tr):yab T=0↔yK T.name=true/\cnt T.body<=512/\∀ x∈ybt T.body 0,ybs x.1 x.2=0:=by
 unfold yab
 by_cases h1:yK T.name=false
 ·rw[if_pos h1];exact⟨fun e=>absurd e (by decide),fun e=>by rw[h1] at e;cases e.1⟩
 ·rw[if_neg h1]
  by_cases h2:512<cnt T.body
  ·rw[if_pos h2];exact⟨fun e=>absurd e (by decide),fun e=>by omega⟩
  ·rw[if_neg h2,firstE_ok]
   exact⟨fun e=>⟨by simpa using h1,by omega,e⟩,fun e=>e.2.2⟩
end Go.Proofs.YtgmidodmmlmmeaaGreatDoor.tre
namespace Go.Proofs.YtgmidodmmlmmeaaGreatDoor.tre
open Go.ChangeShapes Go.WideShapes Go.ChangeAt Go.RowKit Go.Joins lex _root_.Go.Proofs.Tryz
abbrev bb (l:List UInt8):ByteArray:=⟨l.toArray⟩
def prAt (w:World)(A:Addr)(i:Nat)(r:Pr):Prop :=
 w.cell? (A.add (i*2))=some (.string (bb r.1))/\w.cell? ⟨(A.add (i*2)).block,(A.add (i*2)).off+1,none⟩=some (.string (bb r.2))/\r.1.length<=maxLen/\r.2.length<=maxLen
def Prs (w:World)(v:Value)(l:List Pr):Prop:=∃ (ao:Option Addr) (cap:Nat),v=.slice ao l.length cap/\l.length<=cap/\cap<=maxLen/\(0<l.length->∃ A,ao=some A/\∀ i (h:i<l.length),prAt w A i l[i])
theorem prAt.keep {w1 w2:World}{A:Addr}{i:Nat}{r:Pr}(h:prAt w1 A i r)(hb:Below w1.heap.size w1 w2):prAt w2 A i r:=⟨yb hb h.1,yb hb h.2.1,h.2.2⟩
theorem Prs.keep {w1 w2:World}{v:Value}{l:List Pr}(h:Prs w1 v l)(hb:Below w1.heap.size w1 w2):Prs w2 v l:=by
 obtain⟨ao,cap,rfl,hc,hm,hA⟩:=h;exact⟨ao,cap,rfl,hc,hm,fun hn=>by obtain⟨A,rfl,h2⟩:=hA hn;exact⟨A,rfl,fun i hi=>(h2 i hi).keep hb⟩⟩
mutual
def yhM (w:World):St->Addr->Prop
 | .mk k n r a b,A=>w.cell? A=some (.int .i64 k)/\w.cell? ⟨A.block,A.off+1,none⟩=some (.string (bb n))/\n.length<=maxLen /\
  (∃ rv,w.cell? ⟨A.block,A.off+2,none⟩=some rv/\Prs w rv r)/\(∃ av,w.cell? ⟨A.block,A.off+3,none⟩=some av/\Prs w av a) /\
  ∃ ao cap,w.cell? ⟨A.block,A.off+4,none⟩=some (.slice ao b.length cap)/\b.length<=cap/\cap<=maxLen/\(0<b.length->∃ B,ao=some B/\ygM w b B 0)
def ygM (w:World):List St->Addr->Nat->Prop
 | [],_,_=>True
 | s::t,A,i=>yhM w s (A.add (i*5))/\ygM w t A (i+1)
end
def Sts (w:World)(v:Value)(l:List St):Prop:=∃ (ao:Option Addr) (cap:Nat),v=.slice ao l.length cap/\l.length<=cap/\cap<=maxLen/\(0<l.length->∃ A,ao=some A/\ygM w l A 0)
theorem yap (w:World)(s:St)(A:Addr):yhM w s A↔w.cell? A=some (.int .i64 s.kind)/\w.cell? ⟨A.block,A.off+1,none⟩=some (.string (bb s.name))/\s.name.length<=maxLen /\
    (∃ rv,w.cell? ⟨A.block,A.off+2,none⟩=some rv/\Prs w rv s.refs)/\(∃ av,w.cell? ⟨A.block,A.off+3,none⟩=some av/\Prs w av s.attrs) /\
    ∃ bv,w.cell? ⟨A.block,A.off+4,none⟩=some bv/\Sts w bv s.body:=by
 obtain⟨k,n,r,a,b⟩:=s
 show (_/\_)↔_
 constructor
 ·rintro⟨h1,h2,h3,h4,h5,ao,cap,h6,h7,h8,h9⟩
  exact⟨h1,h2,h3,h4,h5,_,h6,ao,cap,rfl,h7,h8,h9⟩
 ·rintro⟨h1,h2,h3,h4,h5,bv,h6,ao,cap,rfl,h7,h8,h9⟩
  exact⟨h1,h2,h3,h4,h5,ao,cap,h6,h7,h8,h9⟩
theorem ycG {w:World}{A:Addr}:∀ {l:List St} {i:Nat},ygM w l A i->∀ j (h:j<l.length),yhM w l[j] (A.add ((i+j)*5)):=by
 intro l
 induction l with
 | nil=>intro i _ j h;simp at h
 | cons s t ih =>
  intro i h j hj
  cases j with
  | zero=>exact h.1
  | succ j =>
   have:=ih h.2 j (by simpa using hj);rw[show i+1+j=i+(j+1) by omega] at this;exact this
theorem yjx {w:World}{A:Addr}:∀ {l:List St} {i:Nat},(∀ j (h:j<l.length),yhM w l[j] (A.add ((i+j)*5)))->ygM w l A i:=by
 intro l
 induction l with
 | nil=>intro i _;trivial
 | cons s t ih =>
  intro i h;refine⟨h 0 (by simp),ih fun j hj=>?_⟩;have:=h (j+1) (by simpa using hj);rw[show i+(j+1)=i+1+j by omega] at this;exact this
theorem yeZ {w1 w2:World}(hb:Below w1.heap.size w1 w2):(∀ s A,yhM w1 s A->yhM w2 s A)/\∀ l A i,ygM w1 l A i->ygM w2 l A i:=by
 refine ya2 (fun k n r a b hB A h=>?_) (fun _ _ h=>h) (fun s t hs ht A i h=>⟨hs _ h.1,ht _ _ h.2⟩);obtain⟨h1,h2,h3,⟨rv,h4,h4'⟩,⟨av,h5,h5'⟩,ao,cap,h6,h7,h8,h9⟩:=h
 exact⟨yb hb h1,yb hb h2,h3,⟨rv,yb hb h4,h4'.keep hb⟩,⟨av,yb hb h5,h5'.keep hb⟩,ao,cap,yb hb h6,h7,h8,fun hn=>by
  obtain⟨B,rfl,h10⟩:=h9 hn;exact⟨B,rfl,hB _ _ h10⟩⟩
theorem Sts.keep {w1 w2:World}{v:Value}{l:List St}(h:Sts w1 v l)(hb:Below w1.heap.size w1 w2):Sts w2 v l:=by
 obtain⟨ao,cap,rfl,hc,hm,hA⟩:=h;exact⟨ao,cap,rfl,hc,hm,fun hn=>by obtain⟨A,rfl,h2⟩:=hA hn;exact⟨A,rfl,(yeZ hb).2 _ _ _ h2⟩⟩
theorem Sts.nil (w:World):Sts w (.slice none 0 0) []:=⟨none,0,rfl,Nat.le_refl _,by decide,fun h=>absurd h (by simp)⟩
theorem Prs.nil (w:World):Prs w (.slice none 0 0) []:=⟨none,0,rfl,Nat.le_refl _,by decide,fun h=>absurd h (by simp)⟩
def TrV (w:World)(v:Value)(T:Tr):Prop:=∃ bv,v=.agg #[.string (bb T.name),.bool T.dir,bv]/\T.name.length<=maxLen/\Sts w bv T.body
theorem TrV.keep {w1 w2:World}{v:Value}{T:Tr}(h:TrV w1 v T)(hb:Below w1.heap.size w1 w2):TrV w2 v T:=by
 obtain⟨bv,rfl,hm,hs⟩:=h;exact⟨bv,rfl,hm,hs.keep hb⟩
theorem ycE (s:ByteArray):bb s.data.toList=s:=by cases s;simp
section
variable {H:Type} {enc:TypeId × Value->H} {w:World} {base:Nat} {spare:Nat->Bool} {held:Bool}
theorem yhN {t:TypeId}{f0 f1 f2 f3 f4:Field}{fuel:Nat}{cs:List Value}{x:DataW H × List MemPlace}(ht:Tryz.prog.underlying t=some (.struct #[f0,f1,f2,f3,f4]))(h:DataW.trod enc Tryz.prog w base spare held fuel t cs=some x) :
    ∃ y0 y1 y2 y3 y4 n,x.1=.agg [y0.1,y1.1,y2.1,y3.1,y4.1]/\cs.length=Tryz.prog.cellsOf t/\DataW.trod enc Tryz.prog w base spare held n f0.type ((cs.drop f0.offset).take (Tryz.prog.cellsOf f0.type))=some y0 /\
     DataW.trod enc Tryz.prog w base spare held n f1.type ((cs.drop f1.offset).take (Tryz.prog.cellsOf f1.type))=some y1/\DataW.trod enc Tryz.prog w base spare held n f2.type ((cs.drop f2.offset).take (Tryz.prog.cellsOf f2.type))=some y2 /\
     DataW.trod enc Tryz.prog w base spare held n f3.type ((cs.drop f3.offset).take (Tryz.prog.cellsOf f3.type))=some y3/\DataW.trod enc Tryz.prog w base spare held n f4.type ((cs.drop f4.offset).take (Tryz.prog.cellsOf f4.type))=some y4:=by
 obtain⟨xs,n,_,rfl,hl,hlen,hf⟩:=DataW.trod_struct ht h
 match xs,hlen with
 | [y0,y1,y2,y3,y4],_=>exact⟨y0,y1,y2,y3,y4,n,by simp,hl,by simpa using hf 0 f0 rfl,by simpa using hf 1 f1 rfl,by simpa using hf 2 f2 rfl,by simpa using hf 3 f3 rfl,by simpa using hf 4 f4 rfl⟩
theorem ynX {t e:TypeId}{f0 f1:Field}{fuel:Nat}{cs:List Value}{x:DataW H × List MemPlace}(ht:Tryz.prog.underlying t=some (.slice e))(he:Tryz.prog.underlying e=some (.struct #[f0,f1]))(hc:Tryz.prog.cellsOf e=2)
    (g0:f0.type=9/\f0.offset=0) (g1:f1.type=9/\f1.offset=1) (h:DataW.trod enc Tryz.prog w base spare held fuel t cs=some x):∃ v l,cs=[v]/\Prs w v l:=by
 rcases Deep.open_slice ht h with ⟨rfl,_⟩ | ⟨a,len,cap,m,n,D,Pl,rfl,_,hl,hm,hmm,_,hi⟩
 ·exact⟨_,[],rfl,Prs.nil w⟩
 ·have hlm:len<=m:=by rw[hmm];split <;> omega
  have hcs:Tryz.prog.cellsOf 9=1:=by kernel_rfl
  have key:∀ i,i<len->∃ r:Pr,prAt w a i r:=by
   intro i hil;obtain⟨cs',hc',ht'⟩:=hi i (by omega);rw[hc] at hc';obtain⟨_,hcl,hat⟩:=World.cells?_some hc';obtain⟨y0,y1,q,_,_,k0,k1⟩:=trod_struct2 he ht'
   obtain⟨c0,c1,rfl⟩:∃ c0 c1,cs'=[c0,c1]:=by
    match cs',hcl with
    | [c0,c1],_=>exact⟨c0,c1,rfl⟩
   rw[g0.1,g0.2,hcs] at k0;rw[g1.1,g1.2,hcs] at k1;obtain⟨x0,e0,_,z0⟩:=DataW.trod_string underlying9 k0;obtain⟨x1,e1,_,z1⟩:=DataW.trod_string underlying9 k1;simp at e0 e1;subst e0 e1;have j0:=hat 0 (by omega);have j1:=hat 1 (by omega);rw[ya5 _ 1 (by omega)] at j1;refine⟨(x0.data.toList,x1.data.toList),?_,?_,by simpa using z0,by simpa using z1⟩
   ·show _=some (Value.string (bb x0.data.toList));rw[ycE];exact j0
   ·show _=some (Value.string (bb x1.data.toList));rw[ycE];exact j1
  obtain⟨f,hf⟩:=Deep.choose_lt key;have hlen:((List.range len).map f).length=len:=by simp
  refine⟨_,(List.range len).map f,rfl,some a,cap,by rw[hlen],by rw[hlen];exact hl,hm,fun _=>⟨a,rfl,fun i hi'=>?_⟩⟩;rw[hlen] at hi'
  simpa using hf i hi'
end
end Go.Proofs.YtgmidodmmlmmeaaGreatDoor.tre
namespace Go.Proofs.YtgmidodmmlmmeaaGreatDoor.tre
open Go.RowKit lex _root_.Go.Proofs.Tryz
theorem ys2 (s:ByteArray)(k:Nat)(h:k<s.size):s.data.toList[k]?=some s[k]:=by
 rw[List.getElem?_eq_getElem (by simpa using h)];rfl
theorem yz (s:ByteArray):s.data.toList.length=s.size:=by simp
theorem yg6 {l:List UInt8}(h:l.length<1\/16<l.length\/yjf l=true\/yaB l<l.length):yK l=false:=by
 unfold yK
 rcases h with h | h | h | h
 ·have:l=[]:=List.length_eq_zero_iff.1 (by omega)
  subst this;rfl
 ·rw[decide_eq_false (p:=l.length<=16) (by omega)];simp
 ·rw[h];simp
 ·rw[decide_eq_false (p:=yaB l=l.length) (by omega)];simp
theorem yoz {l:List UInt8}(h0:1<=l.length)(h1:l.length<=16)(h2:yjf l=false)(h3:yaB l=l.length):yK l=true:=by
 unfold yK
 have:l.isEmpty=false:=by
  cases l with
  | nil=>simp at h0
  | cons a t=>rfl
 rw[this,h2,decide_eq_true h3,decide_eq_true h1];rfl
theorem yrp (s:ByteArray)(w:World)(hs:s.size<=maxLen) :
    Calls Tryz.prog 56 #[.string s] w fun e w'=>e=.returned (.bool (yK s.data.toList))/\w=w':=by
 unfold maxLen at hs;obtain⟨v,hv⟩:∃ v,yK s.data.toList=v:=⟨_,rfl⟩
 rw[hv];have HV:=Lh hv;clear hv
 by_cases h0:(s.size:Int)<1
 ·have HN:Hid (v=false):=Lh (by rw[<- HV.out];exact yg6 (Or.inl (by rw[yz];omega)))
  obtain rfl:=HN.out;go_enter func56,ntmps56;go_wp2;go_ret;exact⟨rfl,rfl⟩
 by_cases h1:(16:Int)<(s.size:Int)
 ·have HN:Hid (v=false):=Lh (by rw[<- HV.out];exact yg6 (Or.inr (Or.inl (by rw[yz];omega))))
  obtain rfl:=HN.out;go_enter func56,ntmps56;go_wp2;go_ret;exact⟨rfl,rfl⟩
 obtain⟨k1,e1⟩:∃ b,(s.toList==[100,105,103,114,97,112,104])=b:=⟨_,rfl⟩
 obtain⟨k2,e2⟩:∃ b,(s.toList==[103,114,97,112,104])=b:=⟨_,rfl⟩
 obtain⟨k3,e3⟩:∃ b,(s.toList==[110,111,100,101])=b:=⟨_,rfl⟩
 obtain⟨k4,e4⟩:∃ b,(s.toList==[101,100,103,101])=b:=⟨_,rfl⟩
 obtain⟨k5,e5⟩:∃ b,(s.toList==[115,101,116])=b:=⟨_,rfl⟩
 obtain⟨k6,e6⟩:∃ b,(s.toList==[99,108,117,115,116,101,114])=b:=⟨_,rfl⟩
 have hk:yjf s.data.toList=(k1||k2||k3||k4||k5||k6):=by
  rw[<- e1,<- e2,<- e3,<- e4,<- e5,<- e6,<- ByteArray.toList_eq,Bool.eq_iff_iff];unfold yjf kws;simp[or_assoc]
 have HK:=Lh hk;clear hk;cases hkw:(k1||k2||k3||k4||k5||k6)
 ·obtain⟨⟨⟨⟨⟨rfl,rfl⟩,rfl⟩,rfl⟩,rfl⟩,rfl⟩:((((k1=false/\k2=false)/\k3=false)/\k4=false)/\k5=false)/\k6=false:=by simpa using hkw
  have HK2:Hid (yjf s.data.toList=false):=Lh (HK.out.trans hkw);clear hkw HK;go_enter func56,ntmps56;go_wp2_with fail
  go_loop [3] (fun i=>∃ k:Nat,k<=s.size/\i=.int .i64 k/\WordTo s.data.toList k) (fun i=>s.size-(intOf i).toNat)
  case atStart=>exact⟨0,Nat.zero_le _,rfl,WordTo.zero _⟩
  case round =>
   obtain⟨k,hk,rfl,hw⟩:=hrel;have HW:=Lh hw;clear hw
   by_cases hlt:k<s.size
   ·have HD:=Lh (ys2 s k hlt)
    have STOP:Hid (yfQ k s[k]=false->v=false):=Lh (fun e=>by
     have:yaB s.data.toList=k:=HW.out.stop (by rw[yz];omega) (fun c hc=>by rw[HD.out] at hc;obtain rfl:=Option.some.inj hc;exact e)
     rw[<- HV.out];exact yg6 (Or.inr (Or.inr (Or.inr (by rw[yz];omega)))))
    have NEXT:Hid (yfQ k s[k]=true->WordTo s.data.toList (k+1)):=Lh (fun e=>HW.out.next HD.out e);have hz:((k:Int)==0)=decide (k=0):=by rw[Bool.eq_iff_iff];simp
    have hb:=s[k].toNat_lt;have hcl:(97<=(s[k].toNat:Int)/\(s[k].toNat:Int)<=122)\/(65<=(s[k].toNat:Int)/\(s[k].toNat:Int)<=90)\/(s[k].toNat:Int)=95\/(48<=(s[k].toNat:Int)/\(s[k].toNat:Int)<=57)\/(s[k].toNat:Int)<48\/(58<=(s[k].toNat:Int)/\(s[k].toNat:Int)<=64)\/(91<=(s[k].toNat:Int)/\(s[k].toNat:Int)<=94)\/(s[k].toNat:Int)=96\/123<=(s[k].toNat:Int):=by omega
    have hu:((s[k].toNat:Int)==95)=decide (s[k].toNat=95):=by rw[Bool.eq_iff_iff];simp;omega
    by_cases hlet:ybA s[k]=true
    ·have HN:=Lh (NEXT.out (by unfold yfQ ycP;rw[hlet];simp))
     clear NEXT STOP hz;unfold ybA at hlet;simp at hlet
     rcases hcl with ⟨ha,hc⟩ | ⟨ha,hc⟩ | ha | ⟨ha,hc⟩ | ha | ⟨ha,hc⟩ | ⟨ha,hc⟩ | ha | ha
     all_goals first
      | (exfalso;omega)
      | (first | (have hd:decide (s[k].toNat=95)=true:=by simp;omega) | (have hd:decide (s[k].toNat=95)=false:=by simp;omega)
         rw[hd] at hu
         (first | (have q1:decide ((s[k].toNat:Int)<=122)=true:=decide_eq_true (by omega)) | (have q1:decide ((s[k].toNat:Int)<=122)=false:=decide_eq_false (by omega)));(first | (have q2:decide ((s[k].toNat:Int)<=90)=true:=decide_eq_true (by omega)) | (have q2:decide ((s[k].toNat:Int)<=90)=false:=decide_eq_false (by omega)))
         clear hlet hd hb;go_wp2
         go_round
         case rel=>exact⟨k+1,by omega,by go_num,HN.out⟩
         case measure=>simp[intOf];omega)
    ·have hd:decide (s[k].toNat=95)=false:=by unfold ybA at hlet;simp at hlet;simp;omega
     rw[hd] at hu
     by_cases hk0:k=0
     ·have HN:=Lh (STOP.out (by unfold yfQ;rw[if_pos hk0];simpa using hlet))
      obtain rfl:=HN.out;rw[decide_eq_true hk0] at hz;clear hk0;unfold ybA at hlet;simp at hlet;clear NEXT STOP
      rcases hcl with ⟨ha,hc⟩ | ⟨ha,hc⟩ | ha | ⟨ha,hc⟩ | ha | ⟨ha,hc⟩ | ⟨ha,hc⟩ | ha | ha
      all_goals first
       | (exfalso;omega)
       | ((first | (have q1:decide ((s[k].toNat:Int)<=122)=true:=decide_eq_true (by omega)) | (have q1:decide ((s[k].toNat:Int)<=122)=false:=decide_eq_false (by omega)));(first | (have q2:decide ((s[k].toNat:Int)<=90)=true:=decide_eq_true (by omega)) | (have q2:decide ((s[k].toNat:Int)<=90)=false:=decide_eq_false (by omega)))
          clear hlet hd hb;go_wp2;go_ret
          exact⟨rfl,rfl⟩)
     ·rw[decide_eq_false hk0] at hz
      by_cases hdg:ycx s[k]=true
      ·have HN:=Lh (NEXT.out (by unfold yfQ ycP;rw[if_neg hk0,hdg];simp))
       unfold ybA at hlet;unfold ycx at hdg;simp at hlet hdg;clear NEXT STOP
       rcases hcl with ⟨ha,hc⟩ | ⟨ha,hc⟩ | ha | ⟨ha,hc⟩ | ha | ⟨ha,hc⟩ | ⟨ha,hc⟩ | ha | ha
       all_goals first
        | (exfalso;omega)
        | ((first | (have q1:decide ((s[k].toNat:Int)<=122)=true:=decide_eq_true (by omega)) | (have q1:decide ((s[k].toNat:Int)<=122)=false:=decide_eq_false (by omega)));(first | (have q2:decide ((s[k].toNat:Int)<=90)=true:=decide_eq_true (by omega)) | (have q2:decide ((s[k].toNat:Int)<=90)=false:=decide_eq_false (by omega)))
           clear hlet hd hb hdg;go_wp2
           go_round
           case rel=>exact⟨k+1,by omega,by go_num,HN.out⟩
           case measure=>simp[intOf];omega)
      ·have HN:=Lh (STOP.out (by unfold yfQ ycP;rw[if_neg hk0];simp[hlet,hdg]))
       obtain rfl:=HN.out;unfold ybA at hlet;unfold ycx at hdg;simp at hlet hdg;clear NEXT STOP
       rcases hcl with ⟨ha,hc⟩ | ⟨ha,hc⟩ | ha | ⟨ha,hc⟩ | ha | ⟨ha,hc⟩ | ⟨ha,hc⟩ | ha | ha
       all_goals first
        | (exfalso;omega)
        | ((first | (have q1:decide ((s[k].toNat:Int)<=122)=true:=decide_eq_true (by omega)) | (have q1:decide ((s[k].toNat:Int)<=122)=false:=decide_eq_false (by omega)));(first | (have q2:decide ((s[k].toNat:Int)<=90)=true:=decide_eq_true (by omega)) | (have q2:decide ((s[k].toNat:Int)<=90)=false:=decide_eq_false (by omega)))
           clear hlet hd hb hdg;go_wp2;go_ret
           exact⟨rfl,rfl⟩)
   ·obtain rfl:k=s.size:=by omega
    have HN:Hid (v=true):=Lh (by
     rw[<- HV.out];refine yoz (by rw[yz];omega) (by rw[yz];omega) HK2.out ?_;rw[yz]
     exact HW.out.stop (by rw[yz];omega) (fun c hc=>by rw[List.getElem?_eq_none (by rw[yz];omega)] at hc;cases hc))
    obtain rfl:=HN.out;go_wp2;go_ret;exact⟨rfl,rfl⟩
 ·have HN:Hid (v=false):=Lh (by rw[<- HV.out];exact yg6 (Or.inr (Or.inr (Or.inl (HK.out.trans hkw)))))
  obtain rfl:=HN.out;clear HK
  have hway:k1=true\/(k1=false/\k2=true)\/(k1=false/\k2=false/\k3=true)\/(k1=false/\k2=false/\k3=false/\k4=true)\/(k1=false/\k2=false/\k3=false/\k4=false/\k5=true)\/(k1=false/\k2=false/\k3=false/\k4=false/\k5=false/\k6=true):=by
   revert hkw;cases k1 <;> cases k2 <;> cases k3 <;> cases k4 <;> cases k5 <;> cases k6 <;> simp
  clear hkw HN
  rcases hway with rfl | ⟨rfl,rfl⟩ | ⟨rfl,rfl,rfl⟩ | ⟨rfl,rfl,rfl,rfl⟩ | ⟨rfl,rfl,rfl,rfl,rfl⟩ | ⟨rfl,rfl,rfl,rfl,rfl,rfl⟩
  all_goals
   go_enter func56,ntmps56;go_wp2;go_ret;exact⟨rfl,rfl⟩
theorem yb8 (s:ByteArray)(v:Bool)(w:World)(hs:s.size<=maxLen)(h:Hid (yK s.data.toList=v)) :
    Calls Tryz.prog 56 #[.string s] w fun e w'=>e=.returned (.bool v)/\w=w':=by rw[<- h.out];exact yrp s w hs
end Go.Proofs.YtgmidodmmlmmeaaGreatDoor.tre
namespace Go.Proofs.YtgmidodmmlmmeaaGreatDoor.tre
open Go.RowKit lex
theorem yl5 {l:List St}{k:Nat}(h:k<l.length):l.drop k=l[k]::l.drop (k+1):=List.drop_eq_getElem_cons h
theorem Sts.get {w:World}{ao:Option Addr}{n cap:Nat}{l:List St}(h:Sts w (.slice ao n cap) l){k:Nat}(hk:k<l.length):∃ A,ao=some A/\yhM w l[k] (A.add (k*5)):=by
 obtain⟨ao',cap',e,_,_,hA⟩:=h;cases e
 obtain⟨A,rfl,h2⟩:=hA (by omega);exact⟨A,rfl,by have:=ycG h2 k hk;rwa [Nat.zero_add] at this⟩
theorem ydR {P:List St->Prop}(step:∀ l,(∀ s∈l,P s.body)->P l)(l:List St):P l :=
 ((ya2 (P:=fun s=>P s.body) (Q:=fun l=>(∀ s∈l,P s.body)/\P l) (fun _ _ _ _ _ h=>h.2) ⟨fun _ h=>(by cases h),step [] (fun _ h=>(by cases h))⟩
  (fun s t hs ht=>(fun h=>⟨h,step _ h⟩) (fun x hx=>by rcases List.mem_cons.1 hx with rfl | hx;exact hs;exact ht.1 x hx))).2 l).2
end Go.Proofs.YtgmidodmmlmmeaaGreatDoor.tre
namespace Go.Proofs.YtgmidodmmlmmeaaGreatDoor.tre
open Go.RowKit lex _root_.Go.Proofs.Tryz
structure FV where
 s:St
 lv:Int
 rv:Value
 av:Value
 bv:Value
def ycu (f:FV):List Value:=[.int .i64 f.s.kind,.string (bb f.s.name),f.rv,f.av,f.bv,.int .i64 f.lv]
def ybf (l:List FV):List Value:=l.flatMap ycu
theorem ydz (a b:List FV):ybf (a++b)=ybf a++ybf b:=by unfold ybf;rw[List.flatMap_append]
theorem yh8 (f:FV):ybf [f]=ycu f:=by unfold ybf;simp
theorem yea (l:List FV):(ybf l).length=l.length*6:=by
 induction l with
 | nil=>rfl
 | cons a t ih=>unfold ybf at *;rw[List.flatMap_cons,List.length_append,ih];simp[ycu];omega
theorem ydA:∀ (l:List FV) (i:Nat) (h:i<l.length) (j:Nat) (u:Value),(ycu l[i])[j]?=some u->(ybf l)[i*6+j]?=some u
 | [],i,h,_,_,_=>absurd h (by simp)
 | a::t,0,_,j,u,hj=>by
  have hl:(ycu a).length=6:=rfl;have hjl:j<6:=by have:=(List.getElem?_eq_some_iff.1 hj).1;rw[show (a::t)[0]=a from rfl,hl] at this;exact this
  have e:ybf (a::t)=ycu a++ybf t:=by unfold ybf;rw[List.flatMap_cons]
  rw[e,Nat.zero_mul,Nat.zero_add,List.getElem?_append_left (by omega)];exact hj
 | a::t,i+1,h,j,u,hj=>by
  have ih:=ydA t i (by simpa using h) j u hj;have hl:(ycu a).length=6:=rfl;have e:ybf (a::t)=ycu a++ybf t:=by unfold ybf;rw[List.flatMap_cons]
  rw[e,List.getElem?_append_right (by omega),hl,show (i+1)*6+j-6=i*6+j by omega];exact ih
def fvOk (w:World)(f:FV):Prop:=f.s.name.length<=maxLen/\Prs w f.rv f.s.refs/\Prs w f.av f.s.attrs/\Sts w f.bv f.s.body
theorem fvOk.keep {w1 w2:World}{f:FV}(h:fvOk w1 f)(hb:Below w1.heap.size w1 w2):fvOk w2 f:=⟨h.1,h.2.1.keep hb,h.2.2.1.keep hb,h.2.2.2.keep hb⟩
theorem ye1 {w:World}{v:Value}{l:List Pr}(h:Prs w v l):v.oneCell'=true:=by obtain⟨_,_,rfl,_⟩:=h;rfl
theorem yrq {w:World}{v:Value}{l:List St}(h:Sts w v l):v.oneCell'=true:=by obtain⟨_,_,rfl,_⟩:=h;rfl
theorem ydS {w:World}{f:FV}(h:fvOk w f):∀ u∈ycu f,u.oneCell'=true:=by
 intro u hu;simp only[ycu,List.mem_cons,List.not_mem_nil,or_false] at hu
 rcases hu with rfl | rfl | rfl | rfl | rfl | rfl
 ·rfl
 ·rfl
 ·exact ye1 h.2.1
 ·exact ye1 h.2.2.1
 ·exact yrq h.2.2.2
 ·rfl
theorem ygj {w:World}{l:List FV}(h:∀ f∈l,fvOk w f):∀ u∈ybf l,u.oneCell'=true:=by
 intro u hu;obtain⟨f,hf,hu⟩:=List.mem_flatMap.1 hu;exact ydS (h f hf) u hu
theorem yl6:(Tryz.prog.info? 119).map (fun i=>(i.zero,i.size,i.bytes))=some (some (.agg #[.int .i64 0,.string ⟨#[]⟩,.slice none 0 0,.slice none 0 0,.slice none 0 0,.int .i64 0]),6,104):=by kernel_rfl
theorem ygk:∃ i,Tryz.prog.info? 119=some i/\i.zero=some (.agg #[.int .i64 0,.string ⟨#[]⟩,.slice none 0 0,.slice none 0 0,.slice none 0 0,.int .i64 0])/\i.size=6/\i.bytes=104:=by
 have h:=yl6
 cases hq:Tryz.prog.info? 119 with
 | none=>rw[hq] at h;cases h
 | some i =>
  rw[hq] at h;simp only[Option.map_some,Option.some.injEq,Prod.mk.injEq] at h;exact⟨i,rfl,h.1,h.2.1,h.2.2⟩
theorem yh9 (w:World)(a b c d e f:Value)(t:TypeId):∀ j u,[a,b,c,d,e,f][j]?=some u->(w.alloc (.cells #[a,b,c,d,e,f] t)).cell? ((⟨w.heap.size,0,none⟩:Addr).add j)=some u:=by
 intro j u hj
 match j,hj with
 | 0,hj=>simp at hj;subst hj;simp[Addr.add]
 | 1,hj=>simp at hj;subst hj;simp[Addr.add]
 | 2,hj=>simp at hj;subst hj;simp[Addr.add]
 | 3,hj=>simp at hj;subst hj;simp[Addr.add]
 | 4,hj=>simp at hj;subst hj;simp[Addr.add]
 | 5,hj=>simp at hj;subst hj;simp[Addr.add]
 | (j+6),hj=>simp at hj
def yqw (w0:World)(l:List St)(lv:Int)(w:World)(e:Ending)(w':World):Prop:=∃ (g cap:Nat) (F:List FV),e=.returned (.slice (some ⟨g,0,none⟩) F.length cap) /\
 w'.ownsRow w.heap.size 119 6 (.slice (some ⟨g,0,none⟩) F.length cap) F.length (ybf F)/\F.map (fun f=>(f.s,f.lv))=ybt l lv/\(∀ f∈F,fvOk w0 f)/\Below w.heap.size w w'
def yrr (l:List St):Prop:=∀ (w0 w:World) (v:Value) (lv:Int),Below w0.heap.size w0 w->Sts w0 v l->cnt l<=600->0<=lv->lv+cnt l<=1000 ->
 Calls Tryz.prog 57 #[v,.int .i64 lv] w (yqw w0 l lv w)
theorem ybE (a b:List St):cnt (a++b)=cnt a+cnt b:=by unfold cnt;rw[yba,List.length_append]
theorem yer {l:List St}{k:Nat}(h:k<l.length):cnt (l.take k)+1+cnt l[k].body<=cnt l/\l.take (k+1)=l.take k++[l[k]]:=by
 have e:l.take (k+1)=l.take k++[l[k]]:=by rw[List.take_add_one,List.getElem?_eq_getElem h];rfl
 refine⟨?_,e⟩;have h2:cnt l=cnt (l.take k)+cnt (l.drop k):=by rw[<- ybE,List.take_append_drop]
 rw[h2,yl5 h,yaI];omega
theorem yoA (l:List St)(ih:∀ s∈l,yrr s.body):yrr l:=by
 intro w0 w v lv hw hs hcn h0 h1;obtain⟨i0,hi,hz0,hz1,hz2⟩:=ygk;have hs':=hs;obtain⟨ao,cap,rfl,hc,hm,_⟩:=hs';have HS:=Lh hs;have IH:=Lh ih;unfold maxLen at hm;have hlm:l.length<=9223372036854775807:=by omega
 clear hs ih hc hm;go_enter func57,ntmps57;go_wp2_with fail
 go_loopw [5,6] (fun out iv wr=>∃ (g oc:Nat) (F:List FV) (k:Nat),out=.slice (some ⟨g,0,none⟩) F.length oc/\iv=.int .i64 k/\k<=l.length/\wr.ownsRow w.heap.size 119 6 (.slice (some ⟨g,0,none⟩) F.length oc) F.length (ybf F) /\
  F.map (fun f=>(f.s,f.lv))=ybt (l.take k) lv/\(∀ f∈F,fvOk w0 f)/\Below w.heap.size w wr) (fun _ iv _=>l.length-(intOf iv).toNat)
 case atStart =>
  exact⟨w.heap.size,0,[],0,rfl,rfl,Nat.zero_le _,World.ownsRow_lit (e:=119) (size:=6) w #[] 0 (Nat.le_refl _) (by decide) rfl,rfl,fun f hf=>(by cases hf),al1 ..⟩
 case round =>
  obtain⟨g,oc,F,k,rfl,rfl,hk,hown,hF,hfv,hB⟩:=hrel
  rename World=>wr
  have HO:=Lh hown;have HF:=Lh hF;have HFV:=Lh hfv;have hsz:=hB.size;clear hown hF hfv;have hFl:F.length=cnt (l.take k):=by have:=congrArg List.length HF.out;rw[List.length_map] at this;rw[this];exact yc5.2 _ _ _
  by_cases hlt:k<l.length
  ·obtain⟨hct,htk⟩:=yer hlt
   have hB0:Below w0.heap.size w0 wr:=hw.trans (hB.mono hw.size);obtain⟨A,rfl,hst0⟩:=HS.out.get hlt;have hst:=(yeZ hB0).1 _ _ hst0;obtain⟨c0,c1,hnl,⟨rv,c2,hrv⟩,⟨av,c3,hav⟩,bv,c4,hbv⟩:=(yap _ _ _).1 hst;obtain⟨_,_,_,⟨rv',c2',hrv0⟩,⟨av',c3',hav0⟩,bv',c4',hbv0⟩:=(yap _ _ _).1 hst0;obtain rfl:rv'=rv:=Option.some.inj ((yb hB0 c2').symm.trans c2);obtain rfl:av'=av:=Option.some.inj ((yb hB0 c3').symm.trans c3);obtain rfl:bv'=bv:=Option.some.inj ((yb hB0 c4').symm.trans c4);have HNF:Hid (fvOk w0 ⟨l[k],lv,rv',av',bv'⟩):=Lh ⟨hnl,hrv0,hav0,hbv0⟩;have HBV0:=Lh hbv0;have hone:=ydS HNF.out;have HONE:=Lh hone;have hPre:=IH.out l[k] (List.getElem_mem hlt);have HPRE:=Lh hPre
   have HPL:Hid (ybt (l.take (k+1)) lv=ybt (l.take k) lv++((l[k],lv)::ybt l[k].body (if l[k].kind=5 then lv+1 else lv))):=Lh (by
    rw[htk,yba,yH,yef,List.append_nil,y6])
   have k0:=((yap _ _ _).1 hst0).1;have k4:=c4';clear hrv hav hbv hrv0 hav0 hbv0 hst hst0 c2' c3' c4' hone hPre htk;have z0:(0:Int)<=(k:Int):=by omega
   have z1:(k:Int)<(l.length:Int):=by omega
   obtain⟨s,hse⟩:∃ s,l[k]=s:=⟨_,rfl⟩
   rw[hse] at c0 c1 HNF HBV0 HONE HPRE HPL hct hnl k0;clear hse;have hFb:F.length+1+cnt s.body<=600:=by omega
   have hlvb:lv+1+cnt s.body<=1000:=by omega
   have hB1:=ya (al1 wr (.cells #[.int .i64 s.kind,.string (bb s.name),rv',av',bv',.int .i64 lv] 119)) hB;have HK0:=Lh k0;have HK4:=Lh k4;clear k0 k4 hFl hct;obtain⟨lw,hlw⟩:∃ q:Int,(if s.kind=5 then lv+1 else lv)=q:=⟨_,rfl⟩
   rw[hlw] at HPL;have hl0:0<=lw:=by rw[<- hlw];split <;> omega
   have hl1:lw+cnt s.body<=1000:=by rw[<- hlw];split <;> omega
   have hway:((s.kind==5)=true/\lw=lv+1)\/((s.kind==5)=false/\lv=lw):=by
    by_cases h5:s.kind=5
    ·rw[if_pos h5] at hlw;exact Or.inl ⟨by rw[beq_iff_eq];exact h5,hlw.symm⟩
    ·rw[if_neg h5] at hlw;exact Or.inr ⟨by rw[beq_eq_false_iff_ne];exact h5,hlw⟩
   clear hlw
   rcases hway with ⟨b5,rfl⟩ | ⟨b5,rfl⟩
   all_goals
    go_wp2_with (first
     | (at_builtin;refine wpList_append_own _ rfl (.tmp 15) (.tmp 22) 115 rfl w.heap.size 119 i0 (.agg #[.int .i64 0,.string ⟨#[]⟩,.slice none 0 0,.slice none 0 0,.slice none 0 0,.int .i64 0]) 6 104 underlying115 hi hz0 hz1 hz2 rfl (by decide) _ _ _ rfl (World.ownsRow.alloc HO.out _) ⟨wr.heap.size,0,none⟩ 1 1 [.int .i64 s.kind,.string (bb s.name),rv',av',bv',.int .i64 lv] rfl rfl (yh9 _ _ _ _ _ _ _ _) (fun u hu=>HONE.out u hu) (by unfold maxLen;omega) (by omega) (by simp;omega) ?_;intro v3 w3 hown3 hgrow3 hnil3;have hB3:=(hB.alloc hsz (.cells #[.int .i64 s.kind,.string (bb s.name),rv',av',bv',.int .i64 lv] 119)).grown hgrow3 (by simp;omega) (fun q hq=>(World.ownsRow.lt HO.out q hq).1);have hs3:=hB3.size;have hBw:=hw.trans (hB3.mono hw.size);have d0:=yb hBw HK0.out;have d4:=yb hBw HK4.out;have HO3:=Lh hown3;clear hown3 hgrow3 hnil3)
     | (go_at_call 57;refine(HPRE.out w0 w3 bv' _ hBw HBV0.out (by omega) hl0 hl1).mono ?_;rintro e w4 ⟨g4,oc4,G,rfl,hown4,hG,hGv,hb4⟩;have HO4:=Lh (own_keep HO3.out hb4);have HG:=Lh hG;have HGV:=Lh hGv;have HOG:=Lh hown4;have hB4:=ya hb4 hB3;have hs4:=hB4.size;have hGl:G.length=cnt s.body:=(by have:=congrArg List.length hG;rw[List.length_map] at this;rw[this];exact yc5.2 _ _ _);have hGb:F.length+1+G.length<=600:=(by omega);clear hown4 hG hGv hb4 hGl)
     | (at_builtin;refine wpList_append_own _ rfl (.tmp 33) (.tmp 40) 115 rfl w.heap.size 119 i0 (.agg #[.int .i64 0,.string ⟨#[]⟩,.slice none 0 0,.slice none 0 0,.slice none 0 0,.int .i64 0]) 6 104 underlying115 hi hz0 hz1 hz2 rfl (by decide) _ _ _ rfl HO4.out ⟨g4,0,none⟩ G.length oc4 (ybf G) rfl (yea G) (World.ownsRow.cells HOG.out (g:=g4) rfl) (ygj HGV.out) (by unfold maxLen;omega) (by omega) hs4 ?_;intro v5 w5 hown5 hgrow5 hnil5;have hB5:=hB4.grown hgrow5 hs4 (fun q hq=>(World.ownsRow.lt HO4.out q hq).1);have HO5:=Lh hown5;clear hown5 hgrow5 hnil5))
    have hcat:ybf F++[.int .i64 s.kind,.string (bb s.name),rv',av',bv',.int .i64 lv]++ybf G=ybf (F++[(⟨s,lv,rv',av',bv'⟩:FV)]++G):=by rw[ydz,ydz,yh8];rfl
    have hlen:(F++[(⟨s,lv,rv',av',bv'⟩:FV)]++G).length=F.length+1+G.length:=by simp;omega
    have hO5:=HO5.out;rw[hcat,<- hlen] at hO5
    obtain⟨g5,oc5,rfl⟩:∃ g5 oc5,v5=.slice (some ⟨g5,0,none⟩) (F++[(⟨s,lv,rv',av',bv'⟩:FV)]++G).length oc5:=by
     rcases hO5.2 with ⟨_,h0⟩ | ⟨g5,oc5,_,rfl,_⟩
     ·rw[hlen] at h0;omega
     ·exact⟨g5,oc5,rfl⟩
    have HO6:=Lh hO5;clear HO5 hO5 hcat hlen
    go_roundw
    case rel=>exact⟨g5,oc5,F++[(⟨s,lv,rv',av',bv'⟩:FV)]++G,k+1,rfl,by go_num,by omega,HO6.out,by rw[List.map_append,List.map_append,HF.out,HG.out,HPL.out,List.append_assoc];rfl,fun f hf=>by
     rcases List.mem_append.1 hf with hf | hf
     ·rcases List.mem_append.1 hf with hf | hf
      ·exact HFV.out f hf
      ·rw[List.mem_singleton.1 hf];exact HNF.out
     ·exact HGV.out f hf,hB5⟩
    case measure=>simp[intOf];omega
  ·obtain rfl:k=l.length:=by omega
   have HL:Hid (l.take l.length=l):=Lh (List.take_length);go_wp2;go_ret;exact⟨g,oc,F,rfl,HO.out,by rw[HF.out,HL.out],HFV.out,hB⟩
theorem ys3 (l:List St):yrr l:=ydR yoA l
abbrev stV (s:St)(rv av bv:Value):Value:=.agg #[.int .i64 s.kind,.string (bb s.name),rv,av,bv]
def at5 (w:World)(b:Nat)(k:Int)(x:ByteArray)(rv av bv:Value):Prop:=w.cell? ⟨b,0,none⟩=some (.int .i64 k)/\w.cell? ⟨b,1,none⟩=some (.string x)/\w.cell? ⟨b,2,none⟩=some rv/\w.cell? ⟨b,3,none⟩=some av/\w.cell? ⟨b,4,none⟩=some bv
theorem ycj (w:World)(k:Int)(x:ByteArray)(rv av bv:Value)(t:TypeId):at5 (w.alloc (.cells #[.int .i64 k,.string x,rv,av,bv] t)) w.heap.size k x rv av bv:=by
 refine⟨?_,?_,?_,?_,?_⟩ <;> go_simp
theorem yg7 {w1 w2:World}{b:Nat}{k:Int}{x:ByteArray}{rv av bv:Value}(h:at5 w1 b k x rv av bv)(h2:Below w1.heap.size w1 w2):at5 w2 b k x rv av bv :=
 ⟨ye h2 h.1,ye h2 h.2.1,ye h2 h.2.2.1,ye h2 h.2.2.2.1,ye h2 h.2.2.2.2⟩
theorem yg8 (s:St)(rv av bv:Value)(R:Int)(w:World)(h:Hid (fvOk w ⟨s,0,rv,av,bv⟩))(hR:Hid (ydL s=R)) :
    Calls Tryz.prog 118 #[stV s rv av bv] w fun e w'=>e=.returned (.int .i64 R)/\Below w.heap.size w w':=by
 obtain⟨k,n,r,a,b⟩:=s;obtain⟨hnl,hrv,hav,hbv⟩:=h.out;simp only[St.refs,St.body,St.attrs,St.name] at hrv hav hbv hnl;have hR2:=hR.out;simp only[ydL,St.kind,St.name,St.refs,St.attrs,St.body] at hR2;clear hR;have hR:=Lh hR2;clear hR2;clear h;have hav':=hav;obtain⟨ro,rc,rfl,_,_,_⟩:=hrv;obtain⟨so,sc,rfl,_,_,_⟩:=hav';obtain⟨bo,bc,rfl,_,_,_⟩:=hbv
 show Calls Tryz.prog 118 #[.agg #[.int .i64 k,.string (bb n),.slice ro r.length rc,.slice so a.length sc,.slice bo b.length bc]] w _
 have hB:=al1 w (.cells #[.int .i64 k,.string (bb n),.slice ro r.length rc,.slice so a.length sc,.slice bo b.length bc] 67);have HAV:=Lh (hav.keep hB);obtain⟨X,hX⟩:∃ X,bb n=X:=⟨_,rfl⟩
 have hXn:X.toList=n:=by rw[<- hX,ByteArray.toList_eq]
 have e0:X.toList.isEmpty=decide (n=[]):=by rw[hXn];cases n <;> rfl
 have e1:(X.toList==[110,111,100,101])=decide (n=yc0):=by rw[hXn,Bool.eq_iff_iff,beq_iff_eq,decide_eq_true_eq];rfl
 have e2:(X.toList==[101,100,103,101])=decide (n=ybR):=by rw[hXn,Bool.eq_iff_iff,beq_iff_eq,decide_eq_true_eq];rfl
 have e3:(X.toList != [110,111,100,101])=!decide (n=yc0):=by rw[bne,e1]
 have e4:(X.toList != [101,100,103,101])=!decide (n=ybR):=by rw[bne,e2]
 rw[hX] at HAV hB |-;clear hav hX hXn hnl;have q1:decide ((0:Int)<(r.length:Int))=decide (0<r.length):=by rw[Bool.eq_iff_iff];simp
 have q2:decide ((0:Int)<(a.length:Int))=decide (0<a.length):=by rw[Bool.eq_iff_iff];simp
 have q3:decide ((0:Int)<(b.length:Int))=decide (0<b.length):=by rw[Bool.eq_iff_iff];simp
 have q4:decide ((r.length:Int)<2)=decide (r.length<2):=by rw[Bool.eq_iff_iff,decide_eq_true_eq,decide_eq_true_eq];omega
 have q5:((a.length:Int) != 1)=!decide (a.length=1):=by rw[bne,Bool.eq_iff_iff];simp;omega
 -- ways (genfld.py)
 by_cases kl:k<1
 ·obtain rfl:(1:Int)=R:=by rw[<- hR.out];simp[kl]
  clear hR;go_enter func118,ntmps118;go_wp2;go_ret;exact⟨rfl,hB⟩
 by_cases kh:5<k
 ·obtain rfl:(1:Int)=R:=by rw[<- hR.out];simp[kh]
  clear hR;go_enter func118,ntmps118;go_wp2;go_ret;exact⟨rfl,hB⟩
 have hk:k=1\/k=2\/k=3\/k=4\/k=5:=by omega
 clear kl kh
 rcases hk with rfl | rfl | rfl | rfl | rfl
 ·by_cases t1:0<r.length
  ·rw[decide_eq_true t1] at q1
   have pt1:decide (0<r.length)=true:=decide_eq_true t1;obtain rfl:(1:Int)=R:=by rw[<- hR.out];simp[t1]
   clear hR t1;go_enter func118,ntmps118;go_wp2;go_ret;exact⟨rfl,hB⟩
  ·rw[decide_eq_false t1] at q1
   have pt1:decide (0<r.length)=false:=decide_eq_false t1
   by_cases t2:0<b.length
   ·rw[decide_eq_true t2] at q3
    have pt2:decide (0<b.length)=true:=decide_eq_true t2;obtain rfl:(1:Int)=R:=by rw[<- hR.out];simp[t1,t2]
    clear hR t1 t2;go_enter func118,ntmps118;go_wp2;go_ret;exact⟨rfl,hB⟩
   ·rw[decide_eq_false t2] at q3
    have pt2:decide (0<b.length)=false:=decide_eq_false t2;obtain rfl:(0:Int)=R:=by rw[<- hR.out];simp[t1,t2]
    clear hR t1 t2;go_enter func118,ntmps118;go_wp2;go_ret;exact⟨rfl,hB⟩
 ·by_cases t1:n=[]
  ·rw[decide_eq_true t1] at e0
   by_cases t2:0<b.length
   ·rw[decide_eq_true t2] at q3
    have pt2:decide (0<b.length)=true:=decide_eq_true t2;obtain rfl:(1:Int)=R:=by rw[<- hR.out];simp[t1,t2]
    clear hR t1 t2;go_enter func118,ntmps118;go_wp2;go_ret;exact⟨rfl,hB⟩
   ·rw[decide_eq_false t2] at q3
    have pt2:decide (0<b.length)=false:=decide_eq_false t2
    by_cases t3:r.length<2
    ·rw[decide_eq_true t3] at q4
     have pt3:decide (r.length<2)=true:=decide_eq_true t3;obtain rfl:(1:Int)=R:=by rw[<- hR.out];simp[t1,t2,t3]
     clear hR t1 t2 t3;go_enter func118,ntmps118;go_wp2;go_ret;exact⟨rfl,hB⟩
    ·rw[decide_eq_false t3] at q4
     have pt3:decide (r.length<2)=false:=decide_eq_false t3;obtain rfl:(0:Int)=R:=by rw[<- hR.out];simp[t1,t2,t3]
     clear hR t1 t2 t3;go_enter func118,ntmps118;go_wp2;go_ret;exact⟨rfl,hB⟩
  ·rw[decide_eq_false t1] at e0
   obtain rfl:(1:Int)=R:=by rw[<- hR.out];simp[t1]
   clear hR t1;go_enter func118,ntmps118;go_wp2;go_ret;exact⟨rfl,hB⟩
 ·by_cases t1:0<r.length
  ·rw[decide_eq_true t1] at q1
   have pt1:decide (0<r.length)=true:=decide_eq_true t1;obtain rfl:(1:Int)=R:=by rw[<- hR.out];simp[t1]
   clear hR t1;go_enter func118,ntmps118;go_wp2;go_ret;exact⟨rfl,hB⟩
  ·rw[decide_eq_false t1] at q1
   have pt1:decide (0<r.length)=false:=decide_eq_false t1
   by_cases t2:0<b.length
   ·rw[decide_eq_true t2] at q3
    have pt2:decide (0<b.length)=true:=decide_eq_true t2;obtain rfl:(1:Int)=R:=by rw[<- hR.out];simp[t1,t2]
    clear hR t1 t2;go_enter func118,ntmps118;go_wp2;go_ret;exact⟨rfl,hB⟩
   ·rw[decide_eq_false t2] at q3
    have pt2:decide (0<b.length)=false:=decide_eq_false t2
    by_cases t3:n=yc0
    ·rw[decide_eq_true t3] at e1;rw[decide_eq_true t3] at e3
     obtain rfl:(0:Int)=R:=by rw[<- hR.out];simp[t1,t2,t3]
     clear hR t1 t2 t3;go_enter func118,ntmps118;go_wp2;go_ret;exact⟨rfl,hB⟩
    ·rw[decide_eq_false t3] at e1;rw[decide_eq_false t3] at e3
     by_cases t4:n=ybR
     ·rw[decide_eq_true t4] at e2;rw[decide_eq_true t4] at e4
      obtain rfl:(0:Int)=R:=by rw[<- hR.out];simp[t1,t2,t4]
      clear hR t1 t2 t3 t4;go_enter func118,ntmps118;go_wp2;go_ret;exact⟨rfl,hB⟩
     ·rw[decide_eq_false t4] at e2;rw[decide_eq_false t4] at e4
      obtain rfl:(1:Int)=R:=by rw[<- hR.out];simp[t1,t2,t3,t4]
      clear hR t1 t2 t3 t4;go_enter func118,ntmps118;go_wp2;go_ret;exact⟨rfl,hB⟩
 ·by_cases t1:0<r.length
  ·rw[decide_eq_true t1] at q1
   have pt1:decide (0<r.length)=true:=decide_eq_true t1;obtain rfl:(1:Int)=R:=by rw[<- hR.out];simp[t1]
   clear hR t1;go_enter func118,ntmps118;go_wp2;go_ret;exact⟨rfl,hB⟩
  ·rw[decide_eq_false t1] at q1
   have pt1:decide (0<r.length)=false:=decide_eq_false t1
   by_cases t2:0<b.length
   ·rw[decide_eq_true t2] at q3
    have pt2:decide (0<b.length)=true:=decide_eq_true t2;obtain rfl:(1:Int)=R:=by rw[<- hR.out];simp[t1,t2]
    clear hR t1 t2;go_enter func118,ntmps118;go_wp2;go_ret;exact⟨rfl,hB⟩
   ·rw[decide_eq_false t2] at q3
    have pt2:decide (0<b.length)=false:=decide_eq_false t2
    by_cases t3:a.length=1
    ·rw[decide_eq_true t3] at q5
     have pt3:decide (a.length=1)=true:=decide_eq_true t3;obtain⟨y,hy⟩:∃ y,a=[y]:=List.length_eq_one_iff.1 t3
     obtain⟨_,_,ec,_,_,hA⟩:=HAV.out;obtain⟨A,rfl,hAt⟩:=hA (by rw[hy];simp);have ec2:so=some A:=by simp only[Value.slice.injEq] at ec;exact ec.1
     subst ec2;have c0:=(hAt 0 (by rw[hy];simp)).1;have e5:A.add (0*2)=A:=by unfold Addr.add;rfl
     rw[e5] at c0;have e6:a[0]'(by rw[hy];simp)=y:=by subst hy;rfl
     rw[e6] at c0;obtain⟨Y,hY⟩:∃ Y,bb y.1=Y:=⟨_,rfl⟩
     have hYn:Y.toList=y.1:=by rw[<- hY,ByteArray.toList_eq]
     have e7:Y.toList.isEmpty=decide (y.1=[]):=by rw[hYn];cases y.1 <;> rfl
     rw[hY] at c0;have hal:a.length=1:=t3;have l1:(a.length:Int)=1:=by omega
     clear HAV hAt hA ec e5 e6 hY hYn
     by_cases t4:y.1=[]
     ·rw[decide_eq_true t4] at e7
      obtain rfl:(0:Int)=R:=by rw[<- hR.out];simp[t1,t2,hy,t4]
      clear hR hal hy t1 t2 t3 t4;go_enter func118,ntmps118;go_wp2;go_ret;exact⟨rfl,hB⟩
     ·rw[decide_eq_false t4] at e7
      obtain rfl:(1:Int)=R:=by rw[<- hR.out];simp[t1,t2,hy,t4]
      clear hR hal hy t1 t2 t3 t4;go_enter func118,ntmps118;go_wp2;go_ret;exact⟨rfl,hB⟩
    ·rw[decide_eq_false t3] at q5
     have pt3:decide (a.length=1)=false:=decide_eq_false t3;obtain rfl:(1:Int)=R:=by rw[<- hR.out];simp[t1,t2,t3]
     clear hR t1 t2 t3;go_enter func118,ntmps118;go_wp2;go_ret;exact⟨rfl,hB⟩
 ·by_cases t1:0<r.length
  ·rw[decide_eq_true t1] at q1
   have pt1:decide (0<r.length)=true:=decide_eq_true t1;obtain rfl:(1:Int)=R:=by rw[<- hR.out];simp[t1]
   clear hR t1;go_enter func118,ntmps118;go_wp2;go_ret;exact⟨rfl,hB⟩
  ·rw[decide_eq_false t1] at q1
   have pt1:decide (0<r.length)=false:=decide_eq_false t1
   by_cases t2:0<a.length
   ·rw[decide_eq_true t2] at q2
    have pt2:decide (0<a.length)=true:=decide_eq_true t2;obtain rfl:(1:Int)=R:=by rw[<- hR.out];simp[t1,t2]
    clear hR t1 t2;go_enter func118,ntmps118;go_wp2;go_ret;exact⟨rfl,hB⟩
   ·rw[decide_eq_false t2] at q2
    have pt2:decide (0<a.length)=false:=decide_eq_false t2;obtain rfl:(0:Int)=R:=by rw[<- hR.out];simp[t1,t2]
    clear hR t1 t2;go_enter func118,ntmps118;go_wp2;go_ret;exact⟨rfl,hB⟩
end Go.Proofs.YtgmidodmmlmmeaaGreatDoor.tre
