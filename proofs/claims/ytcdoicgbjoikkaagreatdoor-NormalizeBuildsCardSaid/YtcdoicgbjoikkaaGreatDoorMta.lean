/-
  Plain facts on syntax trees (layer 7): what is valid, the names, renaming, and that renaming back restores a tree. No function of the program is named here; no condition.
  Renaming a node and back (P7.5), and equality of trees: plain facts. No function of the program is named here; no condition.
  Trees in memory: lists of refs, attributes and statements as slices hold them; a tree that comes in. No condition.
-/
import Derived.Test.YtcdoicgbjoikkaaGreatDoorMad
namespace Go.Proofs.YtcdoicgbjoikkaaGreatDoor.tre
open lex
abbrev Pr:=List UInt8 × List UInt8
inductive St where
 | mk (kind:Int) (name:List UInt8) (refs attrs:List Pr) (body:List St)
def St.kind:St→Int | .mk k _ _ _ _=>k
def St.name:St→List UInt8 | .mk _ n _ _ _=>n
def St.refs:St→List Pr | .mk _ _ r _ _=>r
def St.attrs:St→List Pr | .mk _ _ _ a _=>a
def St.body:St→List St | .mk _ _ _ _ b=>b
structure Tr where
 name:List UInt8
 dir:Bool
 body:List St
mutual
def preS:St→Int→List (St × Int)
 | .mk k n r a b,lv=>(.mk k n r a b,lv) :: preL b (if k=5 then lv+1 else lv)
def preL:List St→Int→List (St × Int)
 | [],_=>[]
 | s :: t,lv=>preS s lv ++ preL t lv
end
theorem preL_nil (lv:Int):preL [] lv=[]:=rfl
theorem preL_cons (s:St)(t:List St)(lv:Int):preL (s :: t) lv=preS s lv ++ preL t lv:=rfl
theorem preS_eq (s:St)(lv:Int):preS s lv=(s,lv) :: preL s.body (if s.kind=5 then lv+1 else lv):=by cases s;rfl
theorem preL_app (a b:List St)(lv:Int):preL (a ++ b) lv=preL a lv ++ preL b lv:=by
 induction a with
 | nil=>rfl
 | cons s t ih=>rw [List.cons_append,preL_cons,preL_cons,ih,List.append_assoc]
theorem st_ind {P:St→Prop}{Q:List St→Prop}(hS:∀ k n r a b,Q b→P (.mk k n r a b))(h0:Q [])(h1:∀ s t,P s→Q t→Q (s :: t)):(∀ s,P s)∧∀ l,Q l :=
 ⟨fun s=>St.rec (motive_1:=P) (motive_2:=Q) (fun k n r a b hb=>hS k n r a b hb) h0 (fun s t hs ht=>h1 s t hs ht) s,
  fun l=>St.rec_1 (motive_1:=P) (motive_2:=Q) (fun k n r a b hb=>hS k n r a b hb) h0 (fun s t hs ht=>h1 s t hs ht) l⟩
def hL:Nat→List St→Bool
 | 0,l=>l.isEmpty
 | d+1,l=>l.all fun s=>hL d s.body
theorem pre_len:(∀ s:St,∀ a b,(preS s a).length=(preS s b).length)∧∀ l:List St,∀ a b,(preL l a).length=(preL l b).length :=
 st_ind (fun k n r at' b hb x y=>by rw [preS_eq,preS_eq,List.length_cons,List.length_cons];exact congrArg (·+1) (hb _ _)) (fun _ _=>rfl) (fun s t hs ht x y=>by rw [preL_cons,preL_cons,List.length_append,List.length_append,hs x y,ht x y])
def stmL:List St→Int→Int→Int→Int
 | [],n,_,_=>n
 | .mk _ _ r a b :: t,n,most,d =>
  if most < n+1∨40 < r.length∨40 < a.length then -1
  else if (if 20 < d+1 then -1 else stmL b 0 (most - (n+1)) (d+1)) < 0 then -1
  else stmL t (n+1+(if 20 < d+1 then -1 else stmL b 0 (most - (n+1)) (d+1))) most d
def stmT (l:List St)(most d:Int):Int:=if 20 < d then -1 else stmL l 0 most d
def cnt (l:List St):Nat:=(preL l 0).length
theorem cnt_nil:cnt []=0:=rfl
theorem cnt_cons (s:St)(t:List St):cnt (s :: t)=1+cnt s.body+cnt t:=by
 unfold cnt
 rw [preL_cons,List.length_append,preS_eq,List.length_cons,pre_len.2 s.body _ 0]
 omega
def okL (l:List St):Prop:=∀ x∈preL l 0,x.1.refs.length≤40∧x.1.attrs.length≤40
theorem pre_mem:(∀ s:St,∀ a b,∀ x∈preS s a,∃ lv,(x.1,lv)∈preS s b)∧∀ l:List St,∀ a b,∀ x∈preL l a,∃ lv,(x.1,lv)∈preL l b:=by
 refine st_ind (fun k n r at' b hb x y z hz=>?_) (fun _ _ z hz=>by cases hz) (fun s t hs ht x y z hz=>?_)
 ·rw [preS_eq] at hz ⊢
  rcases List.mem_cons.1 hz with rfl | hz
  ·exact ⟨y,by simp⟩
  ·obtain ⟨lv,h⟩:=hb _ (if (St.mk k n r at' b).kind=5 then y+1 else y) z hz
   exact ⟨lv,List.mem_cons_of_mem _ h⟩
 ·rw [preL_cons] at hz ⊢
  rcases List.mem_append.1 hz with hz | hz
  ·obtain ⟨lv,h⟩:=hs x y z hz
   exact ⟨lv,List.mem_append_left _ h⟩
  ·obtain ⟨lv,h⟩:=ht x y z hz
   exact ⟨lv,List.mem_append_right _ h⟩
theorem okL_cons {s:St}{t:List St}:okL (s :: t) ↔ (s.refs.length≤40∧s.attrs.length≤40)∧okL s.body∧okL t:=by
 constructor
 ·intro h
  refine ⟨h (s,0) (by rw [preL_cons,preS_eq];simp),fun x hx=>?_,fun x hx=>h x (by rw [preL_cons];exact List.mem_append_right _ hx)⟩
  obtain ⟨lv,hl⟩:=pre_mem.2 s.body 0 (if s.kind=5 then 0+1 else 0) x hx
  exact h (x.1,lv) (by rw [preL_cons,preS_eq];exact List.mem_append_left _ (List.mem_cons_of_mem _ hl))
 ·rintro ⟨h1,h2,h3⟩ x hx
  rw [preL_cons,preS_eq] at hx
  rcases List.mem_append.1 hx with hx | hx
  ·rcases List.mem_cons.1 hx with rfl | hx
   ·exact h1
   ·obtain ⟨lv,hl⟩:=pre_mem.2 s.body _ 0 x hx
    exact h2 (x.1,lv) hl
  ·exact h3 x hx
def few (l:List St):Bool:=decide (0≤stmT l 600 0)
def wNode:List UInt8:=[110,111,100,101]
def wEdge:List UInt8:=[101,100,103,101]
def fldE (s:St):Int :=
 if s.kind < 1∨5 < s.kind then 1
 else if (s.kind=2∧s.name≠[])∨(s.kind≠2∧0 < s.refs.length)∨(s.kind=5∧0 < s.attrs.length)∨(s.kind≠5∧0 < s.body.length) then 1
 else if (s.kind=3∧s.name≠wNode∧s.name≠wEdge)∨(s.kind=2∧s.refs.length < 2) then 1
 else if s.kind=4∧(s.attrs.length≠1∨(s.attrs.head?.map (·.1))≠some []) then 1 else 0
def attL (k:Int):List Pr→List Pr→Int
 | _,[]=>0
 | done,a :: t =>
  if k≠4∧isNm a.1=false then 5
  else if done.any (fun x=>decide (x.1=a.1))=true then 6
  else if 32 < a.2.length then 2
  else if a.2.all isPl=false then 7
  else attL k (done ++ [a]) t
def attE (s:St):Int:=if 16 < s.attrs.length then 2 else attL s.kind [] s.attrs
def refB (r:Pr):Bool:=isNm r.1 && (r.2.isEmpty || isNm r.2)
def staE (s:St)(lv:Int):Int :=
 if fldE s≠0 then fldE s
 else if s.kind=5∧6≤lv then 2
 else if s.kind≠2∧s.kind≠3∧isNm s.name=false then 5
 else if s.refs.all refB=false then 5
 else attE s
def firstE:List (St × Int)→Int
 | []=>0
 | x :: t=>if staE x.1 x.2≠0 then staE x.1 x.2 else firstE t
def validT (T:Tr):Int:=if isNm T.name=false then 5 else if 512 < cnt T.body then 2 else firstE (preL T.body 0)
theorem firstE_ok {l:List (St × Int)}:firstE l=0 ↔ ∀ x∈l,staE x.1 x.2=0:=by
 induction l with
 | nil=>simp [firstE]
 | cons x t ih =>
  unfold firstE
  by_cases h:staE x.1 x.2≠0
  ·rw [if_pos h];exact ⟨fun e=>absurd e h,fun e=>e x (by simp)⟩
  ·rw [if_neg h,ih]
   simp only [ne_eq,Decidable.not_not] at h
   exact ⟨fun e y hy=>by rcases List.mem_cons.1 hy with rfl | hy;exact h;exact e y hy,fun e y hy=>e y (List.mem_cons_of_mem _ hy)⟩
theorem valid_iff (T:Tr):validT T=0 ↔ isNm T.name=true∧cnt T.body≤512∧∀ x∈preL T.body 0,staE x.1 x.2=0:=by
 unfold validT
 by_cases h1:isNm T.name=false
 ·rw [if_pos h1];exact ⟨fun e=>absurd e (by decide),fun e=>by rw [h1] at e;cases e.1⟩
 ·rw [if_neg h1]
  by_cases h2:512 < cnt T.body
  ·rw [if_pos h2];exact ⟨fun e=>absurd e (by decide),fun e=>by omega⟩
  ·rw [if_neg h2,firstE_ok]
   exact ⟨fun e=>⟨by simpa using h1,by omega,e⟩,fun e=>e.2.2⟩
def addN (out:List (List UInt8))(x:List UInt8):List (List UInt8):=if out.contains x then out else out ++ [x]
def nmsS (s:St):List (List UInt8):=(if s.kind=1 then [s.name] else []) ++ s.refs.map (·.1)
def nmsL (l:List (St × Int)):List (List UInt8):=l.flatMap fun x=>nmsS x.1
def cluL (l:List (St × Int)):List (List UInt8):=l.flatMap fun x=>if x.1.kind=5 then [x.1.name] else []
end Go.Proofs.YtcdoicgbjoikkaaGreatDoor.tre
namespace Go.Proofs.YtcdoicgbjoikkaaGreatDoor.tre
open Go.ChangeShapes Go.WideShapes Go.ChangeAt Go.RowKit Go.Joins lex
abbrev bb (l:List UInt8):ByteArray:=⟨l.toArray⟩
def prAt (w:World)(A:Addr)(i:Nat)(r:Pr):Prop :=
 w.cell? (A.add (i*2))=some (.string (bb r.1))∧w.cell? ⟨(A.add (i*2)).block,(A.add (i*2)).off+1,none⟩=some (.string (bb r.2))∧r.1.length≤maxLen∧r.2.length≤maxLen
def Prs (w:World)(v:Value)(l:List Pr):Prop:=∃ (ao:Option Addr) (cap:Nat),v=.slice ao l.length cap∧l.length≤cap∧cap≤maxLen∧(0 < l.length→∃ A,ao=some A∧∀ i (h:i < l.length),prAt w A i l[i])
theorem prAt.keep {w1 w2:World}{A:Addr}{i:Nat}{r:Pr}(h:prAt w1 A i r)(hb:Below w1.heap.size w1 w2):prAt w2 A i r:=⟨cell_later' hb h.1,cell_later' hb h.2.1,h.2.2⟩
theorem Prs.keep {w1 w2:World}{v:Value}{l:List Pr}(h:Prs w1 v l)(hb:Below w1.heap.size w1 w2):Prs w2 v l:=by
 obtain ⟨ao,cap,rfl,hc,hm,hA⟩:=h
 exact ⟨ao,cap,rfl,hc,hm,fun hn=>by obtain ⟨A,rfl,h2⟩:=hA hn;exact ⟨A,rfl,fun i hi=>(h2 i hi).keep hb⟩⟩
mutual
def stAt (w:World):St→Addr→Prop
 | .mk k n r a b,A=>w.cell? A=some (.int .i64 k)∧w.cell? ⟨A.block,A.off+1,none⟩=some (.string (bb n))∧n.length≤maxLen ∧
  (∃ rv,w.cell? ⟨A.block,A.off+2,none⟩=some rv∧Prs w rv r)∧(∃ av,w.cell? ⟨A.block,A.off+3,none⟩=some av∧Prs w av a) ∧
  ∃ ao cap,w.cell? ⟨A.block,A.off+4,none⟩=some (.slice ao b.length cap)∧b.length≤cap∧cap≤maxLen∧(0 < b.length→∃ B,ao=some B∧stsAt w b B 0)
def stsAt (w:World):List St→Addr→Nat→Prop
 | [],_,_=>True
 | s :: t,A,i=>stAt w s (A.add (i*5))∧stsAt w t A (i+1)
end
def Sts (w:World)(v:Value)(l:List St):Prop:=∃ (ao:Option Addr) (cap:Nat),v=.slice ao l.length cap∧l.length≤cap∧cap≤maxLen∧(0 < l.length→∃ A,ao=some A∧stsAt w l A 0)
theorem stAt_eq (w:World)(s:St)(A:Addr):stAt w s A ↔ w.cell? A=some (.int .i64 s.kind)∧w.cell? ⟨A.block,A.off+1,none⟩=some (.string (bb s.name))∧s.name.length≤maxLen ∧
    (∃ rv,w.cell? ⟨A.block,A.off+2,none⟩=some rv∧Prs w rv s.refs)∧(∃ av,w.cell? ⟨A.block,A.off+3,none⟩=some av∧Prs w av s.attrs) ∧
    ∃ bv,w.cell? ⟨A.block,A.off+4,none⟩=some bv∧Sts w bv s.body:=by
 obtain ⟨k,n,r,a,b⟩:=s
 show (_∧_) ↔ _
 constructor
 ·rintro ⟨h1,h2,h3,h4,h5,ao,cap,h6,h7,h8,h9⟩
  exact ⟨h1,h2,h3,h4,h5,_,h6,ao,cap,rfl,h7,h8,h9⟩
 ·rintro ⟨h1,h2,h3,h4,h5,bv,h6,ao,cap,rfl,h7,h8,h9⟩
  exact ⟨h1,h2,h3,h4,h5,ao,cap,h6,h7,h8,h9⟩
theorem stsAt_get {w:World}{A:Addr}:∀ {l:List St} {i:Nat},stsAt w l A i→∀ j (h:j < l.length),stAt w l[j] (A.add ((i+j)*5)):=by
 intro l
 induction l with
 | nil=>intro i _ j h;simp at h
 | cons s t ih =>
  intro i h j hj
  cases j with
  | zero=>exact h.1
  | succ j =>
   have:=ih h.2 j (by simpa using hj)
   rw [show i+1+j=i+(j+1) by omega] at this
   exact this
theorem stsAt_of {w:World}{A:Addr}:∀ {l:List St} {i:Nat},(∀ j (h:j < l.length),stAt w l[j] (A.add ((i+j)*5)))→stsAt w l A i:=by
 intro l
 induction l with
 | nil=>intro i _;trivial
 | cons s t ih =>
  intro i h
  refine ⟨h 0 (by simp),ih fun j hj=>?_⟩
  have:=h (j+1) (by simpa using hj)
  rw [show i+(j+1)=i+1+j by omega] at this
  exact this
theorem st_keep {w1 w2:World}(hb:Below w1.heap.size w1 w2):(∀ s A,stAt w1 s A→stAt w2 s A)∧∀ l A i,stsAt w1 l A i→stsAt w2 l A i:=by
 refine st_ind (fun k n r a b hB A h=>?_) (fun _ _ h=>h) (fun s t hs ht A i h=>⟨hs _ h.1,ht _ _ h.2⟩)
 obtain ⟨h1,h2,h3,⟨rv,h4,h4'⟩,⟨av,h5,h5'⟩,ao,cap,h6,h7,h8,h9⟩:=h
 exact ⟨cell_later' hb h1,cell_later' hb h2,h3,⟨rv,cell_later' hb h4,h4'.keep hb⟩,⟨av,cell_later' hb h5,h5'.keep hb⟩,ao,cap,cell_later' hb h6,h7,h8,fun hn=>by
  obtain ⟨B,rfl,h10⟩:=h9 hn;exact ⟨B,rfl,hB _ _ h10⟩⟩
theorem Sts.keep {w1 w2:World}{v:Value}{l:List St}(h:Sts w1 v l)(hb:Below w1.heap.size w1 w2):Sts w2 v l:=by
 obtain ⟨ao,cap,rfl,hc,hm,hA⟩:=h
 exact ⟨ao,cap,rfl,hc,hm,fun hn=>by obtain ⟨A,rfl,h2⟩:=hA hn;exact ⟨A,rfl,(st_keep hb).2 _ _ _ h2⟩⟩
theorem Sts.nil (w:World):Sts w (.slice none 0 0) []:=⟨none,0,rfl,Nat.le_refl _,by decide,fun h=>absurd h (by simp)⟩
theorem Prs.nil (w:World):Prs w (.slice none 0 0) []:=⟨none,0,rfl,Nat.le_refl _,by decide,fun h=>absurd h (by simp)⟩
def TrV (w:World)(v:Value)(T:Tr):Prop:=∃ bv,v=.agg #[.string (bb T.name),.bool T.dir,bv]∧T.name.length≤maxLen∧Sts w bv T.body
theorem TrV.keep {w1 w2:World}{v:Value}{T:Tr}(h:TrV w1 v T)(hb:Below w1.heap.size w1 w2):TrV w2 v T:=by
 obtain ⟨bv,rfl,hm,hs⟩:=h;exact ⟨bv,rfl,hm,hs.keep hb⟩
theorem bb_list (s:ByteArray):bb s.data.toList=s:=by cases s;simp
section
variable {H:Type} {enc:TypeId × Value→H} {w:World} {base:Nat} {spare:Nat→Bool} {held:Bool}
theorem trod_struct5 {t:TypeId}{f0 f1 f2 f3 f4:Field}{fuel:Nat}{cs:List Value}{x:DataW H × List MemPlace}(ht:Tryz.prog.underlying t=some (.struct #[f0,f1,f2,f3,f4]))(h:DataW.trod enc Tryz.prog w base spare held fuel t cs=some x) :
    ∃ y0 y1 y2 y3 y4 n,x.1=.agg [y0.1,y1.1,y2.1,y3.1,y4.1]∧cs.length=Tryz.prog.cellsOf t∧DataW.trod enc Tryz.prog w base spare held n f0.type ((cs.drop f0.offset).take (Tryz.prog.cellsOf f0.type))=some y0 ∧
     DataW.trod enc Tryz.prog w base spare held n f1.type ((cs.drop f1.offset).take (Tryz.prog.cellsOf f1.type))=some y1∧DataW.trod enc Tryz.prog w base spare held n f2.type ((cs.drop f2.offset).take (Tryz.prog.cellsOf f2.type))=some y2 ∧
     DataW.trod enc Tryz.prog w base spare held n f3.type ((cs.drop f3.offset).take (Tryz.prog.cellsOf f3.type))=some y3∧DataW.trod enc Tryz.prog w base spare held n f4.type ((cs.drop f4.offset).take (Tryz.prog.cellsOf f4.type))=some y4:=by
 obtain ⟨xs,n,_,rfl,hl,hlen,hf⟩:=DataW.trod_struct ht h
 match xs,hlen with
 | [y0,y1,y2,y3,y4],_=>exact ⟨y0,y1,y2,y3,y4,n,by simp,hl,by simpa using hf 0 f0 rfl,by simpa using hf 1 f1 rfl,by simpa using hf 2 f2 rfl,by simpa using hf 3 f3 rfl,by simpa using hf 4 f4 rfl⟩
set_option maxRecDepth 100000 in
theorem open_prs {t e:TypeId}{f0 f1:Field}{fuel:Nat}{cs:List Value}{x:DataW H × List MemPlace}(ht:Tryz.prog.underlying t=some (.slice e))(he:Tryz.prog.underlying e=some (.struct #[f0,f1]))(hc:Tryz.prog.cellsOf e=2)
    (g0:f0.type=9∧f0.offset=0) (g1:f1.type=9∧f1.offset=1) (h:DataW.trod enc Tryz.prog w base spare held fuel t cs=some x):∃ v l,cs=[v]∧Prs w v l:=by
 rcases Deep.open_slice ht h with ⟨rfl,_⟩ | ⟨a,len,cap,m,n,D,Pl,rfl,_,hl,hm,hmm,_,hi⟩
 ·exact ⟨_,[],rfl,Prs.nil w⟩
 ·have hlm:len≤m:=by rw [hmm];split <;> omega
  have hcs:Tryz.prog.cellsOf 9=1:=by kernel_rfl
  have key:∀ i,i < len→∃ r:Pr,prAt w a i r:=by
   intro i hil
   obtain ⟨cs',hc',ht'⟩:=hi i (by omega)
   rw [hc] at hc'
   obtain ⟨_,hcl,hat⟩:=World.cells?_some hc'
   obtain ⟨y0,y1,q,_,_,k0,k1⟩:=trod_struct2 he ht'
   obtain ⟨c0,c1,rfl⟩:∃ c0 c1,cs'=[c0,c1]:=by
    match cs',hcl with
    | [c0,c1],_=>exact ⟨c0,c1,rfl⟩
   rw [g0.1,g0.2,hcs] at k0
   rw [g1.1,g1.2,hcs] at k1
   obtain ⟨x0,e0,_,z0⟩:=DataW.trod_string Tryz.underlying9 k0
   obtain ⟨x1,e1,_,z1⟩:=DataW.trod_string Tryz.underlying9 k1
   simp at e0 e1
   subst e0 e1
   have j0:=hat 0 (by omega)
   have j1:=hat 1 (by omega)
   rw [add_one_of _ 1 (by omega)] at j1
   refine ⟨(x0.data.toList,x1.data.toList),?_,?_,by simpa using z0,by simpa using z1⟩
   ·show _=some (Value.string (bb x0.data.toList));rw [bb_list];exact j0
   ·show _=some (Value.string (bb x1.data.toList));rw [bb_list];exact j1
  obtain ⟨f,hf⟩:=Deep.choose_lt key
  have hlen:((List.range len).map f).length=len:=by simp
  refine ⟨_,(List.range len).map f,rfl,some a,cap,by rw [hlen],by rw [hlen];exact hl,hm,fun _=>⟨a,rfl,fun i hi'=>?_⟩⟩
  rw [hlen] at hi'
  simpa using hf i hi'
set_option maxRecDepth 100000 in
theorem open_sts:∀ (N:Nat) (fuel:Nat) (cs:List Value) (x:DataW H × List MemPlace),SizeOf.sizeOf x.1≤N→DataW.trod enc Tryz.prog w base spare held fuel 22 cs=some x→∃ v l,cs=[v]∧Sts w v l:=by
 intro N
 induction N with
 | zero=>intro fuel cs x hN _;exfalso;have:0 < SizeOf.sizeOf x.1:=by cases x.1 <;> simp <;> omega
         omega
 | succ N ih =>
  intro fuel cs x hN h
  rcases Deep.open_slice Tryz.underlying22 h with ⟨rfl,_⟩ | ⟨a,len,cap,m,n,D,Pl,rfl,_,hl,hm,hmm,hx,hi⟩
  ·exact ⟨_,[],rfl,Sts.nil w⟩
  ·have hlm:len≤m:=by rw [hmm];split <;> omega
   have hci:Tryz.prog.cellsOf 3=1:=by kernel_rfl
   have hcs:Tryz.prog.cellsOf 9=1:=by kernel_rfl
   have hcr:Tryz.prog.cellsOf 53=1:=by kernel_rfl
   have hca:Tryz.prog.cellsOf 54=1:=by kernel_rfl
   have hcb:Tryz.prog.cellsOf 22=1:=by kernel_rfl
   have hc5:Tryz.prog.cellsOf 56=5:=by kernel_rfl
   have key:∀ i,i < len→∃ s:St,stAt w s (a.add (i*5)):=by
    intro i hil
    obtain ⟨cs',hc',ht'⟩:=hi i (by omega)
    rw [hc5] at hc'
    obtain ⟨_,hcl,hat⟩:=World.cells?_some hc'
    obtain ⟨y0,y1,y2,y3,y4,q,hd,_,k0,k1,k2,k3,k4⟩:=trod_struct5 Tryz.underlying56 ht'
    obtain ⟨c0,c1,c2,c3,c4,rfl⟩:∃ c0 c1 c2 c3 c4,cs'=[c0,c1,c2,c3,c4]:=by
     match cs',hcl with
     | [c0,c1,c2,c3,c4],_=>exact ⟨c0,c1,c2,c3,c4,rfl⟩
    simp [hci,hcs,hcr,hca,hcb] at k0 k1 k2 k3 k4
    obtain ⟨x0,e0,_,_⟩:=DataW.trod_int Tryz.underlying3 k0
    obtain ⟨x1,e1,_,z1⟩:=DataW.trod_string Tryz.underlying9 k1
    obtain ⟨rv,r,e2,hr⟩:=open_prs Tryz.underlying53 Tryz.underlying58 (by kernel_rfl) ⟨rfl,rfl⟩ ⟨rfl,rfl⟩ k2
    obtain ⟨av,at',e3,ha⟩:=open_prs Tryz.underlying54 Tryz.underlying82 (by kernel_rfl) ⟨rfl,rfl⟩ ⟨rfl,rfl⟩ k3
    have hsz:SizeOf.sizeOf y4.1≤N:=by
     have h1:SizeOf.sizeOf (D i) < SizeOf.sizeOf ((List.range len).map D):=List.sizeOf_lt_of_mem (List.mem_map.2 ⟨i,List.mem_range.2 hil,rfl⟩)
     have h2:SizeOf.sizeOf x.1=1+SizeOf.sizeOf ((List.range len).map D)+SizeOf.sizeOf ((List.range (m - len)).map fun j=>D (len+j)):=by rw [hx];exact DataW.slice.sizeOf_spec _ _
     have h3:SizeOf.sizeOf (D i)=1+SizeOf.sizeOf [y0.1,y1.1,y2.1,y3.1,y4.1]:=by rw [show D i=_ from hd];exact DataW.agg.sizeOf_spec _
     have h4:SizeOf.sizeOf y4.1 < SizeOf.sizeOf [y0.1,y1.1,y2.1,y3.1,y4.1]:=List.sizeOf_lt_of_mem (by simp)
     omega
    obtain ⟨bv,b,e4,hb⟩:=ih _ _ _ hsz k4
    simp at e0 e1 e2 e3 e4
    subst e0 e1 e2 e3 e4
    have j0:=hat 0 (by omega)
    have j1:=hat 1 (by omega)
    have j2:=hat 2 (by omega)
    have j3:=hat 3 (by omega)
    have j4:=hat 4 (by omega)
    rw [add_one_of _ 1 (by omega)] at j1
    rw [add_one_of _ 2 (by omega)] at j2
    rw [add_one_of _ 3 (by omega)] at j3
    rw [add_one_of _ 4 (by omega)] at j4
    refine ⟨.mk x0 x1.data.toList r at' b,(stAt_eq _ _ _).2 ⟨j0,?_,by show x1.data.toList.length≤maxLen;simpa using z1,⟨_,j2,hr⟩,⟨_,j3,ha⟩,_,j4,hb⟩⟩
    show _=some (Value.string (bb x1.data.toList));rw [bb_list];exact j1
   haveI:Inhabited St:=⟨.mk 0 [] [] [] []⟩
   obtain ⟨f,hf⟩:=Deep.choose_lt key
   have hlen:((List.range len).map f).length=len:=by simp
   refine ⟨_,(List.range len).map f,rfl,some a,cap,by rw [hlen],by rw [hlen];exact hl,hm,fun _=>⟨a,rfl,stsAt_of fun j hj=>?_⟩⟩
   rw [hlen] at hj
   have:=hf j hj
   simpa using this
set_option maxRecDepth 100000 in
theorem open_tree {r:Reach}{b0:Nat}{v:Value}{d:DataW H}{p:List MemPlace}(hv:Value.okWide Tryz.prog w r b0 24 v)(h:DataW.Trod enc Tryz.prog w base spare held 24 v d p):∃ T,TrV w v T:=by
 obtain ⟨cs,rfl,hsz⟩:=okWide_struct Tryz.underlying24 hv
 obtain ⟨fuel,hf⟩:=h
 obtain ⟨y0,y1,y2,n,_,hl,k0,k1,k2⟩:=Deep.trod_struct3 Tryz.underlying24 hf
 have hc3:Tryz.prog.cellsOf 24=3:=by kernel_rfl
 obtain ⟨c0,c1,c2,rfl⟩:=array3 (hsz.trans hc3)
 have hcb:Tryz.prog.cellsOf 4=1:=by kernel_rfl
 have hcs:Tryz.prog.cellsOf 9=1:=by kernel_rfl
 have hcl:Tryz.prog.cellsOf 22=1:=by kernel_rfl
 simp [Value.cells,hcb,hcs,hcl] at k0 k1 k2
 obtain ⟨x0,e0,_,z0⟩:=DataW.trod_string Tryz.underlying9 k0
 obtain ⟨x1,e1,_⟩:=DataW.trod_bool Tryz.underlying4 k1
 obtain ⟨bv,b,e2,hb⟩:=open_sts _ _ _ _ (Nat.le_refl _) k2
 simp at e0 e1 e2
 subst e0 e1 e2
 exact ⟨⟨x0.data.toList,x1,b⟩,_,by show _=Value.agg #[.string (bb x0.data.toList),_,_];rw [bb_list],by show x0.data.toList.length≤maxLen;simpa using z0,hb⟩
end
end Go.Proofs.YtcdoicgbjoikkaaGreatDoor.tre
