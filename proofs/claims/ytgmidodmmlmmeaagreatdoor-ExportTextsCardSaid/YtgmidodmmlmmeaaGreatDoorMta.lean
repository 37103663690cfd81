/-
  Plain facts on syntax trees (layer 7): what is valid, the names, renaming, and that renaming back restores a tree. No function of the program is named here; no condition.
  Renaming a node and back (P7.5), and equality of trees: plain facts. No function of the program is named here; no condition.
  Trees in memory: lists of refs, attributes and statements as slices hold them; a tree that comes in. No condition.
  What Name of the reference of layer 7 returns, and the statements' guard few. Conditions: a text's length; trees in memory.
  What stmts and few of the statements of layer 7 return. Conditions: trees in memory.
  What Preorder of the reference of layer 7 returns: the statements in preorder, each with its level, their lists where the tree has them. Conditions: a tree of at most 600 statements in memory; a small level.
-/
import Derived.Test.YtgmidodmmlmmeaaGreatDoorMad
namespace Go.Proofs.YtgmidodmmlmmeaaGreatDoor.tre
open lex
abbrev Pr:=List UInt8 × List UInt8
inductive St where
 | mk (kind:Int) (name:List UInt8) (refs attrs:List Pr) (body:List St)
def St.kind:St→Int | .mk k _ _ _ _=>k
def St.name:St→List UInt8 | .mk _ n _ _ _=>n
def St.refs:St→List Pr | .mk _ _ r _ _=>r
def St.attrs:St→List Pr | .mk _ _ _ a _=>a
def St.body:St→List St | .mk _ _ _ _ b=>b
structure Tr where
 name:List UInt8
 dir:Bool
 body:List St
mutual
def preS:St→Int→List (St × Int)
 | .mk k n r a b,lv=>(.mk k n r a b,lv) :: preL b (if k=5 then lv+1 else lv)
def preL:List St→Int→List (St × Int)
 | [],_=>[]
 | s :: t,lv=>preS s lv ++ preL t lv
end
theorem preL_nil (lv:Int):preL [] lv=[]:=rfl
theorem preL_cons (s:St)(t:List St)(lv:Int):preL (s :: t) lv=preS s lv ++ preL t lv:=rfl
theorem preS_eq (s:St)(lv:Int):preS s lv=(s,lv) :: preL s.body (if s.kind=5 then lv+1 else lv):=by cases s;rfl
theorem preL_app (a b:List St)(lv:Int):preL (a ++ b) lv=preL a lv ++ preL b lv:=by
 induction a with
 | nil=>rfl
 | cons s t ih=>rw [List.cons_append,preL_cons,preL_cons,ih,List.append_assoc]
theorem st_ind {P:St→Prop}{Q:List St→Prop}(hS:∀ k n r a b,Q b→P (.mk k n r a b))(h0:Q [])(h1:∀ s t,P s→Q t→Q (s :: t)):(∀ s,P s)∧∀ l,Q l :=
 ⟨fun s=>St.rec (motive_1:=P) (motive_2:=Q) (fun k n r a b hb=>hS k n r a b hb) h0 (fun s t hs ht=>h1 s t hs ht) s,
  fun l=>St.rec_1 (motive_1:=P) (motive_2:=Q) (fun k n r a b hb=>hS k n r a b hb) h0 (fun s t hs ht=>h1 s t hs ht) l⟩
def hL:Nat→List St→Bool
 | 0,l=>l.isEmpty
 | d+1,l=>l.all fun s=>hL d s.body
theorem pre_len:(∀ s:St,∀ a b,(preS s a).length=(preS s b).length)∧∀ l:List St,∀ a b,(preL l a).length=(preL l b).length :=
 st_ind (fun k n r at' b hb x y=>by rw [preS_eq,preS_eq,List.length_cons,List.length_cons];exact congrArg (·+1) (hb _ _)) (fun _ _=>rfl) (fun s t hs ht x y=>by rw [preL_cons,preL_cons,List.length_append,List.length_append,hs x y,ht x y])
def stmL:List St→Int→Int→Int→Int
 | [],n,_,_=>n
 | .mk _ _ r a b :: t,n,most,d =>
  if most < n+1∨40 < r.length∨40 < a.length then -1
  else if (if 20 < d+1 then -1 else stmL b 0 (most - (n+1)) (d+1)) < 0 then -1
  else stmL t (n+1+(if 20 < d+1 then -1 else stmL b 0 (most - (n+1)) (d+1))) most d
def stmT (l:List St)(most d:Int):Int:=if 20 < d then -1 else stmL l 0 most d
def cnt (l:List St):Nat:=(preL l 0).length
theorem cnt_cons (s:St)(t:List St):cnt (s :: t)=1+cnt s.body+cnt t:=by
 unfold cnt
 rw [preL_cons,List.length_append,preS_eq,List.length_cons,pre_len.2 s.body _ 0]
 omega
def okL (l:List St):Prop:=∀ x∈preL l 0,x.1.refs.length≤40∧x.1.attrs.length≤40
theorem pre_mem:(∀ s:St,∀ a b,∀ x∈preS s a,∃ lv,(x.1,lv)∈preS s b)∧∀ l:List St,∀ a b,∀ x∈preL l a,∃ lv,(x.1,lv)∈preL l b:=by
 refine st_ind (fun k n r at' b hb x y z hz=>?_) (fun _ _ z hz=>by cases hz) (fun s t hs ht x y z hz=>?_)
 ·rw [preS_eq] at hz ⊢
  rcases List.mem_cons.1 hz with rfl | hz
  ·exact ⟨y,by simp⟩
  ·obtain ⟨lv,h⟩:=hb _ (if (St.mk k n r at' b).kind=5 then y+1 else y) z hz
   exact ⟨lv,List.mem_cons_of_mem _ h⟩
 ·rw [preL_cons] at hz ⊢
  rcases List.mem_append.1 hz with hz | hz
  ·obtain ⟨lv,h⟩:=hs x y z hz
   exact ⟨lv,List.mem_append_left _ h⟩
  ·obtain ⟨lv,h⟩:=ht x y z hz
   exact ⟨lv,List.mem_append_right _ h⟩
theorem okL_cons {s:St}{t:List St}:okL (s :: t) ↔ (s.refs.length≤40∧s.attrs.length≤40)∧okL s.body∧okL t:=by
 constructor
 ·intro h
  refine ⟨h (s,0) (by rw [preL_cons,preS_eq];simp),fun x hx=>?_,fun x hx=>h x (by rw [preL_cons];exact List.mem_append_right _ hx)⟩
  obtain ⟨lv,hl⟩:=pre_mem.2 s.body 0 (if s.kind=5 then 0+1 else 0) x hx
  exact h (x.1,lv) (by rw [preL_cons,preS_eq];exact List.mem_append_left _ (List.mem_cons_of_mem _ hl))
 ·rintro ⟨h1,h2,h3⟩ x hx
  rw [preL_cons,preS_eq] at hx
  rcases List.mem_append.1 hx with hx | hx
  ·rcases List.mem_cons.1 hx with rfl | hx
   ·exact h1
   ·obtain ⟨lv,hl⟩:=pre_mem.2 s.body _ 0 x hx
    exact h2 (x.1,lv) hl
  ·exact h3 x hx
def few (l:List St):Bool:=decide (0≤stmT l 600 0)
def wNode:List UInt8:=[110,111,100,101]
def wEdge:List UInt8:=[101,100,103,101]
def fldE (s:St):Int :=
 if s.kind < 1∨5 < s.kind then 1
 else if (s.kind=2∧s.name≠[])∨(s.kind≠2∧0 < s.refs.length)∨(s.kind=5∧0 < s.attrs.length)∨(s.kind≠5∧0 < s.body.length) then 1
 else if (s.kind=3∧s.name≠wNode∧s.name≠wEdge)∨(s.kind=2∧s.refs.length < 2) then 1
 else if s.kind=4∧(s.attrs.length≠1∨(s.attrs.head?.map (·.1))≠some []) then 1 else 0
def attL (k:Int):List Pr→List Pr→Int
 | _,[]=>0
 | done,a :: t =>
  if k≠4∧isNm a.1=false then 5
  else if done.any (fun x=>decide (x.1=a.1))=true then 6
  else if 32 < a.2.length then 2
  else if a.2.all isPl=false then 7
  else attL k (done ++ [a]) t
def attE (s:St):Int:=if 16 < s.attrs.length then 2 else attL s.kind [] s.attrs
def refB (r:Pr):Bool:=isNm r.1 && (r.2.isEmpty || isNm r.2)
def staE (s:St)(lv:Int):Int :=
 if fldE s≠0 then fldE s
 else if s.kind=5∧6≤lv then 2
 else if s.kind≠2∧s.kind≠3∧isNm s.name=false then 5
 else if s.refs.all refB=false then 5
 else attE s
def firstE:List (St × Int)→Int
 | []=>0
 | x :: t=>if staE x.1 x.2≠0 then staE x.1 x.2 else firstE t
def validT (T:Tr):Int:=if isNm T.name=false then 5 else if 512 < cnt T.body then 2 else firstE (preL T.body 0)
theorem firstE_ok {l:List (St × Int)}:firstE l=0 ↔ ∀ x∈l,staE x.1 x.2=0:=by
 induction l with
 | nil=>simp [firstE]
 | cons x t ih =>
  unfold firstE
  by_cases h:staE x.1 x.2≠0
  ·rw [if_pos h];exact ⟨fun e=>absurd e h,fun e=>e x (by simp)⟩
  ·rw [if_neg h,ih]
   simp only [ne_eq,Decidable.not_not] at h
   exact ⟨fun e y hy=>by rcases List.mem_cons.1 hy with rfl | hy;exact h;exact e y hy,fun e y hy=>e y (List.mem_cons_of_mem _ hy)⟩
theorem valid_iff (T:Tr):validT T=0 ↔ isNm T.name=true∧cnt T.body≤512∧∀ x∈preL T.body 0,staE x.1 x.2=0:=by
 unfold validT
 by_cases h1:isNm T.name=false
 ·rw [if_pos h1];exact ⟨fun e=>absurd e (by decide),fun e=>by rw [h1] at e;cases e.1⟩
 ·rw [if_neg h1]
  by_cases h2:512 < cnt T.body
  ·rw [if_pos h2];exact ⟨fun e=>absurd e (by decide),fun e=>by omega⟩
  ·rw [if_neg h2,firstE_ok]
   exact ⟨fun e=>⟨by simpa using h1,by omega,e⟩,fun e=>e.2.2⟩
mutual
def eqS:St→St→Bool
 | .mk k n r a b,.mk k' n' r' a' b'=>decide (k=k') && decide (n=n') && decide (r=r') && decide (a=a') && eqL b b'
def eqL:List St→List St→Bool
 | [],[]=>true
 | [],_ :: _=>false
 | _ :: _,[]=>false
 | s :: t,s' :: t'=>eqS s s' && eqL t t'
end
theorem eq_iff:(∀ s s',eqS s s'=true ↔ s=s')∧∀ l l',eqL l l'=true ↔ l=l':=by
 refine st_ind (fun k n r a b hb s'=>?_) (fun l'=>?_) (fun s t hs ht l'=>?_)
 ·obtain ⟨k',n',r',a',b'⟩:=s'
  show (decide (k=k') && decide (n=n') && decide (r=r') && decide (a=a') && eqL b b')=true ↔ _
  simp only [Bool.and_eq_true,decide_eq_true_eq,hb,St.mk.injEq,and_assoc]
 ·cases l' with
  | nil=>exact ⟨fun _=>rfl,fun _=>rfl⟩
  | cons s' t'=>exact ⟨fun e=>(by cases e),fun e=>(by cases e)⟩
 ·cases l' with
  | nil=>exact ⟨fun e=>(by cases e),fun e=>(by cases e)⟩
  | cons s' t' =>
   show (eqS s s' && eqL t t')=true ↔ _
   rw [Bool.and_eq_true,hs,ht,List.cons.injEq]
def eqT (A B:Tr):Bool:=decide (A.name=B.name) && (A.dir == B.dir) && eqL A.body B.body
theorem eqT_iff (A B:Tr):eqT A B=true ↔ A=B:=by
 obtain ⟨n,d,b⟩:=A
 obtain ⟨n',d',b'⟩:=B
 unfold eqT
 simp only [Bool.and_eq_true,decide_eq_true_eq,beq_iff_eq,eq_iff.2,Tr.mk.injEq,and_assoc]
theorem eqT_self (A:Tr):eqT A A=true:=(eqT_iff A A).2 rfl
end Go.Proofs.YtgmidodmmlmmeaaGreatDoor.tre
namespace Go.Proofs.YtgmidodmmlmmeaaGreatDoor.tre
open Go.ChangeShapes Go.WideShapes Go.ChangeAt Go.RowKit Go.Joins lex
abbrev bb (l:List UInt8):ByteArray:=⟨l.toArray⟩
def prAt (w:World)(A:Addr)(i:Nat)(r:Pr):Prop :=
 w.cell? (A.add (i*2))=some (.string (bb r.1))∧w.cell? ⟨(A.add (i*2)).block,(A.add (i*2)).off+1,none⟩=some (.string (bb r.2))∧r.1.length≤maxLen∧r.2.length≤maxLen
def Prs (w:World)(v:Value)(l:List Pr):Prop:=∃ (ao:Option Addr) (cap:Nat),v=.slice ao l.length cap∧l.length≤cap∧cap≤maxLen∧(0 < l.length→∃ A,ao=some A∧∀ i (h:i < l.length),prAt w A i l[i])
theorem prAt.keep {w1 w2:World}{A:Addr}{i:Nat}{r:Pr}(h:prAt w1 A i r)(hb:Below w1.heap.size w1 w2):prAt w2 A i r:=⟨cell_later' hb h.1,cell_later' hb h.2.1,h.2.2⟩
theorem Prs.keep {w1 w2:World}{v:Value}{l:List Pr}(h:Prs w1 v l)(hb:Below w1.heap.size w1 w2):Prs w2 v l:=by
 obtain ⟨ao,cap,rfl,hc,hm,hA⟩:=h
 exact ⟨ao,cap,rfl,hc,hm,fun hn=>by obtain ⟨A,rfl,h2⟩:=hA hn;exact ⟨A,rfl,fun i hi=>(h2 i hi).keep hb⟩⟩
mutual
def stAt (w:World):St→Addr→Prop
 | .mk k n r a b,A=>w.cell? A=some (.int .i64 k)∧w.cell? ⟨A.block,A.off+1,none⟩=some (.string (bb n))∧n.length≤maxLen ∧
  (∃ rv,w.cell? ⟨A.block,A.off+2,none⟩=some rv∧Prs w rv r)∧(∃ av,w.cell? ⟨A.block,A.off+3,none⟩=some av∧Prs w av a) ∧
  ∃ ao cap,w.cell? ⟨A.block,A.off+4,none⟩=some (.slice ao b.length cap)∧b.length≤cap∧cap≤maxLen∧(0 < b.length→∃ B,ao=some B∧stsAt w b B 0)
def stsAt (w:World):List St→Addr→Nat→Prop
 | [],_,_=>True
 | s :: t,A,i=>stAt w s (A.add (i*5))∧stsAt w t A (i+1)
end
def Sts (w:World)(v:Value)(l:List St):Prop:=∃ (ao:Option Addr) (cap:Nat),v=.slice ao l.length cap∧l.length≤cap∧cap≤maxLen∧(0 < l.length→∃ A,ao=some A∧stsAt w l A 0)
theorem stAt_eq (w:World)(s:St)(A:Addr):stAt w s A ↔ w.cell? A=some (.int .i64 s.kind)∧w.cell? ⟨A.block,A.off+1,none⟩=some (.string (bb s.name))∧s.name.length≤maxLen ∧
    (∃ rv,w.cell? ⟨A.block,A.off+2,none⟩=some rv∧Prs w rv s.refs)∧(∃ av,w.cell? ⟨A.block,A.off+3,none⟩=some av∧Prs w av s.attrs) ∧
    ∃ bv,w.cell? ⟨A.block,A.off+4,none⟩=some bv∧Sts w bv s.body:=by
 obtain ⟨k,n,r,a,b⟩:=s
 show (_∧_) ↔ _
 constructor
 ·rintro ⟨h1,h2,h3,h4,h5,ao,cap,h6,h7,h8,h9⟩
  exact ⟨h1,h2,h3,h4,h5,_,h6,ao,cap,rfl,h7,h8,h9⟩
 ·rintro ⟨h1,h2,h3,h4,h5,bv,h6,ao,cap,rfl,h7,h8,h9⟩
  exact ⟨h1,h2,h3,h4,h5,ao,cap,h6,h7,h8,h9⟩
theorem stsAt_get {w:World}{A:Addr}:∀ {l:List St} {i:Nat},stsAt w l A i→∀ j (h:j < l.length),stAt w l[j] (A.add ((i+j)*5)):=by
 intro l
 induction l with
 | nil=>intro i _ j h;simp at h
 | cons s t ih =>
  intro i h j hj
  cases j with
  | zero=>exact h.1
  | succ j =>
   have:=ih h.2 j (by simpa using hj)
   rw [show i+1+j=i+(j+1) by omega] at this
   exact this
theorem stsAt_of {w:World}{A:Addr}:∀ {l:List St} {i:Nat},(∀ j (h:j < l.length),stAt w l[j] (A.add ((i+j)*5)))→stsAt w l A i:=by
 intro l
 induction l with
 | nil=>intro i _;trivial
 | cons s t ih =>
  intro i h
  refine ⟨h 0 (by simp),ih fun j hj=>?_⟩
  have:=h (j+1) (by simpa using hj)
  rw [show i+(j+1)=i+1+j by omega] at this
  exact this
theorem st_keep {w1 w2:World}(hb:Below w1.heap.size w1 w2):(∀ s A,stAt w1 s A→stAt w2 s A)∧∀ l A i,stsAt w1 l A i→stsAt w2 l A i:=by
 refine st_ind (fun k n r a b hB A h=>?_) (fun _ _ h=>h) (fun s t hs ht A i h=>⟨hs _ h.1,ht _ _ h.2⟩)
 obtain ⟨h1,h2,h3,⟨rv,h4,h4'⟩,⟨av,h5,h5'⟩,ao,cap,h6,h7,h8,h9⟩:=h
 exact ⟨cell_later' hb h1,cell_later' hb h2,h3,⟨rv,cell_later' hb h4,h4'.keep hb⟩,⟨av,cell_later' hb h5,h5'.keep hb⟩,ao,cap,cell_later' hb h6,h7,h8,fun hn=>by
  obtain ⟨B,rfl,h10⟩:=h9 hn;exact ⟨B,rfl,hB _ _ h10⟩⟩
theorem Sts.keep {w1 w2:World}{v:Value}{l:List St}(h:Sts w1 v l)(hb:Below w1.heap.size w1 w2):Sts w2 v l:=by
 obtain ⟨ao,cap,rfl,hc,hm,hA⟩:=h
 exact ⟨ao,cap,rfl,hc,hm,fun hn=>by obtain ⟨A,rfl,h2⟩:=hA hn;exact ⟨A,rfl,(st_keep hb).2 _ _ _ h2⟩⟩
theorem Sts.nil (w:World):Sts w (.slice none 0 0) []:=⟨none,0,rfl,Nat.le_refl _,by decide,fun h=>absurd h (by simp)⟩
theorem Prs.nil (w:World):Prs w (.slice none 0 0) []:=⟨none,0,rfl,Nat.le_refl _,by decide,fun h=>absurd h (by simp)⟩
def TrV (w:World)(v:Value)(T:Tr):Prop:=∃ bv,v=.agg #[.string (bb T.name),.bool T.dir,bv]∧T.name.length≤maxLen∧Sts w bv T.body
theorem TrV.keep {w1 w2:World}{v:Value}{T:Tr}(h:TrV w1 v T)(hb:Below w1.heap.size w1 w2):TrV w2 v T:=by
 obtain ⟨bv,rfl,hm,hs⟩:=h;exact ⟨bv,rfl,hm,hs.keep hb⟩
theorem bb_list (s:ByteArray):bb s.data.toList=s:=by cases s;simp
section
variable {H:Type} {enc:TypeId × Value→H} {w:World} {base:Nat} {spare:Nat→Bool} {held:Bool}
theorem trod_struct5 {t:TypeId}{f0 f1 f2 f3 f4:Field}{fuel:Nat}{cs:List Value}{x:DataW H × List MemPlace}(ht:Tryz.prog.underlying t=some (.struct #[f0,f1,f2,f3,f4]))(h:DataW.trod enc Tryz.prog w base spare held fuel t cs=some x) :
    ∃ y0 y1 y2 y3 y4 n,x.1=.agg [y0.1,y1.1,y2.1,y3.1,y4.1]∧cs.length=Tryz.prog.cellsOf t∧DataW.trod enc Tryz.prog w base spare held n f0.type ((cs.drop f0.offset).take (Tryz.prog.cellsOf f0.type))=some y0 ∧
     DataW.trod enc Tryz.prog w base spare held n f1.type ((cs.drop f1.offset).take (Tryz.prog.cellsOf f1.type))=some y1∧DataW.trod enc Tryz.prog w base spare held n f2.type ((cs.drop f2.offset).take (Tryz.prog.cellsOf f2.type))=some y2 ∧
     DataW.trod enc Tryz.prog w base spare held n f3.type ((cs.drop f3.offset).take (Tryz.prog.cellsOf f3.type))=some y3∧DataW.trod enc Tryz.prog w base spare held n f4.type ((cs.drop f4.offset).take (Tryz.prog.cellsOf f4.type))=some y4:=by
 obtain ⟨xs,n,_,rfl,hl,hlen,hf⟩:=DataW.trod_struct ht h
 match xs,hlen with
 | [y0,y1,y2,y3,y4],_=>exact ⟨y0,y1,y2,y3,y4,n,by simp,hl,by simpa using hf 0 f0 rfl,by simpa using hf 1 f1 rfl,by simpa using hf 2 f2 rfl,by simpa using hf 3 f3 rfl,by simpa using hf 4 f4 rfl⟩
end
end Go.Proofs.YtgmidodmmlmmeaaGreatDoor.tre
namespace Go.Proofs.YtgmidodmmlmmeaaGreatDoor.tre
open Go.RowKit lex
theorem b_dig (s:ByteArray)(k:Nat)(h:k < s.size):s.data.toList[k]?=some s[k]:=by
 rw [List.getElem?_eq_getElem (by simpa using h)];rfl
theorem b_size (s:ByteArray):s.data.toList.length=s.size:=by simp
theorem isNm_no {l:List UInt8}(h:l.length < 1∨16 < l.length∨isKw l=true∨wordLen l < l.length):isNm l=false:=by
 unfold isNm
 rcases h with h | h | h | h
 ·have:l=[]:=List.length_eq_zero_iff.1 (by omega)
  subst this;rfl
 ·rw [decide_eq_false (p:=l.length≤16) (by omega)];simp
 ·rw [h];simp
 ·rw [decide_eq_false (p:=wordLen l=l.length) (by omega)];simp
theorem isNm_yes {l:List UInt8}(h0:1≤l.length)(h1:l.length≤16)(h2:isKw l=false)(h3:wordLen l=l.length):isNm l=true:=by
 unfold isNm
 have:l.isEmpty=false:=by
  cases l with
  | nil=>simp at h0
  | cons a t=>rfl
 rw [this,h2,decide_eq_true h3,decide_eq_true h1];rfl
set_option maxHeartbeats 4000000 in
theorem rnm_any (s:ByteArray)(w:World)(hs:s.size≤maxLen) :
    Calls Tryz.prog 56 #[.string s] w fun e w'=>e=.returned (.bool (isNm s.data.toList))∧w=w':=by
 unfold maxLen at hs
 obtain ⟨v,hv⟩:∃ v,isNm s.data.toList=v:=⟨_,rfl⟩
 rw [hv]
 have HV:=Lh hv
 clear hv
 by_cases h0:(s.size:Int) < 1
 ·have HN:Hid (v=false):=Lh (by rw [← HV.out];exact isNm_no (Or.inl (by rw [b_size];omega)))
  obtain rfl:=HN.out
  go_enter Tryz.func56,Tryz.ntmps56
  go_wp2
  go_ret
  exact ⟨rfl,rfl⟩
 by_cases h1:(16:Int) < (s.size:Int)
 ·have HN:Hid (v=false):=Lh (by rw [← HV.out];exact isNm_no (Or.inr (Or.inl (by rw [b_size];omega))))
  obtain rfl:=HN.out
  go_enter Tryz.func56,Tryz.ntmps56
  go_wp2
  go_ret
  exact ⟨rfl,rfl⟩
 obtain ⟨k1,e1⟩:∃ b,(s.toList == [100,105,103,114,97,112,104])=b:=⟨_,rfl⟩
 obtain ⟨k2,e2⟩:∃ b,(s.toList == [103,114,97,112,104])=b:=⟨_,rfl⟩
 obtain ⟨k3,e3⟩:∃ b,(s.toList == [110,111,100,101])=b:=⟨_,rfl⟩
 obtain ⟨k4,e4⟩:∃ b,(s.toList == [101,100,103,101])=b:=⟨_,rfl⟩
 obtain ⟨k5,e5⟩:∃ b,(s.toList == [115,101,116])=b:=⟨_,rfl⟩
 obtain ⟨k6,e6⟩:∃ b,(s.toList == [99,108,117,115,116,101,114])=b:=⟨_,rfl⟩
 have hk:isKw s.data.toList=(k1 || k2 || k3 || k4 || k5 || k6):=by
  rw [← e1,← e2,← e3,← e4,← e5,← e6,← ByteArray.toList_eq,Bool.eq_iff_iff];unfold isKw kws;simp [or_assoc]
 have HK:=Lh hk
 clear hk
 cases hkw:(k1 || k2 || k3 || k4 || k5 || k6)
 ·obtain ⟨⟨⟨⟨⟨rfl,rfl⟩,rfl⟩,rfl⟩,rfl⟩,rfl⟩:((((k1=false∧k2=false)∧k3=false)∧k4=false)∧k5=false)∧k6=false:=by simpa using hkw
  have HK2:Hid (isKw s.data.toList=false):=Lh (HK.out.trans hkw)
  clear hkw HK
  go_enter Tryz.func56,Tryz.ntmps56
  go_wp2_with fail
  go_loop [3] (fun i=>∃ k:Nat,k≤s.size∧i=.int .i64 k∧WordTo s.data.toList k) (fun i=>s.size - (intOf i).toNat)
  case atStart=>exact ⟨0,Nat.zero_le _,rfl,WordTo.zero _⟩
  case round =>
   obtain ⟨k,hk,rfl,hw⟩:=hrel
   have HW:=Lh hw
   clear hw
   by_cases hlt:k < s.size
   ·have HD:=Lh (b_dig s k hlt)
    have STOP:Hid (okAt k s[k]=false→v=false):=Lh (fun e=>by
     have:wordLen s.data.toList=k:=HW.out.stop (by rw [b_size];omega) (fun c hc=>by rw [HD.out] at hc;obtain rfl:=Option.some.inj hc;exact e)
     rw [← HV.out];exact isNm_no (Or.inr (Or.inr (Or.inr (by rw [b_size];omega)))))
    have NEXT:Hid (okAt k s[k]=true→WordTo s.data.toList (k+1)):=Lh (fun e=>HW.out.next HD.out e)
    have hz:((k:Int) == 0)=decide (k=0):=by rw [Bool.eq_iff_iff];simp
    have hb:=s[k].toNat_lt
    have hcl:(97≤(s[k].toNat:Int)∧(s[k].toNat:Int)≤122)∨(65≤(s[k].toNat:Int)∧(s[k].toNat:Int)≤90)∨(s[k].toNat:Int)=95∨(48≤(s[k].toNat:Int)∧(s[k].toNat:Int)≤57)∨(s[k].toNat:Int) < 48∨(58≤(s[k].toNat:Int)∧(s[k].toNat:Int)≤64)∨(91≤(s[k].toNat:Int)∧(s[k].toNat:Int)≤94)∨(s[k].toNat:Int)=96∨123≤(s[k].toNat:Int):=by omega
    have hu:((s[k].toNat:Int) == 95)=decide (s[k].toNat=95):=by rw [Bool.eq_iff_iff];simp;omega
    by_cases hlet:isLet s[k]=true
    ·have HN:=Lh (NEXT.out (by unfold okAt isWd;rw [hlet];simp))
     clear NEXT STOP hz
     unfold isLet at hlet
     simp at hlet
     rcases hcl with ⟨ha,hc⟩ | ⟨ha,hc⟩ | ha | ⟨ha,hc⟩ | ha | ⟨ha,hc⟩ | ⟨ha,hc⟩ | ha | ha
     all_goals first
      | (exfalso;omega)
      | (first | (have hd:decide (s[k].toNat=95)=true:=by simp;omega) | (have hd:decide (s[k].toNat=95)=false:=by simp;omega)
         rw [hd] at hu
         (first | (have q1:decide ((s[k].toNat:Int)≤122)=true:=decide_eq_true (by omega)) | (have q1:decide ((s[k].toNat:Int)≤122)=false:=decide_eq_false (by omega)));(first | (have q2:decide ((s[k].toNat:Int)≤90)=true:=decide_eq_true (by omega)) | (have q2:decide ((s[k].toNat:Int)≤90)=false:=decide_eq_false (by omega)))
         clear hlet hd hb
         go_wp2
         go_round
         case rel=>exact ⟨k+1,by omega,by go_num,HN.out⟩
         case measure=>simp [intOf];omega)
    ·have hd:decide (s[k].toNat=95)=false:=by unfold isLet at hlet;simp at hlet;simp;omega
     rw [hd] at hu
     by_cases hk0:k=0
     ·have HN:=Lh (STOP.out (by unfold okAt;rw [if_pos hk0];simpa using hlet))
      obtain rfl:=HN.out
      rw [decide_eq_true hk0] at hz
      clear hk0
      unfold isLet at hlet
      simp at hlet
      clear NEXT STOP
      rcases hcl with ⟨ha,hc⟩ | ⟨ha,hc⟩ | ha | ⟨ha,hc⟩ | ha | ⟨ha,hc⟩ | ⟨ha,hc⟩ | ha | ha
      all_goals first
       | (exfalso;omega)
       | ((first | (have q1:decide ((s[k].toNat:Int)≤122)=true:=decide_eq_true (by omega)) | (have q1:decide ((s[k].toNat:Int)≤122)=false:=decide_eq_false (by omega)));(first | (have q2:decide ((s[k].toNat:Int)≤90)=true:=decide_eq_true (by omega)) | (have q2:decide ((s[k].toNat:Int)≤90)=false:=decide_eq_false (by omega)))
          clear hlet hd hb
          go_wp2
          go_ret
          exact ⟨rfl,rfl⟩)
     ·rw [decide_eq_false hk0] at hz
      by_cases hdg:isDgt s[k]=true
      ·have HN:=Lh (NEXT.out (by unfold okAt isWd;rw [if_neg hk0,hdg];simp))
       unfold isLet at hlet
       unfold isDgt at hdg
       simp at hlet hdg
       clear NEXT STOP
       rcases hcl with ⟨ha,hc⟩ | ⟨ha,hc⟩ | ha | ⟨ha,hc⟩ | ha | ⟨ha,hc⟩ | ⟨ha,hc⟩ | ha | ha
       all_goals first
        | (exfalso;omega)
        | ((first | (have q1:decide ((s[k].toNat:Int)≤122)=true:=decide_eq_true (by omega)) | (have q1:decide ((s[k].toNat:Int)≤122)=false:=decide_eq_false (by omega)));(first | (have q2:decide ((s[k].toNat:Int)≤90)=true:=decide_eq_true (by omega)) | (have q2:decide ((s[k].toNat:Int)≤90)=false:=decide_eq_false (by omega)))
           clear hlet hd hb hdg
           go_wp2
           go_round
           case rel=>exact ⟨k+1,by omega,by go_num,HN.out⟩
           case measure=>simp [intOf];omega)
      ·have HN:=Lh (STOP.out (by unfold okAt isWd;rw [if_neg hk0];simp [hlet,hdg]))
       obtain rfl:=HN.out
       unfold isLet at hlet
       unfold isDgt at hdg
       simp at hlet hdg
       clear NEXT STOP
       rcases hcl with ⟨ha,hc⟩ | ⟨ha,hc⟩ | ha | ⟨ha,hc⟩ | ha | ⟨ha,hc⟩ | ⟨ha,hc⟩ | ha | ha
       all_goals first
        | (exfalso;omega)
        | ((first | (have q1:decide ((s[k].toNat:Int)≤122)=true:=decide_eq_true (by omega)) | (have q1:decide ((s[k].toNat:Int)≤122)=false:=decide_eq_false (by omega)));(first | (have q2:decide ((s[k].toNat:Int)≤90)=true:=decide_eq_true (by omega)) | (have q2:decide ((s[k].toNat:Int)≤90)=false:=decide_eq_false (by omega)))
           clear hlet hd hb hdg
           go_wp2
           go_ret
           exact ⟨rfl,rfl⟩)
   ·obtain rfl:k=s.size:=by omega
    have HN:Hid (v=true):=Lh (by
     rw [← HV.out]
     refine isNm_yes (by rw [b_size];omega) (by rw [b_size];omega) HK2.out ?_
     rw [b_size]
     exact HW.out.stop (by rw [b_size];omega) (fun c hc=>by rw [List.getElem?_eq_none (by rw [b_size];omega)] at hc;cases hc))
    obtain rfl:=HN.out
    go_wp2
    go_ret
    exact ⟨rfl,rfl⟩
 ·have HN:Hid (v=false):=Lh (by rw [← HV.out];exact isNm_no (Or.inr (Or.inr (Or.inl (HK.out.trans hkw)))))
  obtain rfl:=HN.out
  clear HK
  have hway:k1=true∨(k1=false∧k2=true)∨(k1=false∧k2=false∧k3=true)∨(k1=false∧k2=false∧k3=false∧k4=true)∨(k1=false∧k2=false∧k3=false∧k4=false∧k5=true)∨(k1=false∧k2=false∧k3=false∧k4=false∧k5=false∧k6=true):=by
   revert hkw;cases k1 <;> cases k2 <;> cases k3 <;> cases k4 <;> cases k5 <;> cases k6 <;> simp
  clear hkw HN
  rcases hway with rfl | ⟨rfl,rfl⟩ | ⟨rfl,rfl,rfl⟩ | ⟨rfl,rfl,rfl,rfl⟩ | ⟨rfl,rfl,rfl,rfl,rfl⟩ | ⟨rfl,rfl,rfl,rfl,rfl,rfl⟩
  all_goals
   go_enter Tryz.func56,Tryz.ntmps56
   go_wp2
   go_ret
   exact ⟨rfl,rfl⟩
theorem rnm_of (s:ByteArray)(v:Bool)(w:World)(hs:s.size≤maxLen)(h:Hid (isNm s.data.toList=v)) :
    Calls Tryz.prog 56 #[.string s] w fun e w'=>e=.returned (.bool v)∧w=w':=by rw [← h.out];exact rnm_any s w hs
theorem drop_st {l:List St}{k:Nat}(h:k < l.length):l.drop k=l[k] :: l.drop (k+1):=List.drop_eq_getElem_cons h
theorem Sts.get {w:World}{ao:Option Addr}{n cap:Nat}{l:List St}(h:Sts w (.slice ao n cap) l){k:Nat}(hk:k < l.length):∃ A,ao=some A∧stAt w l[k] (A.add (k*5)):=by
 obtain ⟨ao',cap',e,_,_,hA⟩:=h
 cases e
 obtain ⟨A,rfl,h2⟩:=hA (by omega)
 exact ⟨A,rfl,by have:=stsAt_get h2 k hk;rwa [Nat.zero_add] at this⟩
theorem lst_ind {P:List St→Prop}(step:∀ l,(∀ s∈l,P s.body)→P l)(l:List St):P l :=
 ((st_ind (P:=fun s=>P s.body) (Q:=fun l=>(∀ s∈l,P s.body)∧P l) (fun _ _ _ _ _ h=>h.2) ⟨fun _ h=>(by cases h),step [] (fun _ h=>(by cases h))⟩
  (fun s t hs ht=>(fun h=>⟨h,step _ h⟩) (fun x hx=>by rcases List.mem_cons.1 hx with rfl | hx;exact hs;exact ht.1 x hx))).2 l).2
structure FV where
 s:St
 lv:Int
 rv:Value
 av:Value
 bv:Value
def cellsF (f:FV):List Value:=[.int .i64 f.s.kind,.string (bb f.s.name),f.rv,f.av,f.bv,.int .i64 f.lv]
def flatF (l:List FV):List Value:=l.flatMap cellsF
theorem flatF_app (a b:List FV):flatF (a ++ b)=flatF a ++ flatF b:=by unfold flatF;rw [List.flatMap_append]
theorem flatF_one (f:FV):flatF [f]=cellsF f:=by unfold flatF;simp
theorem flatF_length (l:List FV):(flatF l).length=l.length*6:=by
 induction l with
 | nil=>rfl
 | cons a t ih=>unfold flatF at *;rw [List.flatMap_cons,List.length_append,ih];simp [cellsF];omega
theorem flatF_get:∀ (l:List FV) (i:Nat) (h:i < l.length) (j:Nat) (u:Value),(cellsF l[i])[j]?=some u→(flatF l)[i*6+j]?=some u
 | [],i,h,_,_,_=>absurd h (by simp)
 | a :: t,0,_,j,u,hj=>by
  have hl:(cellsF a).length=6:=rfl
  have hjl:j < 6:=by have:=(List.getElem?_eq_some_iff.1 hj).1;rw [show (a :: t)[0]=a from rfl,hl] at this;exact this
  have e:flatF (a :: t)=cellsF a ++ flatF t:=by unfold flatF;rw [List.flatMap_cons]
  rw [e,Nat.zero_mul,Nat.zero_add,List.getElem?_append_left (by omega)]
  exact hj
 | a :: t,i+1,h,j,u,hj=>by
  have ih:=flatF_get t i (by simpa using h) j u hj
  have hl:(cellsF a).length=6:=rfl
  have e:flatF (a :: t)=cellsF a ++ flatF t:=by unfold flatF;rw [List.flatMap_cons]
  rw [e,List.getElem?_append_right (by omega),hl,show (i+1)*6+j - 6=i*6+j by omega]
  exact ih
def fvOk (w:World)(f:FV):Prop:=f.s.name.length≤maxLen∧Prs w f.rv f.s.refs∧Prs w f.av f.s.attrs∧Sts w f.bv f.s.body
theorem fvOk.keep {w1 w2:World}{f:FV}(h:fvOk w1 f)(hb:Below w1.heap.size w1 w2):fvOk w2 f:=⟨h.1,h.2.1.keep hb,h.2.2.1.keep hb,h.2.2.2.keep hb⟩
theorem prs_one {w:World}{v:Value}{l:List Pr}(h:Prs w v l):v.oneCell'=true:=by obtain ⟨_,_,rfl,_⟩:=h;rfl
theorem sts_one {w:World}{v:Value}{l:List St}(h:Sts w v l):v.oneCell'=true:=by obtain ⟨_,_,rfl,_⟩:=h;rfl
theorem cellsF_one {w:World}{f:FV}(h:fvOk w f):∀ u∈cellsF f,u.oneCell'=true:=by
 intro u hu
 simp only [cellsF,List.mem_cons,List.not_mem_nil,or_false] at hu
 rcases hu with rfl | rfl | rfl | rfl | rfl | rfl
 ·rfl
 ·rfl
 ·exact prs_one h.2.1
 ·exact prs_one h.2.2.1
 ·exact sts_one h.2.2.2
 ·rfl
theorem flatF_one' {w:World}{l:List FV}(h:∀ f∈l,fvOk w f):∀ u∈flatF l,u.oneCell'=true:=by
 intro u hu
 obtain ⟨f,hf,hu⟩:=List.mem_flatMap.1 hu
 exact cellsF_one (h f hf) u hu
theorem info_flat:(Tryz.prog.info? 119).map (fun i=>(i.zero,i.size,i.bytes))=some (some (.agg #[.int .i64 0,.string ⟨#[]⟩,.slice none 0 0,.slice none 0 0,.slice none 0 0,.int .i64 0]),6,104):=by kernel_rfl
theorem info_flat6:∃ i,Tryz.prog.info? 119=some i∧i.zero=some (.agg #[.int .i64 0,.string ⟨#[]⟩,.slice none 0 0,.slice none 0 0,.slice none 0 0,.int .i64 0])∧i.size=6∧i.bytes=104:=by
 have h:=info_flat
 cases hq:Tryz.prog.info? 119 with
 | none=>rw [hq] at h;cases h
 | some i =>
  rw [hq] at h
  simp only [Option.map_some,Option.some.injEq,Prod.mk.injEq] at h
  exact ⟨i,rfl,h.1,h.2.1,h.2.2⟩
theorem cell6_new (w:World)(a b c d e f:Value)(t:TypeId):∀ j u,[a,b,c,d,e,f][j]?=some u→(w.alloc (.cells #[a,b,c,d,e,f] t)).cell? ((⟨w.heap.size,0,none⟩:Addr).add j)=some u:=by
 intro j u hj
 match j,hj with
 | 0,hj=>simp at hj;subst hj;simp [Addr.add]
 | 1,hj=>simp at hj;subst hj;simp [Addr.add]
 | 2,hj=>simp at hj;subst hj;simp [Addr.add]
 | 3,hj=>simp at hj;subst hj;simp [Addr.add]
 | 4,hj=>simp at hj;subst hj;simp [Addr.add]
 | 5,hj=>simp at hj;subst hj;simp [Addr.add]
 | (j+6),hj=>simp at hj
def PreOut (w0:World)(l:List St)(lv:Int)(w:World)(e:Ending)(w':World):Prop:=∃ (g cap:Nat) (F:List FV),e=.returned (.slice (some ⟨g,0,none⟩) F.length cap) ∧
 w'.ownsRow w.heap.size 119 6 (.slice (some ⟨g,0,none⟩) F.length cap) F.length (flatF F)∧F.map (fun f=>(f.s,f.lv))=preL l lv∧(∀ f∈F,fvOk w0 f)∧Below w.heap.size w w'
def PreOk (l:List St):Prop:=∀ (w0 w:World) (v:Value) (lv:Int),Below w0.heap.size w0 w→Sts w0 v l→cnt l≤600→0≤lv→lv+cnt l≤1000 →
 Calls Tryz.prog 57 #[v,.int .i64 lv] w (PreOut w0 l lv w)
theorem cnt_app (a b:List St):cnt (a ++ b)=cnt a+cnt b:=by unfold cnt;rw [preL_app,List.length_append]
theorem cnt_take {l:List St}{k:Nat}(h:k < l.length):cnt (l.take k)+1+cnt l[k].body≤cnt l∧l.take (k+1)=l.take k ++ [l[k]]:=by
 have e:l.take (k+1)=l.take k ++ [l[k]]:=by rw [List.take_add_one,List.getElem?_eq_getElem h];rfl
 refine ⟨?_,e⟩
 have h2:cnt l=cnt (l.take k)+cnt (l.drop k):=by rw [← cnt_app,List.take_append_drop]
 rw [h2,drop_st h,cnt_cons]
 omega
set_option maxRecDepth 100000 in
set_option maxHeartbeats 8000000 in
theorem pre_step (l:List St)(ih:∀ s∈l,PreOk s.body):PreOk l:=by
 intro w0 w v lv hw hs hcn h0 h1
 obtain ⟨i0,hi,hz0,hz1,hz2⟩:=info_flat6
 have hs':=hs
 obtain ⟨ao,cap,rfl,hc,hm,_⟩:=hs'
 have HS:=Lh hs
 have IH:=Lh ih
 unfold maxLen at hm
 have hlm:l.length≤9223372036854775807:=by omega
 clear hs ih hc hm
 go_enter Tryz.func57,Tryz.ntmps57
 go_wp2_with fail
 go_loopw [5,6] (fun out iv wr=>∃ (g oc:Nat) (F:List FV) (k:Nat),out=.slice (some ⟨g,0,none⟩) F.length oc∧iv=.int .i64 k∧k≤l.length∧wr.ownsRow w.heap.size 119 6 (.slice (some ⟨g,0,none⟩) F.length oc) F.length (flatF F) ∧
  F.map (fun f=>(f.s,f.lv))=preL (l.take k) lv∧(∀ f∈F,fvOk w0 f)∧Below w.heap.size w wr) (fun _ iv _=>l.length - (intOf iv).toNat)
 case atStart =>
  exact ⟨w.heap.size,0,[],0,rfl,rfl,Nat.zero_le _,World.ownsRow_lit (e:=119) (size:=6) w #[] 0 (Nat.le_refl _) (by decide) rfl,rfl,fun f hf=>(by cases hf),al1 ..⟩
 case round =>
  obtain ⟨g,oc,F,k,rfl,rfl,hk,hown,hF,hfv,hB⟩:=hrel
  rename World=>wr
  have HO:=Lh hown
  have HF:=Lh hF
  have HFV:=Lh hfv
  have hsz:=hB.size
  clear hown hF hfv
  have hFl:F.length=cnt (l.take k):=by have:=congrArg List.length HF.out;rw [List.length_map] at this;rw [this];exact pre_len.2 _ _ _
  by_cases hlt:k < l.length
  ·obtain ⟨hct,htk⟩:=cnt_take hlt
   have hB0:Below w0.heap.size w0 wr:=hw.trans (hB.mono hw.size)
   obtain ⟨A,rfl,hst0⟩:=HS.out.get hlt
   have hst:=(st_keep hB0).1 _ _ hst0
   obtain ⟨c0,c1,hnl,⟨rv,c2,hrv⟩,⟨av,c3,hav⟩,bv,c4,hbv⟩:=(stAt_eq _ _ _).1 hst
   obtain ⟨_,_,_,⟨rv',c2',hrv0⟩,⟨av',c3',hav0⟩,bv',c4',hbv0⟩:=(stAt_eq _ _ _).1 hst0
   obtain rfl:rv'=rv:=Option.some.inj ((cell_later' hB0 c2').symm.trans c2)
   obtain rfl:av'=av:=Option.some.inj ((cell_later' hB0 c3').symm.trans c3)
   obtain rfl:bv'=bv:=Option.some.inj ((cell_later' hB0 c4').symm.trans c4)
   have HNF:Hid (fvOk w0 ⟨l[k],lv,rv',av',bv'⟩):=Lh ⟨hnl,hrv0,hav0,hbv0⟩
   have HBV0:=Lh hbv0
   have hone:=cellsF_one HNF.out
   have HONE:=Lh hone
   have hPre:=IH.out l[k] (List.getElem_mem hlt)
   have HPRE:=Lh hPre
   have HPL:Hid (preL (l.take (k+1)) lv=preL (l.take k) lv ++ ((l[k],lv) :: preL l[k].body (if l[k].kind=5 then lv+1 else lv))):=Lh (by
    rw [htk,preL_app,preL_cons,preL_nil,List.append_nil,preS_eq])
   have k0:=((stAt_eq _ _ _).1 hst0).1
   have k4:=c4'
   clear hrv hav hbv hrv0 hav0 hbv0 hst hst0 c2' c3' c4' hone hPre htk
   have z0:(0:Int)≤(k:Int):=by omega
   have z1:(k:Int) < (l.length:Int):=by omega
   obtain ⟨s,hse⟩:∃ s,l[k]=s:=⟨_,rfl⟩
   rw [hse] at c0 c1 HNF HBV0 HONE HPRE HPL hct hnl k0
   clear hse
   have hFb:F.length+1+cnt s.body≤600:=by omega
   have hlvb:lv+1+cnt s.body≤1000:=by omega
   have hB1:=below_keep (al1 wr (.cells #[.int .i64 s.kind,.string (bb s.name),rv',av',bv',.int .i64 lv] 119)) hB
   have HK0:=Lh k0
   have HK4:=Lh k4
   clear k0 k4 hFl hct
   obtain ⟨lw,hlw⟩:∃ q:Int,(if s.kind=5 then lv+1 else lv)=q:=⟨_,rfl⟩
   rw [hlw] at HPL
   have hl0:0≤lw:=by rw [← hlw];split <;> omega
   have hl1:lw+cnt s.body≤1000:=by rw [← hlw];split <;> omega
   have hway:((s.kind == 5)=true∧lw=lv+1)∨((s.kind == 5)=false∧lv=lw):=by
    by_cases h5:s.kind=5
    ·rw [if_pos h5] at hlw;exact Or.inl ⟨by rw [beq_iff_eq];exact h5,hlw.symm⟩
    ·rw [if_neg h5] at hlw;exact Or.inr ⟨by rw [beq_eq_false_iff_ne];exact h5,hlw⟩
   clear hlw
   rcases hway with ⟨b5,rfl⟩ | ⟨b5,rfl⟩
   all_goals
    go_wp2_with (first
     | (at_builtin;refine wpList_append_own _ rfl (.tmp 15) (.tmp 22) 115 rfl w.heap.size 119 i0 (.agg #[.int .i64 0,.string ⟨#[]⟩,.slice none 0 0,.slice none 0 0,.slice none 0 0,.int .i64 0]) 6 104 Tryz.underlying115 hi hz0 hz1 hz2 rfl (by decide) _ _ _ rfl (World.ownsRow.alloc HO.out _) ⟨wr.heap.size,0,none⟩ 1 1 [.int .i64 s.kind,.string (bb s.name),rv',av',bv',.int .i64 lv] rfl rfl (cell6_new _ _ _ _ _ _ _ _) (fun u hu=>HONE.out u hu) (by unfold maxLen;omega) (by omega) (by simp;omega) ?_;intro v3 w3 hown3 hgrow3 hnil3;have hB3:=(hB.alloc hsz (.cells #[.int .i64 s.kind,.string (bb s.name),rv',av',bv',.int .i64 lv] 119)).grown hgrow3 (by simp;omega) (fun q hq=>(World.ownsRow.lt HO.out q hq).1);have hs3:=hB3.size;have hBw:=hw.trans (hB3.mono hw.size);have d0:=cell_later' hBw HK0.out;have d4:=cell_later' hBw HK4.out;have HO3:=Lh hown3;clear hown3 hgrow3 hnil3)
     | (go_at_call 57;refine (HPRE.out w0 w3 bv' _ hBw HBV0.out (by omega) hl0 hl1).mono ?_;rintro e w4 ⟨g4,oc4,G,rfl,hown4,hG,hGv,hb4⟩;have HO4:=Lh (own_keep HO3.out hb4);have HG:=Lh hG;have HGV:=Lh hGv;have HOG:=Lh hown4;have hB4:=below_keep hb4 hB3;have hs4:=hB4.size;have hGl:G.length=cnt s.body:=(by have:=congrArg List.length hG;rw [List.length_map] at this;rw [this];exact pre_len.2 _ _ _);have hGb:F.length+1+G.length≤600:=(by omega);clear hown4 hG hGv hb4 hGl)
     | (at_builtin;refine wpList_append_own _ rfl (.tmp 33) (.tmp 40) 115 rfl w.heap.size 119 i0 (.agg #[.int .i64 0,.string ⟨#[]⟩,.slice none 0 0,.slice none 0 0,.slice none 0 0,.int .i64 0]) 6 104 Tryz.underlying115 hi hz0 hz1 hz2 rfl (by decide) _ _ _ rfl HO4.out ⟨g4,0,none⟩ G.length oc4 (flatF G) rfl (flatF_length G) (World.ownsRow.cells HOG.out (g:=g4) rfl) (flatF_one' HGV.out) (by unfold maxLen;omega) (by omega) hs4 ?_;intro v5 w5 hown5 hgrow5 hnil5;have hB5:=hB4.grown hgrow5 hs4 (fun q hq=>(World.ownsRow.lt HO4.out q hq).1);have HO5:=Lh hown5;clear hown5 hgrow5 hnil5))
    have hcat:flatF F ++ [.int .i64 s.kind,.string (bb s.name),rv',av',bv',.int .i64 lv] ++ flatF G=flatF (F ++ [(⟨s,lv,rv',av',bv'⟩:FV)] ++ G):=by rw [flatF_app,flatF_app,flatF_one];rfl
    have hlen:(F ++ [(⟨s,lv,rv',av',bv'⟩:FV)] ++ G).length=F.length+1+G.length:=by simp;omega
    have hO5:=HO5.out
    rw [hcat,← hlen] at hO5
    obtain ⟨g5,oc5,rfl⟩:∃ g5 oc5,v5=.slice (some ⟨g5,0,none⟩) (F ++ [(⟨s,lv,rv',av',bv'⟩:FV)] ++ G).length oc5:=by
     rcases hO5.2 with ⟨_,h0⟩ | ⟨g5,oc5,_,rfl,_⟩
     ·rw [hlen] at h0;omega
     ·exact ⟨g5,oc5,rfl⟩
    have HO6:=Lh hO5
    clear HO5 hO5 hcat hlen
    go_roundw
    case rel=>exact ⟨g5,oc5,F ++ [(⟨s,lv,rv',av',bv'⟩:FV)] ++ G,k+1,rfl,by go_num,by omega,HO6.out,by rw [List.map_append,List.map_append,HF.out,HG.out,HPL.out,List.append_assoc];rfl,fun f hf=>by
     rcases List.mem_append.1 hf with hf | hf
     ·rcases List.mem_append.1 hf with hf | hf
      ·exact HFV.out f hf
      ·rw [List.mem_singleton.1 hf];exact HNF.out
     ·exact HGV.out f hf,hB5⟩
    case measure=>simp [intOf];omega
  ·obtain rfl:k=l.length:=by omega
   have HL:Hid (l.take l.length=l):=Lh (List.take_length)
   go_wp2
   go_ret
   exact ⟨g,oc,F,rfl,HO.out,by rw [HF.out,HL.out],HFV.out,hB⟩
theorem pre_ok (l:List St):PreOk l:=lst_ind pre_step l
end Go.Proofs.YtgmidodmmlmmeaaGreatDoor.tre
