/-
  Plain facts on syntax trees (layer 7): what is valid, the names, renaming, and that renaming back restores a tree. No function of the program is named here; no condition.
  Renaming a node and back (P7.5), and equality of trees: plain facts. No function of the program is named here; no condition.
  Trees in memory: lists of refs, attributes and statements as slices hold them; a tree that comes in. No condition.
  What Name of the reference of layer 7 returns, and the statements' guard few. Conditions: a text's length; trees in memory.
  What stmts and few of the statements of layer 7 return. Conditions: trees in memory.
  What Preorder of the reference of layer 7 returns: the statements in preorder, each with its level, their lists where the tree has them. Conditions: a tree of at most 600 statements in memory; a small level.
  What fields of the reference of layer 7 returns. Condition: the lists lie in memory.
  What attributes of the reference of layer 7 returns. Condition: the lists lie in memory.
  What statement of the reference of layer 7 returns. Condition: the lists lie in memory.
  What Valid and Count of the reference of layer 7 return. Condition: a tree of at most 600 statements in memory.
  Slices of names in memory, as they are read and as a row that a loop appends to; has and the law's same. No condition.
  What Clusters of the reference of layer 7 returns. Condition: a tree of at most 600 statements in memory.
-/
import Derived.Test.YtgmidodmmlmmeaaGreatDoorMaf
namespace Go.Proofs.YtgmidodmmlmmeaaGreatDoor.tre
open lex
abbrev Pr:=List UInt8 × List UInt8
inductive St where
 | mk (kind:Int) (name:List UInt8) (refs attrs:List Pr) (body:List St)
def St.kind:St→Int | .mk k _ _ _ _=>k
def St.name:St→List UInt8 | .mk _ n _ _ _=>n
def St.refs:St→List Pr | .mk _ _ r _ _=>r
def St.attrs:St→List Pr | .mk _ _ _ a _=>a
def St.body:St→List St | .mk _ _ _ _ b=>b
structure Tr where
 name:List UInt8
 dir:Bool
 body:List St
mutual
def preS:St→Int→List (St × Int)
 | .mk k n r a b,lv=>(.mk k n r a b,lv) :: preL b (if k=5 then lv+1 else lv)
def preL:List St→Int→List (St × Int)
 | [],_=>[]
 | s :: t,lv=>preS s lv ++ preL t lv
end
theorem preL_nil (lv:Int):preL [] lv=[]:=rfl
theorem preL_cons (s:St)(t:List St)(lv:Int):preL (s :: t) lv=preS s lv ++ preL t lv:=rfl
theorem preS_eq (s:St)(lv:Int):preS s lv=(s,lv) :: preL s.body (if s.kind=5 then lv+1 else lv):=by cases s;rfl
theorem preL_app (a b:List St)(lv:Int):preL (a ++ b) lv=preL a lv ++ preL b lv:=by
 induction a with
 | nil=>rfl
 | cons s t ih=>rw [List.cons_append,preL_cons,preL_cons,ih,List.append_assoc]
theorem st_ind {P:St→Prop}{Q:List St→Prop}(hS:∀ k n r a b,Q b→P (.mk k n r a b))(h0:Q [])(h1:∀ s t,P s→Q t→Q (s :: t)):(∀ s,P s)∧∀ l,Q l :=
 ⟨fun s=>St.rec (motive_1:=P) (motive_2:=Q) (fun k n r a b hb=>hS k n r a b hb) h0 (fun s t hs ht=>h1 s t hs ht) s,
  fun l=>St.rec_1 (motive_1:=P) (motive_2:=Q) (fun k n r a b hb=>hS k n r a b hb) h0 (fun s t hs ht=>h1 s t hs ht) l⟩
def hL:Nat→List St→Bool
 | 0,l=>l.isEmpty
 | d+1,l=>l.all fun s=>hL d s.body
theorem pre_len:(∀ s:St,∀ a b,(preS s a).length=(preS s b).length)∧∀ l:List St,∀ a b,(preL l a).length=(preL l b).length :=
 st_ind (fun k n r at' b hb x y=>by rw [preS_eq,preS_eq,List.length_cons,List.length_cons];exact congrArg (·+1) (hb _ _)) (fun _ _=>rfl) (fun s t hs ht x y=>by rw [preL_cons,preL_cons,List.length_append,List.length_append,hs x y,ht x y])
def stmL:List St→Int→Int→Int→Int
 | [],n,_,_=>n
 | .mk _ _ r a b :: t,n,most,d =>
  if most < n+1∨40 < r.length∨40 < a.length then -1
  else if (if 20 < d+1 then -1 else stmL b 0 (most - (n+1)) (d+1)) < 0 then -1
  else stmL t (n+1+(if 20 < d+1 then -1 else stmL b 0 (most - (n+1)) (d+1))) most d
def stmT (l:List St)(most d:Int):Int:=if 20 < d then -1 else stmL l 0 most d
def cnt (l:List St):Nat:=(preL l 0).length
theorem cnt_nil:cnt []=0:=rfl
theorem cnt_cons (s:St)(t:List St):cnt (s :: t)=1+cnt s.body+cnt t:=by
 unfold cnt
 rw [preL_cons,List.length_append,preS_eq,List.length_cons,pre_len.2 s.body _ 0]
 omega
def okL (l:List St):Prop:=∀ x∈preL l 0,x.1.refs.length≤40∧x.1.attrs.length≤40
theorem pre_mem:(∀ s:St,∀ a b,∀ x∈preS s a,∃ lv,(x.1,lv)∈preS s b)∧∀ l:List St,∀ a b,∀ x∈preL l a,∃ lv,(x.1,lv)∈preL l b:=by
 refine st_ind (fun k n r at' b hb x y z hz=>?_) (fun _ _ z hz=>by cases hz) (fun s t hs ht x y z hz=>?_)
 ·rw [preS_eq] at hz ⊢
  rcases List.mem_cons.1 hz with rfl | hz
  ·exact ⟨y,by simp⟩
  ·obtain ⟨lv,h⟩:=hb _ (if (St.mk k n r at' b).kind=5 then y+1 else y) z hz
   exact ⟨lv,List.mem_cons_of_mem _ h⟩
 ·rw [preL_cons] at hz ⊢
  rcases List.mem_append.1 hz with hz | hz
  ·obtain ⟨lv,h⟩:=hs x y z hz
   exact ⟨lv,List.mem_append_left _ h⟩
  ·obtain ⟨lv,h⟩:=ht x y z hz
   exact ⟨lv,List.mem_append_right _ h⟩
theorem okL_cons {s:St}{t:List St}:okL (s :: t) ↔ (s.refs.length≤40∧s.attrs.length≤40)∧okL s.body∧okL t:=by
 constructor
 ·intro h
  refine ⟨h (s,0) (by rw [preL_cons,preS_eq];simp),fun x hx=>?_,fun x hx=>h x (by rw [preL_cons];exact List.mem_append_right _ hx)⟩
  obtain ⟨lv,hl⟩:=pre_mem.2 s.body 0 (if s.kind=5 then 0+1 else 0) x hx
  exact h (x.1,lv) (by rw [preL_cons,preS_eq];exact List.mem_append_left _ (List.mem_cons_of_mem _ hl))
 ·rintro ⟨h1,h2,h3⟩ x hx
  rw [preL_cons,preS_eq] at hx
  rcases List.mem_append.1 hx with hx | hx
  ·rcases List.mem_cons.1 hx with rfl | hx
   ·exact h1
   ·obtain ⟨lv,hl⟩:=pre_mem.2 s.body _ 0 x hx
    exact h2 (x.1,lv) hl
  ·exact h3 x hx
def few (l:List St):Bool:=decide (0≤stmT l 600 0)
def wNode:List UInt8:=[110,111,100,101]
def wEdge:List UInt8:=[101,100,103,101]
def fldE (s:St):Int :=
 if s.kind < 1∨5 < s.kind then 1
 else if (s.kind=2∧s.name≠[])∨(s.kind≠2∧0 < s.refs.length)∨(s.kind=5∧0 < s.attrs.length)∨(s.kind≠5∧0 < s.body.length) then 1
 else if (s.kind=3∧s.name≠wNode∧s.name≠wEdge)∨(s.kind=2∧s.refs.length < 2) then 1
 else if s.kind=4∧(s.attrs.length≠1∨(s.attrs.head?.map (·.1))≠some []) then 1 else 0
def attL (k:Int):List Pr→List Pr→Int
 | _,[]=>0
 | done,a :: t =>
  if k≠4∧isNm a.1=false then 5
  else if done.any (fun x=>decide (x.1=a.1))=true then 6
  else if 32 < a.2.length then 2
  else if a.2.all isPl=false then 7
  else attL k (done ++ [a]) t
def attE (s:St):Int:=if 16 < s.attrs.length then 2 else attL s.kind [] s.attrs
def refB (r:Pr):Bool:=isNm r.1 && (r.2.isEmpty || isNm r.2)
def staE (s:St)(lv:Int):Int :=
 if fldE s≠0 then fldE s
 else if s.kind=5∧6≤lv then 2
 else if s.kind≠2∧s.kind≠3∧isNm s.name=false then 5
 else if s.refs.all refB=false then 5
 else attE s
def firstE:List (St × Int)→Int
 | []=>0
 | x :: t=>if staE x.1 x.2≠0 then staE x.1 x.2 else firstE t
def validT (T:Tr):Int:=if isNm T.name=false then 5 else if 512 < cnt T.body then 2 else firstE (preL T.body 0)
theorem firstE_ok {l:List (St × Int)}:firstE l=0 ↔ ∀ x∈l,staE x.1 x.2=0:=by
 induction l with
 | nil=>simp [firstE]
 | cons x t ih =>
  unfold firstE
  by_cases h:staE x.1 x.2≠0
  ·rw [if_pos h];exact ⟨fun e=>absurd e h,fun e=>e x (by simp)⟩
  ·rw [if_neg h,ih]
   simp only [ne_eq,Decidable.not_not] at h
   exact ⟨fun e y hy=>by rcases List.mem_cons.1 hy with rfl | hy;exact h;exact e y hy,fun e y hy=>e y (List.mem_cons_of_mem _ hy)⟩
theorem valid_iff (T:Tr):validT T=0 ↔ isNm T.name=true∧cnt T.body≤512∧∀ x∈preL T.body 0,staE x.1 x.2=0:=by
 unfold validT
 by_cases h1:isNm T.name=false
 ·rw [if_pos h1];exact ⟨fun e=>absurd e (by decide),fun e=>by rw [h1] at e;cases e.1⟩
 ·rw [if_neg h1]
  by_cases h2:512 < cnt T.body
  ·rw [if_pos h2];exact ⟨fun e=>absurd e (by decide),fun e=>by omega⟩
  ·rw [if_neg h2,firstE_ok]
   exact ⟨fun e=>⟨by simpa using h1,by omega,e⟩,fun e=>e.2.2⟩
mutual
def eqS:St→St→Bool
 | .mk k n r a b,.mk k' n' r' a' b'=>decide (k=k') && decide (n=n') && decide (r=r') && decide (a=a') && eqL b b'
def eqL:List St→List St→Bool
 | [],[]=>true
 | [],_ :: _=>false
 | _ :: _,[]=>false
 | s :: t,s' :: t'=>eqS s s' && eqL t t'
end
theorem eq_iff:(∀ s s',eqS s s'=true ↔ s=s')∧∀ l l',eqL l l'=true ↔ l=l':=by
 refine st_ind (fun k n r a b hb s'=>?_) (fun l'=>?_) (fun s t hs ht l'=>?_)
 ·obtain ⟨k',n',r',a',b'⟩:=s'
  show (decide (k=k') && decide (n=n') && decide (r=r') && decide (a=a') && eqL b b')=true ↔ _
  simp only [Bool.and_eq_true,decide_eq_true_eq,hb,St.mk.injEq,and_assoc]
 ·cases l' with
  | nil=>exact ⟨fun _=>rfl,fun _=>rfl⟩
  | cons s' t'=>exact ⟨fun e=>(by cases e),fun e=>(by cases e)⟩
 ·cases l' with
  | nil=>exact ⟨fun e=>(by cases e),fun e=>(by cases e)⟩
  | cons s' t' =>
   show (eqS s s' && eqL t t')=true ↔ _
   rw [Bool.and_eq_true,hs,ht,List.cons.injEq]
def eqT (A B:Tr):Bool:=decide (A.name=B.name) && (A.dir == B.dir) && eqL A.body B.body
theorem eqT_iff (A B:Tr):eqT A B=true ↔ A=B:=by
 obtain ⟨n,d,b⟩:=A
 obtain ⟨n',d',b'⟩:=B
 unfold eqT
 simp only [Bool.and_eq_true,decide_eq_true_eq,beq_iff_eq,eq_iff.2,Tr.mk.injEq,and_assoc]
theorem eqT_self (A:Tr):eqT A A=true:=(eqT_iff A A).2 rfl
end Go.Proofs.YtgmidodmmlmmeaaGreatDoor.tre
namespace Go.Proofs.YtgmidodmmlmmeaaGreatDoor.tre
open Go.ChangeShapes Go.WideShapes Go.ChangeAt Go.RowKit Go.Joins lex
abbrev bb (l:List UInt8):ByteArray:=⟨l.toArray⟩
def prAt (w:World)(A:Addr)(i:Nat)(r:Pr):Prop :=
 w.cell? (A.add (i*2))=some (.string (bb r.1))∧w.cell? ⟨(A.add (i*2)).block,(A.add (i*2)).off+1,none⟩=some (.string (bb r.2))∧r.1.length≤maxLen∧r.2.length≤maxLen
def Prs (w:World)(v:Value)(l:List Pr):Prop:=∃ (ao:Option Addr) (cap:Nat),v=.slice ao l.length cap∧l.length≤cap∧cap≤maxLen∧(0 < l.length→∃ A,ao=some A∧∀ i (h:i < l.length),prAt w A i l[i])
theorem prAt.keep {w1 w2:World}{A:Addr}{i:Nat}{r:Pr}(h:prAt w1 A i r)(hb:Below w1.heap.size w1 w2):prAt w2 A i r:=⟨cell_later' hb h.1,cell_later' hb h.2.1,h.2.2⟩
theorem Prs.keep {w1 w2:World}{v:Value}{l:List Pr}(h:Prs w1 v l)(hb:Below w1.heap.size w1 w2):Prs w2 v l:=by
 obtain ⟨ao,cap,rfl,hc,hm,hA⟩:=h
 exact ⟨ao,cap,rfl,hc,hm,fun hn=>by obtain ⟨A,rfl,h2⟩:=hA hn;exact ⟨A,rfl,fun i hi=>(h2 i hi).keep hb⟩⟩
mutual
def stAt (w:World):St→Addr→Prop
 | .mk k n r a b,A=>w.cell? A=some (.int .i64 k)∧w.cell? ⟨A.block,A.off+1,none⟩=some (.string (bb n))∧n.length≤maxLen ∧
  (∃ rv,w.cell? ⟨A.block,A.off+2,none⟩=some rv∧Prs w rv r)∧(∃ av,w.cell? ⟨A.block,A.off+3,none⟩=some av∧Prs w av a) ∧
  ∃ ao cap,w.cell? ⟨A.block,A.off+4,none⟩=some (.slice ao b.length cap)∧b.length≤cap∧cap≤maxLen∧(0 < b.length→∃ B,ao=some B∧stsAt w b B 0)
def stsAt (w:World):List St→Addr→Nat→Prop
 | [],_,_=>True
 | s :: t,A,i=>stAt w s (A.add (i*5))∧stsAt w t A (i+1)
end
def Sts (w:World)(v:Value)(l:List St):Prop:=∃ (ao:Option Addr) (cap:Nat),v=.slice ao l.length cap∧l.length≤cap∧cap≤maxLen∧(0 < l.length→∃ A,ao=some A∧stsAt w l A 0)
theorem stAt_eq (w:World)(s:St)(A:Addr):stAt w s A ↔ w.cell? A=some (.int .i64 s.kind)∧w.cell? ⟨A.block,A.off+1,none⟩=some (.string (bb s.name))∧s.name.length≤maxLen ∧
    (∃ rv,w.cell? ⟨A.block,A.off+2,none⟩=some rv∧Prs w rv s.refs)∧(∃ av,w.cell? ⟨A.block,A.off+3,none⟩=some av∧Prs w av s.attrs) ∧
    ∃ bv,w.cell? ⟨A.block,A.off+4,none⟩=some bv∧Sts w bv s.body:=by
 obtain ⟨k,n,r,a,b⟩:=s
 show (_∧_) ↔ _
 constructor
 ·rintro ⟨h1,h2,h3,h4,h5,ao,cap,h6,h7,h8,h9⟩
  exact ⟨h1,h2,h3,h4,h5,_,h6,ao,cap,rfl,h7,h8,h9⟩
 ·rintro ⟨h1,h2,h3,h4,h5,bv,h6,ao,cap,rfl,h7,h8,h9⟩
  exact ⟨h1,h2,h3,h4,h5,ao,cap,h6,h7,h8,h9⟩
theorem stsAt_get {w:World}{A:Addr}:∀ {l:List St} {i:Nat},stsAt w l A i→∀ j (h:j < l.length),stAt w l[j] (A.add ((i+j)*5)):=by
 intro l
 induction l with
 | nil=>intro i _ j h;simp at h
 | cons s t ih =>
  intro i h j hj
  cases j with
  | zero=>exact h.1
  | succ j =>
   have:=ih h.2 j (by simpa using hj)
   rw [show i+1+j=i+(j+1) by omega] at this
   exact this
theorem stsAt_of {w:World}{A:Addr}:∀ {l:List St} {i:Nat},(∀ j (h:j < l.length),stAt w l[j] (A.add ((i+j)*5)))→stsAt w l A i:=by
 intro l
 induction l with
 | nil=>intro i _;trivial
 | cons s t ih =>
  intro i h
  refine ⟨h 0 (by simp),ih fun j hj=>?_⟩
  have:=h (j+1) (by simpa using hj)
  rw [show i+(j+1)=i+1+j by omega] at this
  exact this
theorem st_keep {w1 w2:World}(hb:Below w1.heap.size w1 w2):(∀ s A,stAt w1 s A→stAt w2 s A)∧∀ l A i,stsAt w1 l A i→stsAt w2 l A i:=by
 refine st_ind (fun k n r a b hB A h=>?_) (fun _ _ h=>h) (fun s t hs ht A i h=>⟨hs _ h.1,ht _ _ h.2⟩)
 obtain ⟨h1,h2,h3,⟨rv,h4,h4'⟩,⟨av,h5,h5'⟩,ao,cap,h6,h7,h8,h9⟩:=h
 exact ⟨cell_later' hb h1,cell_later' hb h2,h3,⟨rv,cell_later' hb h4,h4'.keep hb⟩,⟨av,cell_later' hb h5,h5'.keep hb⟩,ao,cap,cell_later' hb h6,h7,h8,fun hn=>by
  obtain ⟨B,rfl,h10⟩:=h9 hn;exact ⟨B,rfl,hB _ _ h10⟩⟩
theorem Sts.keep {w1 w2:World}{v:Value}{l:List St}(h:Sts w1 v l)(hb:Below w1.heap.size w1 w2):Sts w2 v l:=by
 obtain ⟨ao,cap,rfl,hc,hm,hA⟩:=h
 exact ⟨ao,cap,rfl,hc,hm,fun hn=>by obtain ⟨A,rfl,h2⟩:=hA hn;exact ⟨A,rfl,(st_keep hb).2 _ _ _ h2⟩⟩
theorem Sts.nil (w:World):Sts w (.slice none 0 0) []:=⟨none,0,rfl,Nat.le_refl _,by decide,fun h=>absurd h (by simp)⟩
theorem Prs.nil (w:World):Prs w (.slice none 0 0) []:=⟨none,0,rfl,Nat.le_refl _,by decide,fun h=>absurd h (by simp)⟩
def TrV (w:World)(v:Value)(T:Tr):Prop:=∃ bv,v=.agg #[.string (bb T.name),.bool T.dir,bv]∧T.name.length≤maxLen∧Sts w bv T.body
theorem TrV.keep {w1 w2:World}{v:Value}{T:Tr}(h:TrV w1 v T)(hb:Below w1.heap.size w1 w2):TrV w2 v T:=by
 obtain ⟨bv,rfl,hm,hs⟩:=h;exact ⟨bv,rfl,hm,hs.keep hb⟩
theorem bb_list (s:ByteArray):bb s.data.toList=s:=by cases s;simp
section
variable {H:Type} {enc:TypeId × Value→H} {w:World} {base:Nat} {spare:Nat→Bool} {held:Bool}
theorem trod_struct5 {t:TypeId}{f0 f1 f2 f3 f4:Field}{fuel:Nat}{cs:List Value}{x:DataW H × List MemPlace}(ht:Tryz.prog.underlying t=some (.struct #[f0,f1,f2,f3,f4]))(h:DataW.trod enc Tryz.prog w base spare held fuel t cs=some x) :
    ∃ y0 y1 y2 y3 y4 n,x.1=.agg [y0.1,y1.1,y2.1,y3.1,y4.1]∧cs.length=Tryz.prog.cellsOf t∧DataW.trod enc Tryz.prog w base spare held n f0.type ((cs.drop f0.offset).take (Tryz.prog.cellsOf f0.type))=some y0 ∧
     DataW.trod enc Tryz.prog w base spare held n f1.type ((cs.drop f1.offset).take (Tryz.prog.cellsOf f1.type))=some y1∧DataW.trod enc Tryz.prog w base spare held n f2.type ((cs.drop f2.offset).take (Tryz.prog.cellsOf f2.type))=some y2 ∧
     DataW.trod enc Tryz.prog w base spare held n f3.type ((cs.drop f3.offset).take (Tryz.prog.cellsOf f3.type))=some y3∧DataW.trod enc Tryz.prog w base spare held n f4.type ((cs.drop f4.offset).take (Tryz.prog.cellsOf f4.type))=some y4:=by
 obtain ⟨xs,n,_,rfl,hl,hlen,hf⟩:=DataW.trod_struct ht h
 match xs,hlen with
 | [y0,y1,y2,y3,y4],_=>exact ⟨y0,y1,y2,y3,y4,n,by simp,hl,by simpa using hf 0 f0 rfl,by simpa using hf 1 f1 rfl,by simpa using hf 2 f2 rfl,by simpa using hf 3 f3 rfl,by simpa using hf 4 f4 rfl⟩
end
end Go.Proofs.YtgmidodmmlmmeaaGreatDoor.tre
namespace Go.Proofs.YtgmidodmmlmmeaaGreatDoor.tre
open Go.RowKit lex
theorem b_size (s:ByteArray):s.data.toList.length=s.size:=by simp
theorem drop_st {l:List St}{k:Nat}(h:k < l.length):l.drop k=l[k] :: l.drop (k+1):=List.drop_eq_getElem_cons h
theorem Sts.get {w:World}{ao:Option Addr}{n cap:Nat}{l:List St}(h:Sts w (.slice ao n cap) l){k:Nat}(hk:k < l.length):∃ A,ao=some A∧stAt w l[k] (A.add (k*5)):=by
 obtain ⟨ao',cap',e,_,_,hA⟩:=h
 cases e
 obtain ⟨A,rfl,h2⟩:=hA (by omega)
 exact ⟨A,rfl,by have:=stsAt_get h2 k hk;rwa [Nat.zero_add] at this⟩
theorem lst_ind {P:List St→Prop}(step:∀ l,(∀ s∈l,P s.body)→P l)(l:List St):P l :=
 ((st_ind (P:=fun s=>P s.body) (Q:=fun l=>(∀ s∈l,P s.body)∧P l) (fun _ _ _ _ _ h=>h.2) ⟨fun _ h=>(by cases h),step [] (fun _ h=>(by cases h))⟩
  (fun s t hs ht=>(fun h=>⟨h,step _ h⟩) (fun x hx=>by rcases List.mem_cons.1 hx with rfl | hx;exact hs;exact ht.1 x hx))).2 l).2
structure FV where
 s:St
 lv:Int
 rv:Value
 av:Value
 bv:Value
def fvOk (w:World)(f:FV):Prop:=f.s.name.length≤maxLen∧Prs w f.rv f.s.refs∧Prs w f.av f.s.attrs∧Sts w f.bv f.s.body
theorem fvOk.keep {w1 w2:World}{f:FV}(h:fvOk w1 f)(hb:Below w1.heap.size w1 w2):fvOk w2 f:=⟨h.1,h.2.1.keep hb,h.2.2.1.keep hb,h.2.2.2.keep hb⟩
theorem prs_one {w:World}{v:Value}{l:List Pr}(h:Prs w v l):v.oneCell'=true:=by obtain ⟨_,_,rfl,_⟩:=h;rfl
theorem cnt_app (a b:List St):cnt (a ++ b)=cnt a+cnt b:=by unfold cnt;rw [preL_app,List.length_append]
theorem cnt_take {l:List St}{k:Nat}(h:k < l.length):cnt (l.take k)+1+cnt l[k].body≤cnt l∧l.take (k+1)=l.take k ++ [l[k]]:=by
 have e:l.take (k+1)=l.take k ++ [l[k]]:=by rw [List.take_add_one,List.getElem?_eq_getElem h];rfl
 refine ⟨?_,e⟩
 have h2:cnt l=cnt (l.take k)+cnt (l.drop k):=by rw [← cnt_app,List.take_append_drop]
 rw [h2,drop_st h,cnt_cons]
 omega
abbrev stV (s:St)(rv av bv:Value):Value:=.agg #[.int .i64 s.kind,.string (bb s.name),rv,av,bv]
def at5 (w:World)(b:Nat)(k:Int)(x:ByteArray)(rv av bv:Value):Prop:=w.cell? ⟨b,0,none⟩=some (.int .i64 k)∧w.cell? ⟨b,1,none⟩=some (.string x)∧w.cell? ⟨b,2,none⟩=some rv∧w.cell? ⟨b,3,none⟩=some av∧w.cell? ⟨b,4,none⟩=some bv
theorem at5_new (w:World)(k:Int)(x:ByteArray)(rv av bv:Value)(t:TypeId):at5 (w.alloc (.cells #[.int .i64 k,.string x,rv,av,bv] t)) w.heap.size k x rv av bv:=by
 refine ⟨?_,?_,?_,?_,?_⟩ <;> go_simp
theorem at5_keep {w1 w2:World}{b:Nat}{k:Int}{x:ByteArray}{rv av bv:Value}(h:at5 w1 b k x rv av bv)(h2:Below w1.heap.size w1 w2):at5 w2 b k x rv av bv :=
 ⟨cell_keep h2 h.1,cell_keep h2 h.2.1,cell_keep h2 h.2.2.1,cell_keep h2 h.2.2.2.1,cell_keep h2 h.2.2.2.2⟩
theorem Prs.get {w:World}{ao:Option Addr}{n cap:Nat}{l:List Pr}(h:Prs w (.slice ao n cap) l){k:Nat}(hk:k < l.length):∃ A,ao=some A∧prAt w A k l[k]:=by
 obtain ⟨ao',cap',e,_,_,hA⟩:=h
 cases e
 obtain ⟨A,rfl,h2⟩:=hA (by omega)
 exact ⟨A,rfl,h2 k hk⟩
theorem below_drewT (w:World):∀ n,Below w.heap.size w (w.drewN n)
 | 0=>Below.refl _ _
 | n+1=>(below_drewT w n).drew
theorem attL_nil (k:Int)(d:List Pr):attL k d []=0:=by rw [attL]
theorem attL_cons (k:Int)(d:List Pr)(a:Pr)(t:List Pr):attL k d (a :: t)=if k≠4∧isNm a.1=false then 5 else if d.any (fun x=>decide (x.1=a.1))=true then 6 else if 32 < a.2.length then 2 else if a.2.all isPl=false then 7 else attL k (d ++ [a]) t:=by rw [attL]
theorem drop_pr {l:List Pr}{k:Nat}(h:k < l.length):l.drop k=l[k] :: l.drop (k+1):=List.drop_eq_getElem_cons h
theorem take_pr {l:List Pr}{k:Nat}(h:k < l.length):l.take (k+1)=l.take k ++ [l[k]]:=by rw [List.take_add_one,List.getElem?_eq_getElem h];rfl
theorem at2_str (w:World)(x y:ByteArray)(t:TypeId):(w.alloc (.cells #[.string x,.string y] t)).cell? ⟨w.heap.size,0,none⟩=some (.string x)∧(w.alloc (.cells #[.string x,.string y] t)).cell? ⟨w.heap.size,1,none⟩=some (.string y):=by
 constructor <;> go_simp
theorem all_next {l:List Pr}{k:Nat}(h:k < l.length)(h1:(l.take k).all refB=true)(h2:refB l[k]=true):(l.take (k+1)).all refB=true:=by rw [take_pr h,List.all_append,h1];simp [h2]
theorem all_bad {l:List Pr}{k:Nat}(h:k < l.length)(h2:refB l[k]=false):l.all refB=false:=by rw [List.all_eq_false];exact ⟨l[k],List.getElem_mem h,by rw [h2];simp⟩
def at3 (w:World)(b:Nat)(x:ByteArray)(d:Bool)(bv:Value):Prop:=w.cell? ⟨b,0,none⟩=some (.string x)∧w.cell? ⟨b,1,none⟩=some (.bool d)∧w.cell? ⟨b,2,none⟩=some bv
theorem at3_new (w:World)(x:ByteArray)(d:Bool)(bv:Value)(t:TypeId):at3 (w.alloc (.cells #[.string x,.bool d,bv] t)) w.heap.size x d bv:=by
 refine ⟨?_,?_,?_⟩ <;> go_simp
theorem at3_keep {w1 w2:World}{b:Nat}{x:ByteArray}{d:Bool}{bv:Value}(h:at3 w1 b x d bv)(h2:Below w1.heap.size w1 w2):at3 w2 b x d bv:=⟨cell_keep h2 h.1,cell_keep h2 h.2.1,cell_keep h2 h.2.2⟩
def Nl (w:World)(v:Value)(l:List (List UInt8)):Prop:=∃ (ao:Option Addr) (cap:Nat),v=.slice ao l.length cap∧l.length≤cap∧cap≤maxLen∧(0 < l.length→∃ A,ao=some A∧∀ i (h:i < l.length),w.cell? (A.add i)=some (.string (bb l[i])))
theorem Nl.keep {w1 w2:World}{v:Value}{l:List (List UInt8)}(h:Nl w1 v l)(hb:Below w1.heap.size w1 w2):Nl w2 v l:=by
 obtain ⟨ao,cap,rfl,hc,hm,hA⟩:=h
 exact ⟨ao,cap,rfl,hc,hm,fun hn=>by obtain ⟨A,rfl,h2⟩:=hA hn;exact ⟨A,rfl,fun i hi=>cell_later' hb (h2 i hi)⟩⟩
theorem Nl.get {w:World}{ao:Option Addr}{n cap:Nat}{l:List (List UInt8)}(h:Nl w (.slice ao n cap) l){i:Nat}(hi:i < l.length):∃ A,ao=some A∧w.cell? (A.add i)=some (.string (bb l[i])):=by
 obtain ⟨ao',cap',e,_,_,hA⟩:=h
 cases e
 obtain ⟨A,rfl,h2⟩:=hA (by omega)
 exact ⟨A,rfl,h2 i hi⟩
def nmC (l:List (List UInt8)):List Value:=l.map fun x=>.string (bb x)
def Nrow (w:World)(B:Nat)(v:Value)(l:List (List UInt8)):Prop:=w.ownsRow B 9 1 v l.length (nmC l)
theorem Nrow.nl {w:World}{B:Nat}{v:Value}{l:List (List UInt8)}(h:Nrow w B v l):Nl w v l:=by
 have h0:=h
 rcases h.2 with ⟨rfl,hz⟩ | ⟨g,cap,cur,rfl,hg,hc,hcap,hm,h3⟩
 ·obtain rfl:l=[]:=List.eq_nil_of_length_eq_zero hz
  exact ⟨none,0,rfl,Nat.le_refl _,by decide,fun h=>absurd h (by simp)⟩
 ·refine ⟨some ⟨g,0,none⟩,cap,rfl,hcap,hm,fun _=>⟨_,rfl,fun i hi=>?_⟩⟩
  have c:=World.ownsRow.cells h0 (g:=g) rfl
  exact c i _ (by unfold nmC;rw [List.getElem?_map,List.getElem?_eq_getElem hi];rfl)
theorem bb_inj {a b:List UInt8}:bb a=bb b ↔ a=b:=by
 constructor
 ·intro h
  have:=congrArg (fun x:ByteArray=>x.data.toList) h
  simpa using this
 ·intro h;rw [h]
theorem info_s1:(Tryz.prog.info? 9).map (fun i=>(i.zero,i.size,i.bytes))=some (some (.string ⟨#[]⟩),1,16):=by kernel_rfl
theorem info_str1:∃ i,Tryz.prog.info? 9=some i∧i.zero=some (.string ⟨#[]⟩)∧i.size=1∧i.bytes=16:=by
 have h:=info_s1
 cases hq:Tryz.prog.info? 9 with
 | none=>rw [hq] at h;cases h
 | some i =>
  rw [hq] at h
  simp only [Option.map_some,Option.some.injEq,Prod.mk.injEq] at h
  exact ⟨i,rfl,h.1,h.2.1,h.2.2⟩
end Go.Proofs.YtgmidodmmlmmeaaGreatDoor.tre
