/-
  What attrsError and statementError of the landed tree return. Condition: a statement in memory.
  What the law's same of layer 7 returns: whether two lists of names are equal. Condition: the lists lie in memory.
  What Depth of the reference of layer 7 returns. Condition: a tree of at most 600 statements in memory.
  What is asked of the code of layer 7: each exported function answers as its plain function says. The statements' walks take it as a premise; a text of its own proves it. No condition.
  What walk of layer 7 does: it visits the statements of a list in preorder, each with its level, until the visitor says no. Conditions: at most 2000000000000 statements; the visitor keeps what walk itself reads (kind and body of each statement).
-/
import Derived.Test.YtgmidodmmlmmeaaGreatDoorMtc
namespace Go.Proofs.YtgmidodmmlmmeaaGreatDoor.tre
open Go.RowKit Go.Shelf lex
set_option maxRecDepth 100000 in
set_option maxHeartbeats 4000000 in
theorem samekey_of (b:Nat)(x:Pr)(w:World)(hc:w.cell? ⟨b,0,none⟩=some (.string (bb x.1))) :
    PredBelow Tryz.prog 194 #[.pointer (some ⟨b,0,none⟩)] (fun y:Pr=>.agg (prC y).toArray) (fun y=>decide (y.1=x.1)) w:=by
 intro W y hb
 have hc2:=cell_keep hb hc
 show Calls Tryz.prog 194 #[.agg #[.string (bb y.1),.string (bb y.2)],.pointer (some ⟨b,0,none⟩)] W fun e w'=>e=.returned (.bool (decide (y.1=x.1)))∧Below w.heap.size w w'
 obtain ⟨q,hq⟩:∃ q,decide (y.1=x.1)=q:=⟨_,rfl⟩
 obtain ⟨X,hX⟩:∃ X,bb x.1=X:=⟨_,rfl⟩
 obtain ⟨Y,hY⟩:∃ Y,bb y.1=Y:=⟨_,rfl⟩
 obtain ⟨Z,hZ⟩:∃ Z,bb y.2=Z:=⟨_,rfl⟩
 have he:(X.toList == Y.toList)=q:=by
  rw [← hX,← hY,ByteArray.toList_eq,ByteArray.toList_eq,← hq,Bool.eq_iff_iff,beq_iff_eq,decide_eq_true_eq];exact eq_comm
 rw [hX] at hc2
 rw [hq,hY,hZ]
 have hB:=below_keep (al1 W (.cells #[.string Y,.string Z] 69)) hb
 have hbl:=World.block_lt_of_cell? W _ hc2
 change b < W.heap.size at hbl
 have hbn:b≠W.heap.size:=by omega
 have HBL:=Lh hbl
 clear hX hY hZ hq hc hb
 go_enter Tryz.func194,Tryz.ntmps194
 go_wp2
 go_ret
 exact ⟨rfl,hB⟩
theorem al_att (w:World)(X Y:ByteArray):Below w.heap.size w (w.alloc (.cells #[.string X,.string Y] 69)):=al1 _ _
set_option maxRecDepth 100000 in
set_option maxHeartbeats 8000000 in
theorem att_of (s:St)(A:Addr)(R:Int)(w:World)(h:Hid (stAt w s A))(hR:Hid (attE s=R)) :
    Calls Tryz.prog 140 #[.pointer (some A)] w fun e w'=>e=.returned (.int .i64 R)∧Below w.heap.size w w':=by
 obtain ⟨c0,_,_,_,⟨av,c3,hav⟩,_⟩:=(stAt_eq _ _ _).1 h.out
 have hr:=hR.out
 unfold attE at hr
 obtain ⟨k0,hk0⟩:∃ q,s.kind=q:=⟨_,rfl⟩
 obtain ⟨a,ha⟩:∃ q,s.attrs=q:=⟨_,rfl⟩
 rw [hk0,ha] at hr
 rw [ha] at hav
 rw [hk0] at c0
 obtain ⟨so,sc,rfl,hcap,_,_⟩:=id hav
 have HAV:=Lh hav
 clear h hR hk0 ha hav
 by_cases h16:16 < a.length
 ·rw [if_pos h16] at hr
  subst hr
  have l1:(16:Int) < (a.length:Int):=by omega
  clear h16 HAV c0
  go_enter Tryz.func140,Tryz.ntmps140
  go_wp2
  go_ret
  exact ⟨rfl,Below.refl _ _⟩
 rw [if_neg h16] at hr
 have HR:=Lh hr
 have l1:¬ (16:Int) < (a.length:Int):=by omega
 have hal:a.length≤16:=by omega
 clear h16 hr
 go_enter Tryz.func140,Tryz.ntmps140
 go_wp2_with fail
 go_loopw [17] (fun iv wr=>∃ k:Nat,k≤a.length∧iv=.int .i64 k∧attL k0 (a.take k) (a.drop k)=R∧Below w.heap.size w wr) (fun iv _=>a.length - (intOf iv).toNat)
 case atStart=>exact ⟨0,Nat.zero_le _,rfl,HR.out,Below.refl _ _⟩
 case round =>
  obtain ⟨k,hk,rfl,hx,hBr⟩:=hrel
  rename World=>wr
  have HX:=Lh hx
  have c0:=cell_later' hBr c0
  have c3:=cell_later' hBr c3
  clear hx HR
  by_cases hlt:k < a.length
  ·obtain ⟨B,rfl,p0,p1,z2,z3⟩:=(HAV.out.keep hBr).get hlt
   have hcons:=HX.out
   rw [drop_pr hlt,attL_cons] at hcons
   obtain ⟨x,hxe⟩:∃ x,a[k]=x:=⟨_,rfl⟩
   rw [hxe] at p0 p1 z2 z3 hcons
   obtain ⟨X1,hX1⟩:∃ Y,bb x.1=Y:=⟨_,rfl⟩
   obtain ⟨X2,hX2⟩:∃ Y,bb x.2=Y:=⟨_,rfl⟩
   have d1:X1.data.toList=x.1:=by rw [← hX1]
   have d2:X2.data.toList=x.2:=by rw [← hX2]
   have s1:X1.size≤maxLen:=by rw [← b_size,d1];exact z2
   have s2:X2.size=x.2.length:=by rw [← b_size,d2]
   rw [hX1] at p0
   rw [hX2] at p1
   have hbq:=al_att wr X1 X2
   have hBq:=below_keep hbq hBr
   obtain ⟨v0,v1⟩:=at2_str wr X1 X2 69
   obtain ⟨nm,hnm⟩:∃ b,isNm x.1=b:=⟨_,rfl⟩
   obtain ⟨dp,hdp⟩:∃ b,(a.take k).any (fun y=>decide (y.1=x.1))=b:=⟨_,rfl⟩
   obtain ⟨pl,hpl⟩:∃ b,x.2.all isPl=b:=⟨_,rfl⟩
   have HNM:Hid (isNm X1.data.toList=nm):=Lh (by rw [d1];exact hnm)
   have HDP:=Lh hdp
   have HPL:Hid (X2.data.toList.all isPl=pl):=Lh (by rw [d2];exact hpl)
   have HS1:=Lh s1
   have HX1:=Lh hX1
   rw [hnm,hdp,hpl,← hxe,← take_pr hlt] at hcons
   have hs2:(X2.size:Int)=(x.2.length:Int):=by omega
   have hcons2:(if k0≠4∧nm=false then (5:Int) else if dp=true then 6 else if (32:Int) < (X2.size:Int) then 2 else if pl=false then 7 else attL k0 (a.take (k+1)) (a.drop (k+1)))=R:=by
    rw [← hcons]
    by_cases q:(32:Int) < (X2.size:Int)
    ·rw [if_pos q,if_pos (show 32 < a[k].2.length by rw [hxe];omega)]
    ·rw [if_neg q,if_neg (show ¬ 32 < a[k].2.length by rw [hxe];omega)]
   have HC:=Lh hcons2
   have i0:(0:Int)≤(k:Int):=by omega
   have i1:(k:Int) < (a.length:Int):=by omega
   have i2:(k:Int)≤(a.length:Int):=by omega
   have i3:(k:Int)≤(sc:Int):=by omega
   have g0:=cell_later' hbq c0
   have g3:=cell_later' hbq c3
   clear HX hX1 hX2 hnm d1 d2 z2 z3 s1 hxe hdp hpl hcons hcons2 hs2 s2 c0 c3
   have HPS:Hid (∀ W,Below (wr.alloc (.cells #[.string X1,.string X2] 69)).heap.size (wr.alloc (.cells #[.string X1,.string X2] 69)) W→∀ cap,Calls Tryz.prog 195 #[.slice (some B) k cap,.func (.func 194) #[] #[.pointer (some ⟨wr.heap.size,0,none⟩)]] W fun e w'=>e=.returned (.bool dp)∧Below W.heap.size W w'):=Lh (fun W hW cap=>by
    refine cfa_of (fun y=>decide (y.1=x.1)) _ _ (enters_of Tryz.func194 (by kernel_rfl) rfl) (some B) a.length k cap sc a dp W (Lh (samekey_of _ x W ?_)) (Lh (HAV.out.keep (below_keep hW hBq))) (by omega) (by omega) HDP
    rw [HX1.out];exact cell_keep hW v0)
   have hway:((k0 != 4)=false)∨((k0 != 4)=true∧nm=true)∨((k0 != 4)=true∧nm=false):=by
    cases (k0 != 4) <;> cases nm <;> simp
   have hr5:(k0 != 4)=true→nm=false→(5:Int)=R:=fun e f=>by
    have:=HC.out
    rw [if_pos ⟨by simpa using e,f⟩] at this;exact this
   have hr6:¬ ((k0 != 4)=true∧nm=false)→(if dp=true then (6:Int) else if (32:Int) < (X2.size:Int) then 2 else if pl=false then 7 else attL k0 (a.take (k+1)) (a.drop (k+1)))=R:=fun e=>by
    have:=HC.out
    rw [if_neg (fun f=>e ⟨by simpa using f.1,f.2⟩)] at this;exact this
   have HR5:=Lh hr5
   have HR6:=Lh hr6
   clear hr5 hr6 HC
   rcases hway with b4 | ⟨b4,rfl⟩ | ⟨b4,rfl⟩
   case inr.inr =>
    have HN:=Lh (HR5.out b4 rfl)
    obtain rfl:=HN.out
    go_wp2_with fail
    refine (isname_of _ _ _ HS1.out HNM).mono ?_
    rintro e w3 ⟨rfl,hb3⟩
    go_wp2
    go_ret
    exact ⟨rfl,below_keep hb3 hBq⟩
   case' inl =>
    have HQ:=Lh (HR6.out (by rw [b4];simp))
    go_wp2_with fail
    have hb3:=Below.refl (wr.alloc (.cells #[.string X1,.string X2] 69)).heap.size (wr.alloc (.cells #[.string X1,.string X2] 69))
    generalize hw3:wr.alloc (.cells #[.string X1,.string X2] 69)=wq at hb3 v0 v1 g0 g3 hBq HPS ⊢
    have hzz:wr.heap.size < wq.heap.size:=World.block_lt_of_cell? wq _ v0
    clear hw3
    refine (HPS.out wq hb3 _).mono ?_
   case' inr.inl =>
    have HQ:=Lh (HR6.out (by simp))
    go_wp2_with fail
    refine (isname_of _ _ _ HS1.out HNM).mono ?_
    rintro e w3 ⟨rfl,hb3⟩
    have hBq:=below_keep hb3 hBq
    have v0:=cell_keep hb3 v0
    have v1:=cell_keep hb3 v1
    have g0:=cell_later' hb3 g0
    have g3:=cell_later' hb3 g3
    go_wp2_with fail
    refine (HPS.out w3 hb3 _).mono ?_
   all_goals
    rintro e w4 ⟨rfl,hb4⟩
    have hB4:=below_keep hb4 hBq
    have v1:=cell_keep hb4 v1
    clear v0 g0 g3 HR5 HR6 HPS p0 p1
    cases dp
    case true =>
     have HN:Hid ((6:Int)=R):=Lh (by have:=HQ.out;rw [if_pos rfl] at this;exact this)
     obtain rfl:=HN.out
     go_wp2
     go_ret
     exact ⟨rfl,hB4⟩
    have HQ2:=Lh (show (if (32:Int) < (X2.size:Int) then (2:Int) else if pl=false then 7 else attL k0 (a.take (k+1)) (a.drop (k+1)))=R by have:=HQ.out;rw [if_neg Bool.false_ne_true] at this;exact this)
    by_cases h32:(32:Int) < (X2.size:Int)
    ·have HN:Hid ((2:Int)=R):=Lh (by have:=HQ2.out;rw [if_pos h32] at this;exact this)
     obtain rfl:=HN.out
     go_wp2
     go_ret
     exact ⟨rfl,hB4⟩
    have HQ3:=Lh (show (if pl=false then (7:Int) else attL k0 (a.take (k+1)) (a.drop (k+1)))=R by have:=HQ2.out;rw [if_neg h32] at this;exact this)
    cases pl
    ·have HN:Hid ((7:Int)=R):=Lh (by have:=HQ3.out;rw [if_pos rfl] at this;exact this)
     obtain rfl:=HN.out
     go_wp2_with fail
     refine (notpl_of _ _ _ HPL).mono ?_
     rintro e w5 ⟨rfl,hb5⟩
     go_wp2
     go_ret
     exact ⟨rfl,below_keep hb5 hB4⟩
    ·have HN:Hid (attL k0 (a.take (k+1)) (a.drop (k+1))=R):=Lh (by have:=HQ3.out;rw [if_neg (by simp)] at this;exact this)
     go_wp2_with fail
     refine (notpl_of _ _ _ HPL).mono ?_
     rintro e w5 ⟨rfl,hb5⟩
     go_wp2
     go_roundw
     case rel=>exact ⟨k+1,by omega,by go_num,HN.out,below_keep hb5 hB4⟩
     case measure=>simp [intOf];omega
  ·obtain rfl:k=a.length:=by omega
   have HN:Hid (R=0):=Lh (by have:=HX.out;rw [List.drop_length,attL_nil] at this;exact this.symm)
   obtain rfl:=HN.out
   go_wp2
   go_ret
   exact ⟨rfl,hBr⟩
end Go.Proofs.YtgmidodmmlmmeaaGreatDoor.tre
namespace Go.Proofs.YtgmidodmmlmmeaaGreatDoor.tre
open Go.RowKit lex
inductive Sa where
 | mk (s:St) (A:Addr) (bv:Value) (kids:List Sa)
def Sa.s:Sa→St | .mk s _ _ _=>s
def Sa.A:Sa→Addr | .mk _ A _ _=>A
def Sa.bv:Sa→Value | .mk _ _ v _=>v
def Sa.kids:Sa→List Sa | .mk _ _ _ k=>k
mutual
def preX:Sa→Int→List (Sa × Int)
 | .mk s A bv ks,lv=>(.mk s A bv ks,lv) :: preXL ks (if s.kind=5 then lv+1 else lv)
def preXL:List Sa→Int→List (Sa × Int)
 | [],_=>[]
 | x :: t,lv=>preX x lv ++ preXL t lv
end
mutual
def okX:Sa→Prop
 | .mk s _ bv ks=>ks.map Sa.s=s.body∧∃ ao cap,bv=.slice ao ks.length cap∧(0 < ks.length→∃ B,ao=some B∧okXL ks B 0)
def okXL:List Sa→Addr→Nat→Prop
 | [],_,_=>True
 | x :: t,B,i=>x.A=B.add (i*5)∧okX x∧okXL t B (i+1)
end
def SlX (v:Value)(ks:List Sa):Prop:=∃ ao cap,v=.slice ao ks.length cap∧(0 < ks.length→∃ B,ao=some B∧okXL ks B 0)
theorem okX_eq (x:Sa):okX x ↔ x.kids.map Sa.s=x.s.body∧SlX x.bv x.kids:=by cases x;rfl
theorem okXL_get {B:Addr}:∀ {l:List Sa} {i:Nat},okXL l B i→∀ j (h:j < l.length),l[j].A=B.add ((i+j)*5)∧okX l[j]:=by
 intro l
 induction l with
 | nil=>intro i _ j h;simp at h
 | cons s t ih =>
  intro i h j hj
  cases j with
  | zero=>exact ⟨h.1,h.2.1⟩
  | succ j =>
   have:=ih h.2.2 j (by simpa using hj)
   rw [show i+1+j=i+(j+1) by omega] at this
   exact this
theorem okXL_of {B:Addr}:∀ {l:List Sa} {i:Nat},(∀ j (h:j < l.length),l[j].A=B.add ((i+j)*5)∧okX l[j])→okXL l B i:=by
 intro l
 induction l with
 | nil=>intro i _;trivial
 | cons s t ih =>
  intro i h
  refine ⟨(h 0 (by simp)).1,(h 0 (by simp)).2,ih fun j hj=>?_⟩
  have:=h (j+1) (by simpa using hj)
  rw [show i+(j+1)=i+1+j by omega] at this
  exact this
theorem sa_rec {P:Sa→Prop}{Q:List Sa→Prop}(hS:∀ s A bv ks,Q ks→P (.mk s A bv ks))(h0:Q [])(h1:∀ s t,P s→Q t→Q (s :: t)):(∀ s,P s)∧∀ l,Q l :=
 ⟨fun s=>Sa.rec (motive_1:=P) (motive_2:=Q) (fun s A bv ks hb=>hS s A bv ks hb) h0 (fun s t hs ht=>h1 s t hs ht) s,
  fun l=>Sa.rec_1 (motive_1:=P) (motive_2:=Q) (fun s A bv ks hb=>hS s A bv ks hb) h0 (fun s t hs ht=>h1 s t hs ht) l⟩
theorem sa_ind {P:List Sa→Prop}(h:∀ l,(∀ x∈l,P x.kids)→P l)(l:List Sa):P l :=
 h l ((sa_rec (P:=fun x=>P x.kids) (Q:=fun l=>∀ x∈l,P x.kids) (fun _ _ _ ks hb=>h ks hb) (fun _ hx=>by cases hx) (fun s t hs ht x hx=>by
  rcases List.mem_cons.1 hx with rfl | hx
  ·exact hs
  ·exact ht x hx)).2 l)
theorem preXL_nil (lv:Int):preXL [] lv=[]:=rfl
theorem preXL_cons (x:Sa)(t:List Sa)(lv:Int):preXL (x :: t) lv=preX x lv ++ preXL t lv:=rfl
theorem preX_eq (x:Sa)(lv:Int):preX x lv=(x,lv) :: preXL x.kids (if x.s.kind=5 then lv+1 else lv):=by cases x;rfl
theorem preXL_app (a b:List Sa)(lv:Int):preXL (a ++ b) lv=preXL a lv ++ preXL b lv:=by
 induction a with
 | nil=>rfl
 | cons s t ih=>rw [List.cons_append,preXL_cons,preXL_cons,ih,List.append_assoc]
theorem preXL_map:(∀ x:Sa,okX x→∀ lv,(preX x lv).map (fun x=>(x.1.s,x.2))=preS x.s lv)∧∀ l:List Sa,(∀ x∈l,okX x)→∀ lv,(preXL l lv).map (fun x=>(x.1.s,x.2))=preL (l.map Sa.s) lv:=by
 refine sa_rec (fun s A bv ks hb h lv=>?_) (fun _ _=>rfl) (fun s t hs ht h lv=>?_)
 ·obtain ⟨h1,ao,cap,rfl,h2⟩:=h
  rw [preX_eq,preS_eq,List.map_cons]
  have hk:∀ x∈ks,okX x:=by
   intro x hx
   obtain ⟨i,hi,rfl⟩:=List.mem_iff_getElem.1 hx
   obtain ⟨B,rfl,h3⟩:=h2 (by omega)
   exact (okXL_get h3 i hi).2
  show (s,lv) :: List.map (fun x=>(x.1.s,x.2)) (preXL ks (if s.kind=5 then lv+1 else lv))=(s,lv) :: preL s.body (if s.kind=5 then lv+1 else lv)
  rw [hb hk,h1]
 ·rw [preXL_cons,List.map_append,hs (h s (by simp)),ht (fun x hx=>h x (by simp [hx]))]
  rfl
theorem SlX.ok {v:Value}{l:List Sa}(h:SlX v l):∀ x∈l,okX x:=by
 obtain ⟨ao,cap,rfl,h2⟩:=h
 intro x hx
 obtain ⟨i,hi,rfl⟩:=List.mem_iff_getElem.1 hx
 obtain ⟨B,rfl,h3⟩:=h2 (by omega)
 exact (okXL_get h3 i hi).2
theorem SlX.pre {v:Value}{l:List Sa}(h:SlX v l)(lv:Int):(preXL l lv).map (fun x=>(x.1.s,x.2))=preL (l.map Sa.s) lv:=preXL_map.2 l h.ok lv
theorem SlX.len {v:Value}{l:List Sa}(h:SlX v l)(lv:Int):(preXL l lv).length=cnt (l.map Sa.s):=by
 have:=congrArg List.length (h.pre lv)
 rw [List.length_map] at this
 rw [this];exact pre_len.2 _ _ _
def runL {X σ:Type}(f:X→σ→σ × Bool):List X→σ→σ × Bool
 | [],s=>(s,true)
 | x :: t,s=>if (f x s).2=true then runL f t (f x s).1 else f x s
theorem runL_app {X σ:Type}(f:X→σ→σ × Bool)(a b:List X)(s:σ):runL f (a ++ b) s=if (runL f a s).2=true then runL f b (runL f a s).1 else runL f a s:=by
 induction a generalizing s with
 | nil=>rfl
 | cons x t ih =>
  rw [List.cons_append]
  show (if (f x s).2=true then runL f (t ++ b) (f x s).1 else f x s)=_
  rw [show runL f (x :: t) s=if (f x s).2=true then runL f t (f x s).1 else f x s from rfl]
  by_cases h:(f x s).2=true
  ·rw [if_pos h,if_pos h,ih]
  ·rw [if_neg h,if_neg h,if_neg h]
theorem runL_stop {X σ:Type}{f:X→σ→σ × Bool}{a t:List X}{x:X}{s s' s1:σ}(h:runL f a s=(s',true))(hx:f x s'=(s1,false)):runL f (a ++ (x :: t)) s=(s1,false):=by
 rw [runL_app,h,if_pos rfl]
 show (if (f x s').2=true then runL f t (f x s').1 else f x s')=_
 rw [hx,if_neg Bool.false_ne_true]
theorem runL_kid {X σ:Type}{f:X→σ→σ × Bool}{a t:List X}{x:X}{s s' s1 s2:σ}{c:Bool}(h:runL f a s=(s',true))(hx:f x s'=(s1,true))(ht:runL f t s1=(s2,c)):runL f (a ++ (x :: t)) s=(s2,c):=by
 rw [runL_app,h,if_pos rfl]
 show (if (f x s').2=true then runL f t (f x s').1 else f x s')=_
 rw [hx,if_pos rfl,ht]
def skel (w:World)(x:Sa):Prop:=w.cell? x.A=some (.int .i64 x.s.kind)∧w.cell? ⟨x.A.block,x.A.off+4,none⟩=some x.bv
structure Visit (σ:Type) where
 f:Sa × Int→σ→σ × Bool
 I:σ→World→Prop
 In:Sa→Prop
 g:Nat
 lb:Array Value
 /-- So many more statements may come. -/
 Bd:σ→Nat→Prop
structure Visit.Ok {σ:Type}(V:Visit σ):Prop where
 eg:∀ args w,(callFunc V.g args).run Tryz.prog w=.ok (.enter V.g args) w
 kids:∀ x,V.In x→∀ y∈x.kids,V.In y
 skel:∀ s w,V.I s w→∀ x,V.In x→skel w x
 mono:∀ s m n,m≤n→V.Bd s n→V.Bd s m
 less:∀ x l s n,V.In x→V.Bd s (n+1)→V.Bd (V.f (x,l) s).1 n
 run:∀ (x:Sa) (l:Int) (s:σ) (W:World),V.In x→0≤l→l≤4000000000000→V.Bd s 1→V.I s W→Calls Tryz.prog V.g (#[.pointer (some x.A),.int .i64 l] ++ V.lb) W fun e w'=>e=.returned (.bool (V.f (x,l) s).2)∧V.I (V.f (x,l) s).1 w'
theorem run_bd {σ:Type}{V:Visit σ}(HV:V.Ok)(m:Nat):∀ (l:List (Sa × Int)) (s:σ),(∀ x∈l,V.In x.1)→V.Bd s (l.length+m)→(runL V.f l s).2=true→V.Bd (runL V.f l s).1 m:=by
 intro l
 induction l with
 | nil=>intro s _ h _;exact HV.mono _ _ _ (by simp) h
 | cons x t ih =>
  intro s hin h h2
  have e:runL V.f (x :: t) s=if (V.f x s).2=true then runL V.f t (V.f x s).1 else V.f x s:=rfl
  rw [e] at h2 ⊢
  by_cases q:(V.f x s).2=true
  ·rw [if_pos q] at h2 ⊢
   exact ih _ (fun y hy=>hin y (by simp [hy])) (HV.less x.1 x.2 s _ (hin x (by simp)) (by rw [List.length_cons] at h;rw [show t.length+m+1=t.length+1+m by omega];exact h)) h2
  ·rw [if_neg q] at h2;exact absurd h2 q
theorem preXL_in {P:Sa→Prop}(hP:∀ x,P x→∀ y∈x.kids,P y):(∀ x,P x→∀ lv,∀ y∈preX x lv,P y.1)∧∀ l,(∀ x∈l,P x)→∀ lv,∀ y∈preXL l lv,P y.1:=by
 refine sa_rec (fun s A bv ks hb h lv y hy=>?_) (fun _ _ y hy=>(by cases hy)) (fun s t hs ht h lv y hy=>?_)
 ·rw [preX_eq] at hy
  rcases List.mem_cons.1 hy with rfl | hy
  ·exact h
  ·exact hb (hP _ h) _ y hy
 ·rw [preXL_cons] at hy
  rcases List.mem_append.1 hy with hy | hy
  ·exact hs (h s (by simp)) lv y hy
  ·exact ht (fun x hx=>h x (by simp [hx])) lv y hy
def WalkAt {σ:Type}(V:Visit σ)(g:Nat)(lb:Array Value)(L:List Sa):Prop:=∀ (v:Value) (lv:Int) (s:σ) (w:World) (R:σ) (b:Bool),Hid (SlX v L)→Hid (∀ x∈L,V.In x)→0≤lv→lv+cnt (L.map Sa.s)≤4000000000000→cnt (L.map Sa.s)≤2000000000000→Hid (V.Bd s (cnt (L.map Sa.s)))→Hid (V.I s w)→Hid (runL V.f (preXL L lv) s=(R,b)) →
 Calls Tryz.prog 74 #[v,.int .i64 lv,.func (.func g) #[] lb] w fun e w'=>e=.returned (.bool b)∧V.I R w'
theorem WalkAt.use {σ:Type}{V:Visit σ}{g:Nat}{lb:Array Value}{L:List Sa}(h:Hid (WalkAt V g lb L)){v:Value}{lv:Int}{s:σ}{w:World}{R:σ}{b:Bool}(h1:Hid (SlX v L))(h2:Hid (∀ x∈L,V.In x))(h3:0≤lv)(h4:lv+cnt (L.map Sa.s)≤4000000000000)(h5:cnt (L.map Sa.s)≤2000000000000)(hbd:Hid (V.Bd s (cnt (L.map Sa.s))))(h6:Hid (V.I s w))(h7:Hid (runL V.f (preXL L lv) s=(R,b))) :
    Calls Tryz.prog 74 #[v,.int .i64 lv,.func (.func g) #[] lb] w fun e w'=>e=.returned (.bool b)∧V.I R w':=h.out v lv s w R b h1 h2 h3 h4 h5 hbd h6 h7
def WalkOk {σ:Type}(V:Visit σ)(L:List Sa):Prop:=WalkAt V V.g V.lb L
theorem len_cnt (l:List St):l.length≤cnt l:=by
 induction l with
 | nil=>simp
 | cons s t ih=>rw [cnt_cons,List.length_cons];omega
theorem cnt_takeX {l:List Sa}{k:Nat}(h:k < l.length)(hx:l[k].kids.map Sa.s=l[k].s.body):cnt ((l.take k).map Sa.s)+1+cnt (l[k].kids.map Sa.s)≤cnt (l.map Sa.s)∧l.take (k+1)=l.take k ++ [l[k]]:=by
 have h2:k < (l.map Sa.s).length:=by rw [List.length_map];exact h
 have:=cnt_take h2
 have e:l.take (k+1)=l.take k ++ [l[k]]:=by rw [List.take_add_one,List.getElem?_eq_getElem h];rfl
 refine ⟨?_,e⟩
 rw [hx,List.map_take]
 have e2:(l.map Sa.s)[k].body=l[k].s.body:=by rw [List.getElem_map]
 rw [e2] at this
 exact this.1
set_option maxRecDepth 100000 in
set_option maxHeartbeats 8000000 in
theorem walk_step {σ:Type}(V:Visit σ)(HV:V.Ok)(L:List Sa)(ih:∀ x∈L,WalkOk V x.kids):WalkOk V L:=by
 intro v lv s w R b HS HIn h0 h1 h2 HBD HI HR
 obtain ⟨ao,cap,rfl,_⟩:=id HS.out
 have IH:=Lh ih
 have eg:=HV.eg
 have hlm:L.length≤2000000000000:=by have:=len_cnt (L.map Sa.s);rw [List.length_map] at this;omega
 clear ih
 obtain ⟨g,hg⟩:∃ g,V.g=g:=⟨_,rfl⟩
 obtain ⟨lb,hlb⟩:∃ lb,V.lb=lb:=⟨_,rfl⟩
 have hrun:=HV.run
 rw [hg] at eg hrun ⊢
 rw [hlb] at hrun ⊢
 have HRUN:=Lh hrun
 clear hrun
 go_enter Tryz.func74,Tryz.ntmps74
 go_wp2_with fail
 go_loopw [12] (fun iv wr=>∃ (k:Nat) (s':σ),iv=.int .i64 k∧k≤L.length∧V.Bd s' (cnt ((L.drop k).map Sa.s))∧V.I s' wr∧runL V.f (preXL (L.take k) lv) s=(s',true)) (fun iv _=>L.length - (intOf iv).toNat)
 case atStart=>exact ⟨0,s,rfl,Nat.zero_le _,HBD.out,HI.out,rfl⟩
 case round =>
  obtain ⟨k,s',rfl,hk,hbd,hI,hrl⟩:=hrel
  rename World=>wr
  have HIr:=Lh hI
  have HRL:=Lh hrl
  have HBk:=Lh hbd
  clear hI hrl hbd HBD
  by_cases hlt:k < L.length
  ·have hx:=List.getElem_mem hlt
   have hok:=HS.out.ok _ hx
   obtain ⟨_,_,e,hA⟩:=HS.out
   cases e
   obtain ⟨B,rfl,hXL⟩:=hA (by omega)
   obtain ⟨hAd,_⟩:=okXL_get hXL k hlt
   rw [Nat.zero_add] at hAd
   obtain ⟨hct,htk⟩:=cnt_takeX hlt ((okX_eq _).1 hok).1
   have HPL:Hid (preXL (L.take (k+1)) lv=preXL (L.take k) lv ++ ((L[k],lv) :: preXL L[k].kids (if L[k].s.kind=5 then lv+1 else lv))):=Lh (by
    rw [htk,preXL_app,preXL_cons,preXL_nil,List.append_nil,preX_eq])
   have HPA:Hid (preXL L lv=preXL (L.take (k+1)) lv ++ preXL (L.drop (k+1)) lv):=Lh (by rw [← preXL_app,List.take_append_drop])
   have hIn:=HIn.out _ hx
   have hdr:cnt ((L.drop k).map Sa.s)=cnt (L[k].kids.map Sa.s)+cnt ((L.drop (k+1)).map Sa.s)+1:=by
    rw [List.drop_eq_getElem_cons hlt,List.map_cons,cnt_cons,((okX_eq _).1 hok).1];omega
   have hbk:=HBk.out
   rw [hdr] at hbk
   have hk0:=HV.skel _ _ HIr.out _ hIn
   have hw:WalkAt V g lb L[k].kids:=by rw [← hg,← hlb];exact IH.out _ hx
   have hkid:=HV.kids _ hIn
   have hsl:=((okX_eq _).1 hok).2
   obtain ⟨x,hxe⟩:∃ x,L[k]=x:=⟨_,rfl⟩
   rw [hxe] at hAd hct HPL hIn hk0 hw hkid hsl hbk
   have HW:=Lh hw
   have HKID:=Lh hkid
   have HSL:=Lh hsl
   have HIN:=Lh hIn
   clear hx hok hA hXL hw hkid hsl hIn hxe htk IH HIn HS HI hdr HBk
   have hb1:=HV.mono s' 1 _ (by omega) hbk
   have hbl:=HV.less x lv s' _ HIN.out hbk
   have hkin:=(preXL_in HV.kids).2 x.kids HKID.out
   have hplen:=HSL.out.len
   obtain ⟨k0,k4⟩:=hk0
   rw [hAd] at k0 k4
   have z0:(0:Int)≤(k:Int):=by omega
   have z1:(k:Int) < (L.length:Int):=by omega
   obtain ⟨p,hp⟩:∃ p,V.f (x,lv) s'=p:=⟨_,rfl⟩
   obtain ⟨s1,b1⟩:=p
   have hc:=HRUN.out x lv s' wr HIN.out h0 (by omega) hb1 HIr.out
   rw [hp,hAd] at hc
   rw [hp] at hbl
   simp only at hbl
   have HC:=Lh hc
   have HP:=Lh hp
   have HAD:=Lh hAd
   clear hc hp hAd
   obtain ⟨lw,hlw⟩:∃ q:Int,(if x.s.kind=5 then lv+1 else lv)=q:=⟨_,rfl⟩
   rw [hlw] at HPL
   have hl0:0≤lw:=by rw [← hlw];split <;> omega
   have hl1:lw+cnt (x.kids.map Sa.s)≤4000000000000:=by rw [← hlw];split <;> omega
   have hcb:cnt (x.kids.map Sa.s)≤2000000000000:=by omega
   have hway:((x.s.kind == 5)=true∧lw=lv+1)∨((x.s.kind == 5)=false∧lv=lw):=by
    by_cases h5:x.s.kind=5
    ·rw [if_pos h5] at hlw;exact Or.inl ⟨by rw [beq_iff_eq];exact h5,hlw.symm⟩
    ·rw [if_neg h5] at hlw;exact Or.inr ⟨by rw [beq_eq_false_iff_ne];exact h5,hlw⟩
   obtain ⟨q,hq⟩:∃ q,runL V.f (preXL x.kids lw) s1=q:=⟨_,rfl⟩
   obtain ⟨s2,c⟩:=q
   have HQ:=Lh hq
   have HBK:Hid (V.Bd s1 (cnt (x.kids.map Sa.s))):=Lh (HV.mono _ _ _ (by omega) hbl)
   have HBN:Hid (c=true→V.Bd s2 (cnt ((L.drop (k+1)).map Sa.s))):=Lh (fun hc2=>by
    have:=run_bd HV (cnt ((L.drop (k+1)).map Sa.s)) (preXL x.kids lw) s1 (hkin lw) (by rw [hplen];exact hbl) (by rw [hq];exact hc2)
    rw [hq] at this
    exact this)
   clear hlw hq hct hbk hb1 hbl hkin hplen
   cases b1
   ·have hfin:Hid (R=s1∧b=false):=Lh (by
      have:=HR.out
      rw [HPA.out,HPL.out,runL_app,runL_stop HRL.out HP.out,if_neg Bool.false_ne_true] at this
      exact ⟨(Prod.mk.inj this).1.symm,(Prod.mk.inj this).2.symm⟩)
    rcases hway with ⟨b5,rfl⟩ | ⟨b5,rfl⟩
    all_goals
     go_wp2_with fail
     refine HC.out.mono ?_
     rintro e w1 ⟨rfl,hI1⟩
     clear b5 hl0 hl1 z0 z1 k0 k4
     go_wp2_with fail
     go_ret
     obtain ⟨rfl,rfl⟩:=hfin.out
     exact ⟨rfl,hI1⟩
   ·cases c
    ·have hfin:Hid (R=s2∧b=false):=Lh (by
       have:=HR.out
       rw [HPA.out,HPL.out,runL_app,runL_kid HRL.out HP.out HQ.out,if_neg Bool.false_ne_true] at this
       exact ⟨(Prod.mk.inj this).1.symm,(Prod.mk.inj this).2.symm⟩)
     rcases hway with ⟨b5,rfl⟩ | ⟨b5,rfl⟩
     all_goals
      go_wp2_with fail
      refine HC.out.mono ?_
      rintro e w1 ⟨rfl,hI1⟩
      have hs1:=HV.skel _ _ hI1 _ HIN.out
      have HI1:=Lh hI1
      clear hI1 k0 k4 b5
      obtain ⟨j0,j4⟩:=hs1
      rw [HAD.out] at j0 j4
      go_wp2_with fail
      with_reducible refine (WalkAt.use HW HSL HKID hl0 hl1 hcb HBK HI1 HQ).mono ?_
      rintro e w2 ⟨rfl,hI2⟩
      clear j0 j4 hl0 hl1
      go_wp2_with fail
      go_ret
      obtain ⟨rfl,rfl⟩:=hfin.out
      exact ⟨rfl,hI2⟩
    ·rcases hway with ⟨b5,rfl⟩ | ⟨b5,rfl⟩
     all_goals
      go_wp2_with fail
      refine HC.out.mono ?_
      rintro e w1 ⟨rfl,hI1⟩
      have hs1:=HV.skel _ _ hI1 _ HIN.out
      have HI1:=Lh hI1
      clear hI1 k0 k4 b5
      obtain ⟨j0,j4⟩:=hs1
      rw [HAD.out] at j0 j4
      go_wp2_with fail
      with_reducible refine (WalkAt.use HW HSL HKID hl0 hl1 hcb HBK HI1 HQ).mono ?_
      rintro e w2 ⟨rfl,hI2⟩
      clear j0 j4 hl0 hl1
      go_wp2_with fail
      go_roundw
      case rel=>exact ⟨k+1,s2,by go_num,by omega,HBN.out trivial,hI2,by rw [HPL.out];exact runL_kid HRL.out HP.out HQ.out⟩
      case measure=>simp [intOf];omega
  ·obtain rfl:k=L.length:=by omega
   have HL:Hid (L.take L.length=L):=Lh (List.take_length)
   have hfin:Hid (R=s'∧b=true):=Lh (by
    have:=HR.out
    rw [← HL.out,HRL.out] at this
    exact ⟨(Prod.mk.inj this).1.symm,(Prod.mk.inj this).2.symm⟩)
   go_wp2
   go_ret
   obtain ⟨rfl,rfl⟩:=hfin.out
   exact ⟨rfl,HIr.out⟩
theorem walk_of {σ:Type}(V:Visit σ)(HV:V.Ok)(L:List Sa):WalkOk V L:=sa_ind (walk_step V HV) L
end Go.Proofs.YtgmidodmmlmmeaaGreatDoor.tre
