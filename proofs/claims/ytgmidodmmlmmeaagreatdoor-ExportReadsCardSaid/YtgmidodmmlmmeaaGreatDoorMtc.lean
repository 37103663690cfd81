/-
  What Equal of the reference of layer 7 returns. Condition: trees in memory.
  What IsName of the landed lexer returns, for a program that calls nothing else of the lexer. Condition: the text's length.
  The library's slices.Equal, slices.ContainsFunc and slices.Clone at the structs of a tree. Conditions: slices in memory; lengths where a copy is made.
  What hasNames, attrsError and statementError of the landed tree return. Condition: a statement in memory.
-/
import Derived.Test.YtgmidodmmlmmeaaGreatDoorMtb
import Derived.Test.YtgmidodmmlmmeaaGreatDoorChecked
import Derived.Test.YtgmidodmmlmmeaaGreatDoorMxa
import Derived.Shelf.SlicesE.Clone
import Derived.Shelf.SlicesQ.Equal
import Derived.Shelf.SlicesQ.IndexFunc
namespace Go.Proofs.YtgmidodmmlmmeaaGreatDoor.tre
open Go.RowKit lex
theorem eq_ok (l:List St):EqOk l:=lst_ind eq_step l
set_option maxRecDepth 100000 in
set_option maxHeartbeats 8000000 in
theorem requal_of (v v':Value)(S T:Tr)(R:Bool)(w:World)(hS:Hid (TrV w v S))(hT:Hid (TrV w v' T))(hR:Hid (eqT S T=R)) :
    Calls Tryz.prog 12 #[v,v'] w fun e w'=>e=.returned (.bool R)∧Below w.heap.size w w':=by
 obtain ⟨bv,rfl,-,hs⟩:=hS.out
 obtain ⟨bv',rfl,-,ht⟩:=hT.out
 have hr:=hR.out
 unfold eqT at hr
 obtain ⟨X,hX⟩:∃ X,bb S.name=X:=⟨_,rfl⟩
 obtain ⟨Y,hY⟩:∃ Y,bb T.name=Y:=⟨_,rfl⟩
 have hX2:X.toList=S.name:=by rw [← hX,ByteArray.toList_eq]
 have hY2:Y.toList=T.name:=by rw [← hY,ByteArray.toList_eq]
 rw [hX,hY]
 obtain ⟨d,hd⟩:∃ d,S.dir=d:=⟨_,rfl⟩
 obtain ⟨d',hd'⟩:∃ d,T.dir=d:=⟨_,rfl⟩
 rw [hd,hd'] at hr ⊢
 have hB1:=al1 w (.cells #[.string X,.bool d,bv] 33)
 have hB:=hB1.alloc (by simp) (.cells #[.string Y,.bool d',bv'] 33)
 have HS:=Lh (hs.keep hB)
 have HT:=Lh (ht.keep hB)
 obtain ⟨q,hq⟩:∃ q,eqL S.body T.body=q:=⟨_,rfl⟩
 have HQ:=Lh hq
 rw [hq] at hr
 have HR:=Lh hr
 obtain ⟨n,hn⟩:∃ n,decide (S.name=T.name)=n:=⟨_,rfl⟩
 rw [hn] at hr
 have hxy:(X.toList == Y.toList)=n:=by rw [hX2,hY2,← hn,Bool.eq_iff_iff];simp
 have HRN:Hid ((n && (d == d') && q)=R):=Lh hr
 have hc0:=at3_keep (at3_new w X d bv 33) (al1 (w.alloc (.cells #[.string X,.bool d,bv] 33)) (.cells #[.string Y,.bool d',bv'] 33))
 have hc1:=at3_new (w.alloc (.cells #[.string X,.bool d,bv] 33)) Y d' bv' 33
 rw [World.size_alloc] at hc1
 obtain ⟨c0,c1,c2⟩:=hc0
 obtain ⟨e0,e1,e2⟩:=hc1
 clear hS hT hR hs ht hX hY hX2 hY2 hd hd' hq hn hr HR hB1
 cases n
 ·have HN:Hid (R=false):=Lh (by rw [← HRN.out];rfl)
  obtain rfl:=HN.out
  go_enter Tryz.func12,Tryz.ntmps12
  go_wp2
  go_ret
  exact ⟨rfl,hB⟩
 ·cases d <;> cases d'
  case true.false.true =>
   have HN:Hid (R=false):=Lh (by rw [← HRN.out];rfl)
   obtain rfl:=HN.out
   go_enter Tryz.func12,Tryz.ntmps12
   go_wp2
   go_ret
   exact ⟨rfl,hB⟩
  case true.true.false =>
   have HN:Hid (R=false):=Lh (by rw [← HRN.out];rfl)
   obtain rfl:=HN.out
   go_enter Tryz.func12,Tryz.ntmps12
   go_wp2
   go_ret
   exact ⟨rfl,hB⟩
  all_goals
   have HN:Hid (q=R):=Lh (by rw [← HRN.out];rfl)
   obtain rfl:=HN.out
   go_enter Tryz.func12,Tryz.ntmps12
   go_wp2_with (go_at_call 38;refine (eq_ok S.body T.body _ _ _ q HS.out HT.out HQ.out).mono ?_;rintro e w5 ⟨rfl,hb5⟩)
   go_ret
   exact ⟨rfl,below_keep hb5 hB⟩
end Go.Proofs.YtgmidodmmlmmeaaGreatDoor.tre
namespace Go.Proofs.YtgmidodmmlmmeaaGreatDoor
end Go.Proofs.YtgmidodmmlmmeaaGreatDoor
namespace Go.Proofs.YtgmidodmmlmmeaaGreatDoor.tre
open Go.RowKit Go.Shelf lex
theorem spot_none {w:World}{A:Addr}{v:Value}(h:w.cell? A=some v):A=⟨A.block,A.off,none⟩:=by
 obtain ⟨b,o,s⟩:=A
 cases s with
 | none=>rfl
 | some x=>unfold World.cell? at h;simp only at h;split at h <;> simp at h
abbrev prC (r:Pr):List Value:=[.string (bb r.1),.string (bb r.2)]
theorem add_at (b o j:Nat):(⟨b,o,none⟩:Addr).add j=⟨b,o+j,none⟩:=by
 unfold Addr.add;split
 ·subst_vars;rfl
 ·rfl
theorem Prs.at {w:World}{ao:Option Addr}{n cap:Nat}{l:List Pr}(h:Prs w (.slice ao n cap) l)(hl:0 < l.length) :
    n=l.length∧∃ b o,ao=some ⟨b,o,none⟩∧b < w.heap.size∧∀ j,j < l.length→∀ i v,(prC l[j]!)[i]?=some v→w.cell? ⟨b,o+j*2+i,none⟩=some v:=by
 obtain ⟨ao',cap',e,_,_,hA⟩:=h
 cases e
 obtain ⟨A,rfl,h2⟩:=hA hl
 have h0:=(h2 0 hl).1
 rw [Nat.zero_mul,show A.add 0=A by unfold Addr.add;rw [if_pos rfl]] at h0
 have hs:=spot_none h0
 obtain ⟨b,o,q⟩:=A
 simp only [Addr.mk.injEq,true_and] at hs
 subst hs
 refine ⟨rfl,b,o,rfl,World.block_lt_of_cell? w _ h0,fun j hj i v hv=>?_⟩
 obtain ⟨p0,p1,_⟩:=h2 j hj
 rw [add_at] at p0 p1
 rw [getElem!_pos l j hj] at hv
 match i,hv with
 | 0,hv=>obtain rfl:=Option.some.inj hv;exact p0
 | 1,hv=>obtain rfl:=Option.some.inj hv;exact p1
 | (i+2),hv=>simp at hv
def lays_cf_ren:Go.Shelf.Ren:=⟨fun | 6=>248 | 8=>195 | n=>n,fun | 0=>0 | 3=>3 | 4=>4 | 22=>65 | 25=>260 | 23=>69 | n=>n,fun | n=>n⟩
theorem lays_cf:Go.Proofs.SlLaysH0.n8 Tryz.prog lays_cf_ren:={
 mixed:=by kernel_rfl
 f6:=⟨Tryz.f248.name,by decide,Tryz.func248.trans (congrArg some (by kernel_rfl))⟩
 f8:=⟨Tryz.f195.name,by decide,Tryz.func195.trans (congrArg some (by kernel_rfl))⟩
 t0:=Tryz.underlying0
 a0:=Tryz.isAgg0
 z0:=Tryz.sizeOf0
 v0:=Tryz.zeroValue0
 t3:=Tryz.underlying3
 a3:=Tryz.isAgg3
 z3:=Tryz.sizeOf3
 v3:=Tryz.zeroValue3
 t4:=Tryz.underlying4
 a4:=Tryz.isAgg4
 z4:=Tryz.sizeOf4
 v4:=Tryz.zeroValue4
 t22:=Tryz.underlying65
 a22:=Tryz.isAgg65
 z22:=Tryz.sizeOf65
 v22:=Tryz.zeroValue65
 t25:=Tryz.underlying260
 a25:=Tryz.isAgg260
 z25:=Tryz.sizeOf260
 v25:=Tryz.zeroValue260 }
theorem cfa_of (p:Pr→Bool)(g:Nat)(lb:Array Value)(eg:∀ args w,(callFunc g args).run Tryz.prog w=.ok (.enter g args) w)(ao:Option Addr)(n0 k cap cap0:Nat)(l:List Pr)(R:Bool)(w:World)
    (hp:Hid (PredBelow Tryz.prog g lb (fun x=>.agg (prC x).toArray) p w)) (h:Hid (Prs w (.slice ao n0 cap0) l)) (hk:k≤l.length) (h0:0 < l.length) (hR:Hid ((l.take k).any p=R)) :
    Calls Tryz.prog 195 #[.slice ao k cap,.func (.func g) #[] lb] w fun e w'=>e=.returned (.bool R)∧Below w.heap.size w w':=by
 obtain ⟨_,cap',e,hc,hm,_⟩:=id h.out
 cases e
 unfold maxLen at hm
 obtain ⟨_,b,o,rfl,hb,hcl⟩:=h.out.at h0
 have:=AnyQ.slices_ContainsFunc lays_cf 2 Tryz.isAgg69 Tryz.sizeOf69 prC (fun _=>rfl) p g lb eg b o k cap l w hp.out hk (by omega) hb hcl
 rw [hR.out] at this
 exact this
def npN (x:Nat):Bool:=!plN x
theorem pl_by:ByBytes plN isPl:=⟨fun b _=>rfl,false,fun r h=>by simp [plN];omega,fun b h=>by simp [isPl];omega⟩
theorem idx_not (s:ByteArray):∀ (f pos:Nat),Lib.idxFuncFrom npN true s f pos=Lib.idxFuncFrom plN false s f pos:=by
 intro f
 induction f with
 | zero=>intro pos;rfl
 | succ f ih =>
  intro pos
  unfold Lib.idxFuncFrom
  rw [ih]
  cases h:plN (Utf8.decode s pos).1 <;> simp [npN,h]
theorem tw_all (q:UInt8→Bool)(l:List UInt8):(l.takeWhile q).length=l.length ↔ l.all q=true:=by
 induction l with
 | nil=>simp
 | cons a t ih =>
  rw [List.takeWhile_cons,List.all_cons]
  cases h:q a
  ·simp
  ·simp only [if_true,List.length_cons,Bool.true_and]
   exact ⟨fun e=>ih.1 (by omega),fun e=>by have:=ih.2 e;omega⟩
theorem np_idx (s:ByteArray):decide (0≤Lib.idxFunc npN true s)=!(s.data.toList.all isPl):=by
 have h:=idx_from pl_by s s.size 0 (by omega) (Nat.zero_le _)
 unfold Lib.idxFunc
 rw [idx_not,h,List.drop_zero]
 have hw:=tw_all isPl s.data.toList
 rw [b_size] at hw
 by_cases ha:s.data.toList.all isPl=true
 ·rw [if_pos (by have:=hw.2 ha;omega),ha];rfl
 ·rw [if_neg (by intro e;exact ha (hw.1 (by omega)))]
  simp only [Bool.not_eq_true] at ha
  rw [ha,decide_eq_true (by omega)];rfl
theorem notpl_any (x:Nat)(w:World):Calls Tryz.prog 197 #[.int .i32 (x:Int)] w fun e w'=>e=.returned (.bool (npN x))∧w=w':=by
 go_enter Tryz.func197,Tryz.ntmps197
 go_wp2
 all_goals go_ret
 all_goals refine ⟨ret_bool ?_,rfl⟩
 all_goals (unfold npN plN;rw [Bool.eq_iff_iff];simp;omega)
theorem notpl_of (s:ByteArray)(r:Bool)(w:World)(hr:Hid (s.data.toList.all isPl=r)) :
    Calls Tryz.prog 196 #[.string s,.func (.func 197) #[] #[]] w fun e w'=>e=.returned (.bool (!r))∧Below w.heap.size w w':=by
 have:=Tryz.strings_ContainsFunc_runes 197 #[] (enters_of Tryz.func197 (by kernel_rfl) rfl) npN s w (runes_of notpl_any w)
 rw [np_idx,hr.out] at this
 exact this
def namesB (s:St):Bool:=(if s.kind=1∨s.kind=4∨s.kind=5 then isNm s.name else true) && s.refs.all refB
theorem al_ref (w:World)(X Y:ByteArray):Below w.heap.size w (w.alloc (.cells #[.string X,.string Y] 121)):=al1 _ _
set_option maxRecDepth 100000 in
set_option maxHeartbeats 8000000 in
theorem names_ok (s:St)(A:Addr)(R:Bool)(w:World)(h:Hid (stAt w s A))(hR:Hid (namesB s=R)) :
    Calls Tryz.prog 139 #[.pointer (some A)] w fun e w'=>e=.returned (.bool R)∧Below w.heap.size w w':=by
 obtain ⟨c0,c1,hnm,⟨rv,c2,hrv⟩,_⟩:=(stAt_eq _ _ _).1 h.out
 obtain ⟨k,hk⟩:∃ k,s.kind=k:=⟨_,rfl⟩
 obtain ⟨r,hr⟩:∃ r,s.refs=r:=⟨_,rfl⟩
 obtain ⟨X,hX⟩:∃ X,bb s.name=X:=⟨_,rfl⟩
 have hXd:X.data.toList=s.name:=by rw [← hX]
 have HZ:Hid (X.size≤maxLen):=Lh (by rw [← b_size,hXd];exact hnm)
 obtain ⟨nm,hnv⟩:∃ q,isNm s.name=q:=⟨_,rfl⟩
 have HNM:Hid (isNm X.data.toList=nm):=Lh (by rw [hXd];exact hnv)
 have hR2:=hR.out
 unfold namesB at hR2
 rw [hk,hr,hnv] at hR2
 rw [hk] at c0
 rw [hX] at c1
 rw [hr] at hrv
 obtain ⟨ro,rc,rfl,_,hrl,_⟩:=id hrv
 unfold maxLen at hrl
 have hrl:r.length≤9223372036854775807:=by omega
 have HRV:=Lh hrv
 clear h hR hk hr hX hXd hnm hnv hrv
 have hw:((k == 1)=true∨((k == 1)=false∧(k == 4)=true)∨((k == 1)=false∧(k == 4)=false∧(k == 5)=true))∧(nm && r.all refB)=R∨((k == 1)=false∧(k == 4)=false∧(k == 5)=false)∧r.all refB=R:=by
  by_cases h1:k=1
  ·exact Or.inl ⟨Or.inl (by simp [h1]),by rw [if_pos (Or.inl h1)] at hR2;exact hR2⟩
  by_cases h4:k=4
  ·exact Or.inl ⟨Or.inr (Or.inl ⟨by simp [h1],by simp [h4]⟩),by rw [if_pos (Or.inr (Or.inl h4))] at hR2;exact hR2⟩
  by_cases h5:k=5
  ·exact Or.inl ⟨Or.inr (Or.inr ⟨by simp [h1],by simp [h4],by simp [h5]⟩),by rw [if_pos (Or.inr (Or.inr h5))] at hR2;exact hR2⟩
  ·exact Or.inr ⟨⟨by simp [h1],by simp [h4],by simp [h5]⟩,by rw [if_neg (by omega)] at hR2;simpa using hR2⟩
 clear hR2
 have hw2:(∃ kk:Unit,(k == 1)=true∧nm=true∧r.all refB=R)∨(∃ kk:Unit,((k == 1)=false∧(k == 4)=true)∧nm=true∧r.all refB=R)∨(∃ kk:Unit,((k == 1)=false∧(k == 4)=false∧(k == 5)=true)∧nm=true∧r.all refB=R)∨(((k == 1)=true∨((k == 1)=false∧(k == 4)=true)∨((k == 1)=false∧(k == 4)=false∧(k == 5)=true))∧nm=false∧R=false)∨(((k == 1)=false∧(k == 4)=false∧(k == 5)=false)∧r.all refB=R):=by
  rcases hw with ⟨a,b⟩ | b
  ·cases nm
   ·exact Or.inr (Or.inr (Or.inr (Or.inl ⟨a,rfl,b.symm⟩)))
   ·rcases a with a | a | a
    ·exact Or.inl ⟨(),a,rfl,b⟩
    ·exact Or.inr (Or.inl ⟨(),a,rfl,b⟩)
    ·exact Or.inr (Or.inr (Or.inl ⟨(),a,rfl,b⟩))
  ·exact Or.inr (Or.inr (Or.inr (Or.inr b)))
 clear hw
 rcases hw2 with ⟨_,k1,rfl,hall⟩ | ⟨_,⟨k1,k4⟩,rfl,hall⟩ | ⟨_,⟨k1,k4,k5⟩,rfl,hall⟩ | ⟨hka,rfl,rfl⟩ | ⟨⟨k1,k4,k5⟩,hall⟩
 case inr.inr.inr.inl =>
  rcases hka with k1 | ⟨k1,k4⟩ | ⟨k1,k4,k5⟩
  all_goals
   go_enter Tryz.func139,Tryz.ntmps139
   go_wp2_with fail
   refine (isname_of _ _ _ HZ.out HNM).mono ?_
   rintro e w2 ⟨rfl,hb2⟩
   go_wp2
   go_ret
   exact ⟨rfl,hb2⟩
 case' inr.inr.inr.inr =>
  have hB2:Below w.heap.size w w:=Below.refl _ _
  have HALL:=Lh hall
  clear hall
  go_enter Tryz.func139,Tryz.ntmps139
  go_wp2_with fail
 case' inl =>
  have HALL:=Lh hall
  clear hall
  go_enter Tryz.func139,Tryz.ntmps139
  go_wp2_with fail
  refine (isname_of _ _ _ HZ.out HNM).mono ?_
  rintro e w2 ⟨rfl,hB2⟩
  have c2:=cell_later' hB2 c2
  go_wp2_with fail
 case' inr.inl =>
  have HALL:=Lh hall
  clear hall
  go_enter Tryz.func139,Tryz.ntmps139
  go_wp2_with fail
  refine (isname_of _ _ _ HZ.out HNM).mono ?_
  rintro e w2 ⟨rfl,hB2⟩
  have c2:=cell_later' hB2 c2
  go_wp2_with fail
 case' inr.inr.inl =>
  have HALL:=Lh hall
  clear hall
  go_enter Tryz.func139,Tryz.ntmps139
  go_wp2_with fail
  refine (isname_of _ _ _ HZ.out HNM).mono ?_
  rintro e w2 ⟨rfl,hB2⟩
  have c2:=cell_later' hB2 c2
  go_wp2_with fail
 all_goals
  clear c0 c1 c2 HNM HZ
  go_loopw [24] (fun iv wr=>∃ k:Nat,k≤r.length∧iv=.int .i64 k∧(r.take k).all refB=true∧Below w.heap.size w wr) (fun iv _=>r.length - (intOf iv).toNat)
  case atStart=>exact ⟨0,Nat.zero_le _,rfl,rfl,hB2⟩
  case round =>
   obtain ⟨k,hk,rfl,hall,hBr⟩:=hrel
   rename World=>wr
   have HA:=Lh hall
   clear hall hB2
   by_cases hlt:k < r.length
   ·obtain ⟨B,rfl,p0,p1,z2,z3⟩:=(HRV.out.keep hBr).get hlt
    obtain ⟨x,hxe⟩:∃ x,r[k]=x:=⟨_,rfl⟩
    rw [hxe] at p0 p1 z2 z3
    obtain ⟨X1,hX1⟩:∃ Y,bb x.1=Y:=⟨_,rfl⟩
    obtain ⟨X2,hX2⟩:∃ Y,bb x.2=Y:=⟨_,rfl⟩
    have d1:X1.data.toList=x.1:=by rw [← hX1]
    have d2:X2.data.toList=x.2:=by rw [← hX2]
    have HS1:=Lh (show X1.size≤maxLen by rw [← b_size,d1];exact z2)
    have HS2:=Lh (show X2.size≤maxLen by rw [← b_size,d2];exact z3)
    rw [hX1] at p0
    rw [hX2] at p1
    have hBq:=below_keep (al_ref wr X1 X2) hBr
    obtain ⟨v0,v1⟩:=at2_str wr X1 X2 121
    obtain ⟨n1,hn1⟩:∃ b,isNm x.1=b:=⟨_,rfl⟩
    obtain ⟨n2,hn2⟩:∃ b,isNm x.2=b:=⟨_,rfl⟩
    obtain ⟨m2,hm2⟩:∃ b,x.2.isEmpty=b:=⟨_,rfl⟩
    have HN1:Hid (isNm X1.data.toList=n1):=Lh (by rw [d1];exact hn1)
    have HN2:Hid (isNm X2.data.toList=n2):=Lh (by rw [d2];exact hn2)
    have he2:X2.toList.isEmpty=m2:=by rw [ByteArray.toList_eq,d2];exact hm2
    have HRB:Hid (refB r[k]=(n1 && (m2 || n2))):=Lh (by rw [hxe];unfold refB;rw [hn1,hn2,hm2])
    have i0:(0:Int)≤(k:Int):=by omega
    have i1:(k:Int) < (r.length:Int):=by omega
    clear hX1 hX2 hn1 hn2 hm2 d1 d2 z2 z3 hxe
    go_wp2_with fail
    refine (isname_of _ _ _ HS1.out HN1).mono ?_
    rintro e w3 ⟨rfl,hb3⟩
    have v1:=cell_keep hb3 v1
    have hB3:=below_keep hb3 hBq
    have hw:n1=false∨(n1=true∧m2=true)∨(n1=true∧m2=false∧n2=true)∨(n1=true∧m2=false∧n2=false):=by cases n1 <;> cases m2 <;> cases n2 <;> simp
    rcases hw with rfl | ⟨rfl,rfl⟩ | ⟨rfl,rfl,rfl⟩ | ⟨rfl,rfl,rfl⟩
    ·have HN:Hid (false=R):=Lh (by rw [← HALL.out,all_bad hlt HRB.out])
     obtain rfl:=HN.out
     go_wp2
     go_ret
     exact ⟨rfl,hB3⟩
    ·have HN:=Lh (all_next hlt HA.out HRB.out)
     go_wp2
     go_roundw
     case rel=>exact ⟨k+1,by omega,by go_num,HN.out,hB3⟩
     case measure=>simp [intOf];omega
    ·have HN:=Lh (all_next hlt HA.out HRB.out)
     go_wp2_with fail
     refine (isname_of _ _ _ HS2.out HN2).mono ?_
     rintro e w4 ⟨rfl,hb4⟩
     go_wp2
     go_roundw
     case rel=>exact ⟨k+1,by omega,by go_num,HN.out,below_keep hb4 hB3⟩
     case measure=>simp [intOf];omega
    ·have HN:Hid (false=R):=Lh (by rw [← HALL.out,all_bad hlt HRB.out])
     obtain rfl:=HN.out
     go_wp2_with fail
     refine (isname_of _ _ _ HS2.out HN2).mono ?_
     rintro e w4 ⟨rfl,hb4⟩
     go_wp2
     go_ret
     exact ⟨rfl,below_keep hb4 hB3⟩
   ·obtain rfl:k=r.length:=by omega
    have HN:Hid (true=R):=Lh (by have:=HA.out;rw [List.take_length] at this;rw [← HALL.out,this])
    obtain rfl:=HN.out
    go_wp2
    go_ret
    exact ⟨rfl,hBr⟩
end Go.Proofs.YtgmidodmmlmmeaaGreatDoor.tre
