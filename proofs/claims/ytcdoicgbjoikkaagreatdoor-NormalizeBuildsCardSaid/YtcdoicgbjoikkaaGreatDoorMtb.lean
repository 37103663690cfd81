/-
  What Name of the reference of layer 7 returns, and the statements' guard few. Conditions: a text's length; trees in memory.
  What stmts and few of the statements of layer 7 return. Conditions: trees in memory.
  What Preorder of the reference of layer 7 returns: the statements in preorder, each with its level, their lists where the tree has them. Conditions: a tree of at most 600 statements in memory; a small level.
  What fields of the reference of layer 7 returns. Condition: the lists lie in memory.
-/
import Derived.Test.YtcdoicgbjoikkaaGreatDoorMta
namespace Go.Proofs.YtcdoicgbjoikkaaGreatDoor.tre
open Go.RowKit lex
theorem b_dig (s:ByteArray)(k:Nat)(h:k < s.size):s.data.toList[k]?=some s[k]:=by
 rw [List.getElem?_eq_getElem (by simpa using h)];rfl
theorem b_size (s:ByteArray):s.data.toList.length=s.size:=by simp
theorem isNm_no {l:List UInt8}(h:l.length < 1∨16 < l.length∨isKw l=true∨wordLen l < l.length):isNm l=false:=by
 unfold isNm
 rcases h with h | h | h | h
 ·have:l=[]:=List.length_eq_zero_iff.1 (by omega)
  subst this;rfl
 ·rw [decide_eq_false (p:=l.length≤16) (by omega)];simp
 ·rw [h];simp
 ·rw [decide_eq_false (p:=wordLen l=l.length) (by omega)];simp
theorem isNm_yes {l:List UInt8}(h0:1≤l.length)(h1:l.length≤16)(h2:isKw l=false)(h3:wordLen l=l.length):isNm l=true:=by
 unfold isNm
 have:l.isEmpty=false:=by
  cases l with
  | nil=>simp at h0
  | cons a t=>rfl
 rw [this,h2,decide_eq_true h3,decide_eq_true h1];rfl
set_option maxHeartbeats 4000000 in
theorem rnm_any (s:ByteArray)(w:World)(hs:s.size≤maxLen) :
    Calls Tryz.prog 63 #[.string s] w fun e w'=>e=.returned (.bool (isNm s.data.toList))∧w=w':=by
 unfold maxLen at hs
 obtain ⟨v,hv⟩:∃ v,isNm s.data.toList=v:=⟨_,rfl⟩
 rw [hv]
 have HV:=Lh hv
 clear hv
 by_cases h0:(s.size:Int) < 1
 ·have HN:Hid (v=false):=Lh (by rw [← HV.out];exact isNm_no (Or.inl (by rw [b_size];omega)))
  obtain rfl:=HN.out
  go_enter Tryz.func63,Tryz.ntmps63
  go_wp2
  go_ret
  exact ⟨rfl,rfl⟩
 by_cases h1:(16:Int) < (s.size:Int)
 ·have HN:Hid (v=false):=Lh (by rw [← HV.out];exact isNm_no (Or.inr (Or.inl (by rw [b_size];omega))))
  obtain rfl:=HN.out
  go_enter Tryz.func63,Tryz.ntmps63
  go_wp2
  go_ret
  exact ⟨rfl,rfl⟩
 obtain ⟨k1,e1⟩:∃ b,(s.toList == [100,105,103,114,97,112,104])=b:=⟨_,rfl⟩
 obtain ⟨k2,e2⟩:∃ b,(s.toList == [103,114,97,112,104])=b:=⟨_,rfl⟩
 obtain ⟨k3,e3⟩:∃ b,(s.toList == [110,111,100,101])=b:=⟨_,rfl⟩
 obtain ⟨k4,e4⟩:∃ b,(s.toList == [101,100,103,101])=b:=⟨_,rfl⟩
 obtain ⟨k5,e5⟩:∃ b,(s.toList == [115,101,116])=b:=⟨_,rfl⟩
 obtain ⟨k6,e6⟩:∃ b,(s.toList == [99,108,117,115,116,101,114])=b:=⟨_,rfl⟩
 have hk:isKw s.data.toList=(k1 || k2 || k3 || k4 || k5 || k6):=by
  rw [← e1,← e2,← e3,← e4,← e5,← e6,← ByteArray.toList_eq,Bool.eq_iff_iff];unfold isKw kws;simp [or_assoc]
 have HK:=Lh hk
 clear hk
 cases hkw:(k1 || k2 || k3 || k4 || k5 || k6)
 ·obtain ⟨⟨⟨⟨⟨rfl,rfl⟩,rfl⟩,rfl⟩,rfl⟩,rfl⟩:((((k1=false∧k2=false)∧k3=false)∧k4=false)∧k5=false)∧k6=false:=by simpa using hkw
  have HK2:Hid (isKw s.data.toList=false):=Lh (HK.out.trans hkw)
  clear hkw HK
  go_enter Tryz.func63,Tryz.ntmps63
  go_wp2_with fail
  go_loop [3] (fun i=>∃ k:Nat,k≤s.size∧i=.int .i64 k∧WordTo s.data.toList k) (fun i=>s.size - (intOf i).toNat)
  case atStart=>exact ⟨0,Nat.zero_le _,rfl,WordTo.zero _⟩
  case round =>
   obtain ⟨k,hk,rfl,hw⟩:=hrel
   have HW:=Lh hw
   clear hw
   by_cases hlt:k < s.size
   ·have HD:=Lh (b_dig s k hlt)
    have STOP:Hid (okAt k s[k]=false→v=false):=Lh (fun e=>by
     have:wordLen s.data.toList=k:=HW.out.stop (by rw [b_size];omega) (fun c hc=>by rw [HD.out] at hc;obtain rfl:=Option.some.inj hc;exact e)
     rw [← HV.out];exact isNm_no (Or.inr (Or.inr (Or.inr (by rw [b_size];omega)))))
    have NEXT:Hid (okAt k s[k]=true→WordTo s.data.toList (k+1)):=Lh (fun e=>HW.out.next HD.out e)
    have hz:((k:Int) == 0)=decide (k=0):=by rw [Bool.eq_iff_iff];simp
    have hb:=s[k].toNat_lt
    have hcl:(97≤(s[k].toNat:Int)∧(s[k].toNat:Int)≤122)∨(65≤(s[k].toNat:Int)∧(s[k].toNat:Int)≤90)∨(s[k].toNat:Int)=95∨(48≤(s[k].toNat:Int)∧(s[k].toNat:Int)≤57)∨(s[k].toNat:Int) < 48∨(58≤(s[k].toNat:Int)∧(s[k].toNat:Int)≤64)∨(91≤(s[k].toNat:Int)∧(s[k].toNat:Int)≤94)∨(s[k].toNat:Int)=96∨123≤(s[k].toNat:Int):=by omega
    have hu:((s[k].toNat:Int) == 95)=decide (s[k].toNat=95):=by rw [Bool.eq_iff_iff];simp;omega
    by_cases hlet:isLet s[k]=true
    ·have HN:=Lh (NEXT.out (by unfold okAt isWd;rw [hlet];simp))
     clear NEXT STOP hz
     unfold isLet at hlet
     simp at hlet
     rcases hcl with ⟨ha,hc⟩ | ⟨ha,hc⟩ | ha | ⟨ha,hc⟩ | ha | ⟨ha,hc⟩ | ⟨ha,hc⟩ | ha | ha
     all_goals first
      | (exfalso;omega)
      | (first | (have hd:decide (s[k].toNat=95)=true:=by simp;omega) | (have hd:decide (s[k].toNat=95)=false:=by simp;omega)
         rw [hd] at hu
         (first | (have q1:decide ((s[k].toNat:Int)≤122)=true:=decide_eq_true (by omega)) | (have q1:decide ((s[k].toNat:Int)≤122)=false:=decide_eq_false (by omega)));(first | (have q2:decide ((s[k].toNat:Int)≤90)=true:=decide_eq_true (by omega)) | (have q2:decide ((s[k].toNat:Int)≤90)=false:=decide_eq_false (by omega)))
         clear hlet hd hb
         go_wp2
         go_round
         case rel=>exact ⟨k+1,by omega,by go_num,HN.out⟩
         case measure=>simp [intOf];omega)
    ·have hd:decide (s[k].toNat=95)=false:=by unfold isLet at hlet;simp at hlet;simp;omega
     rw [hd] at hu
     by_cases hk0:k=0
     ·have HN:=Lh (STOP.out (by unfold okAt;rw [if_pos hk0];simpa using hlet))
      obtain rfl:=HN.out
      rw [decide_eq_true hk0] at hz
      clear hk0
      unfold isLet at hlet
      simp at hlet
      clear NEXT STOP
      rcases hcl with ⟨ha,hc⟩ | ⟨ha,hc⟩ | ha | ⟨ha,hc⟩ | ha | ⟨ha,hc⟩ | ⟨ha,hc⟩ | ha | ha
      all_goals first
       | (exfalso;omega)
       | ((first | (have q1:decide ((s[k].toNat:Int)≤122)=true:=decide_eq_true (by omega)) | (have q1:decide ((s[k].toNat:Int)≤122)=false:=decide_eq_false (by omega)));(first | (have q2:decide ((s[k].toNat:Int)≤90)=true:=decide_eq_true (by omega)) | (have q2:decide ((s[k].toNat:Int)≤90)=false:=decide_eq_false (by omega)))
          clear hlet hd hb
          go_wp2
          go_ret
          exact ⟨rfl,rfl⟩)
     ·rw [decide_eq_false hk0] at hz
      by_cases hdg:isDgt s[k]=true
      ·have HN:=Lh (NEXT.out (by unfold okAt isWd;rw [if_neg hk0,hdg];simp))
       unfold isLet at hlet
       unfold isDgt at hdg
       simp at hlet hdg
       clear NEXT STOP
       rcases hcl with ⟨ha,hc⟩ | ⟨ha,hc⟩ | ha | ⟨ha,hc⟩ | ha | ⟨ha,hc⟩ | ⟨ha,hc⟩ | ha | ha
       all_goals first
        | (exfalso;omega)
        | ((first | (have q1:decide ((s[k].toNat:Int)≤122)=true:=decide_eq_true (by omega)) | (have q1:decide ((s[k].toNat:Int)≤122)=false:=decide_eq_false (by omega)));(first | (have q2:decide ((s[k].toNat:Int)≤90)=true:=decide_eq_true (by omega)) | (have q2:decide ((s[k].toNat:Int)≤90)=false:=decide_eq_false (by omega)))
           clear hlet hd hb hdg
           go_wp2
           go_round
           case rel=>exact ⟨k+1,by omega,by go_num,HN.out⟩
           case measure=>simp [intOf];omega)
      ·have HN:=Lh (STOP.out (by unfold okAt isWd;rw [if_neg hk0];simp [hlet,hdg]))
       obtain rfl:=HN.out
       unfold isLet at hlet
       unfold isDgt at hdg
       simp at hlet hdg
       clear NEXT STOP
       rcases hcl with ⟨ha,hc⟩ | ⟨ha,hc⟩ | ha | ⟨ha,hc⟩ | ha | ⟨ha,hc⟩ | ⟨ha,hc⟩ | ha | ha
       all_goals first
        | (exfalso;omega)
        | ((first | (have q1:decide ((s[k].toNat:Int)≤122)=true:=decide_eq_true (by omega)) | (have q1:decide ((s[k].toNat:Int)≤122)=false:=decide_eq_false (by omega)));(first | (have q2:decide ((s[k].toNat:Int)≤90)=true:=decide_eq_true (by omega)) | (have q2:decide ((s[k].toNat:Int)≤90)=false:=decide_eq_false (by omega)))
           clear hlet hd hb hdg
           go_wp2
           go_ret
           exact ⟨rfl,rfl⟩)
   ·obtain rfl:k=s.size:=by omega
    have HN:Hid (v=true):=Lh (by
     rw [← HV.out]
     refine isNm_yes (by rw [b_size];omega) (by rw [b_size];omega) HK2.out ?_
     rw [b_size]
     exact HW.out.stop (by rw [b_size];omega) (fun c hc=>by rw [List.getElem?_eq_none (by rw [b_size];omega)] at hc;cases hc))
    obtain rfl:=HN.out
    go_wp2
    go_ret
    exact ⟨rfl,rfl⟩
 ·have HN:Hid (v=false):=Lh (by rw [← HV.out];exact isNm_no (Or.inr (Or.inr (Or.inl (HK.out.trans hkw)))))
  obtain rfl:=HN.out
  clear HK
  have hway:k1=true∨(k1=false∧k2=true)∨(k1=false∧k2=false∧k3=true)∨(k1=false∧k2=false∧k3=false∧k4=true)∨(k1=false∧k2=false∧k3=false∧k4=false∧k5=true)∨(k1=false∧k2=false∧k3=false∧k4=false∧k5=false∧k6=true):=by
   revert hkw;cases k1 <;> cases k2 <;> cases k3 <;> cases k4 <;> cases k5 <;> cases k6 <;> simp
  clear hkw HN
  rcases hway with rfl | ⟨rfl,rfl⟩ | ⟨rfl,rfl,rfl⟩ | ⟨rfl,rfl,rfl,rfl⟩ | ⟨rfl,rfl,rfl,rfl,rfl⟩ | ⟨rfl,rfl,rfl,rfl,rfl,rfl⟩
  all_goals
   go_enter Tryz.func63,Tryz.ntmps63
   go_wp2
   go_ret
   exact ⟨rfl,rfl⟩
theorem rnm_of (s:ByteArray)(v:Bool)(w:World)(hs:s.size≤maxLen)(h:Hid (isNm s.data.toList=v)) :
    Calls Tryz.prog 63 #[.string s] w fun e w'=>e=.returned (.bool v)∧w=w':=by rw [← h.out];exact rnm_any s w hs
theorem drop_st {l:List St}{k:Nat}(h:k < l.length):l.drop k=l[k] :: l.drop (k+1):=List.drop_eq_getElem_cons h
theorem Sts.get {w:World}{ao:Option Addr}{n cap:Nat}{l:List St}(h:Sts w (.slice ao n cap) l){k:Nat}(hk:k < l.length):∃ A,ao=some A∧stAt w l[k] (A.add (k*5)):=by
 obtain ⟨ao',cap',e,_,_,hA⟩:=h
 cases e
 obtain ⟨A,rfl,h2⟩:=hA (by omega)
 exact ⟨A,rfl,by have:=stsAt_get h2 k hk;rwa [Nat.zero_add] at this⟩
theorem lst_ind {P:List St→Prop}(step:∀ l,(∀ s∈l,P s.body)→P l)(l:List St):P l :=
 ((st_ind (P:=fun s=>P s.body) (Q:=fun l=>(∀ s∈l,P s.body)∧P l) (fun _ _ _ _ _ h=>h.2) ⟨fun _ h=>(by cases h),step [] (fun _ h=>(by cases h))⟩
  (fun s t hs ht=>(fun h=>⟨h,step _ h⟩) (fun x hx=>by rcases List.mem_cons.1 hx with rfl | hx;exact hs;exact ht.1 x hx))).2 l).2
structure FV where
 s:St
 lv:Int
 rv:Value
 av:Value
 bv:Value
def cellsF (f:FV):List Value:=[.int .i64 f.s.kind,.string (bb f.s.name),f.rv,f.av,f.bv,.int .i64 f.lv]
def flatF (l:List FV):List Value:=l.flatMap cellsF
theorem flatF_app (a b:List FV):flatF (a ++ b)=flatF a ++ flatF b:=by unfold flatF;rw [List.flatMap_append]
theorem flatF_one (f:FV):flatF [f]=cellsF f:=by unfold flatF;simp
theorem flatF_length (l:List FV):(flatF l).length=l.length*6:=by
 induction l with
 | nil=>rfl
 | cons a t ih=>unfold flatF at *;rw [List.flatMap_cons,List.length_append,ih];simp [cellsF];omega
theorem flatF_get:∀ (l:List FV) (i:Nat) (h:i < l.length) (j:Nat) (u:Value),(cellsF l[i])[j]?=some u→(flatF l)[i*6+j]?=some u
 | [],i,h,_,_,_=>absurd h (by simp)
 | a :: t,0,_,j,u,hj=>by
  have hl:(cellsF a).length=6:=rfl
  have hjl:j < 6:=by have:=(List.getElem?_eq_some_iff.1 hj).1;rw [show (a :: t)[0]=a from rfl,hl] at this;exact this
  have e:flatF (a :: t)=cellsF a ++ flatF t:=by unfold flatF;rw [List.flatMap_cons]
  rw [e,Nat.zero_mul,Nat.zero_add,List.getElem?_append_left (by omega)]
  exact hj
 | a :: t,i+1,h,j,u,hj=>by
  have ih:=flatF_get t i (by simpa using h) j u hj
  have hl:(cellsF a).length=6:=rfl
  have e:flatF (a :: t)=cellsF a ++ flatF t:=by unfold flatF;rw [List.flatMap_cons]
  rw [e,List.getElem?_append_right (by omega),hl,show (i+1)*6+j - 6=i*6+j by omega]
  exact ih
def fvOk (w:World)(f:FV):Prop:=f.s.name.length≤maxLen∧Prs w f.rv f.s.refs∧Prs w f.av f.s.attrs∧Sts w f.bv f.s.body
theorem fvOk.keep {w1 w2:World}{f:FV}(h:fvOk w1 f)(hb:Below w1.heap.size w1 w2):fvOk w2 f:=⟨h.1,h.2.1.keep hb,h.2.2.1.keep hb,h.2.2.2.keep hb⟩
theorem prs_one {w:World}{v:Value}{l:List Pr}(h:Prs w v l):v.oneCell'=true:=by obtain ⟨_,_,rfl,_⟩:=h;rfl
theorem sts_one {w:World}{v:Value}{l:List St}(h:Sts w v l):v.oneCell'=true:=by obtain ⟨_,_,rfl,_⟩:=h;rfl
theorem cellsF_one {w:World}{f:FV}(h:fvOk w f):∀ u∈cellsF f,u.oneCell'=true:=by
 intro u hu
 simp only [cellsF,List.mem_cons,List.not_mem_nil,or_false] at hu
 rcases hu with rfl | rfl | rfl | rfl | rfl | rfl
 ·rfl
 ·rfl
 ·exact prs_one h.2.1
 ·exact prs_one h.2.2.1
 ·exact sts_one h.2.2.2
 ·rfl
theorem flatF_one' {w:World}{l:List FV}(h:∀ f∈l,fvOk w f):∀ u∈flatF l,u.oneCell'=true:=by
 intro u hu
 obtain ⟨f,hf,hu⟩:=List.mem_flatMap.1 hu
 exact cellsF_one (h f hf) u hu
theorem info_flat:(Tryz.prog.info? 98).map (fun i=>(i.zero,i.size,i.bytes))=some (some (.agg #[.int .i64 0,.string ⟨#[]⟩,.slice none 0 0,.slice none 0 0,.slice none 0 0,.int .i64 0]),6,104):=by kernel_rfl
theorem info_flat6:∃ i,Tryz.prog.info? 98=some i∧i.zero=some (.agg #[.int .i64 0,.string ⟨#[]⟩,.slice none 0 0,.slice none 0 0,.slice none 0 0,.int .i64 0])∧i.size=6∧i.bytes=104:=by
 have h:=info_flat
 cases hq:Tryz.prog.info? 98 with
 | none=>rw [hq] at h;cases h
 | some i =>
  rw [hq] at h
  simp only [Option.map_some,Option.some.injEq,Prod.mk.injEq] at h
  exact ⟨i,rfl,h.1,h.2.1,h.2.2⟩
theorem cell6_new (w:World)(a b c d e f:Value)(t:TypeId):∀ j u,[a,b,c,d,e,f][j]?=some u→(w.alloc (.cells #[a,b,c,d,e,f] t)).cell? ((⟨w.heap.size,0,none⟩:Addr).add j)=some u:=by
 intro j u hj
 match j,hj with
 | 0,hj=>simp at hj;subst hj;simp [Addr.add]
 | 1,hj=>simp at hj;subst hj;simp [Addr.add]
 | 2,hj=>simp at hj;subst hj;simp [Addr.add]
 | 3,hj=>simp at hj;subst hj;simp [Addr.add]
 | 4,hj=>simp at hj;subst hj;simp [Addr.add]
 | 5,hj=>simp at hj;subst hj;simp [Addr.add]
 | (j+6),hj=>simp at hj
def PreOut (w0:World)(l:List St)(lv:Int)(w:World)(e:Ending)(w':World):Prop:=∃ (g cap:Nat) (F:List FV),e=.returned (.slice (some ⟨g,0,none⟩) F.length cap) ∧
 w'.ownsRow w.heap.size 98 6 (.slice (some ⟨g,0,none⟩) F.length cap) F.length (flatF F)∧F.map (fun f=>(f.s,f.lv))=preL l lv∧(∀ f∈F,fvOk w0 f)∧Below w.heap.size w w'
theorem cnt_app (a b:List St):cnt (a ++ b)=cnt a+cnt b:=by unfold cnt;rw [preL_app,List.length_append]
theorem cnt_take {l:List St}{k:Nat}(h:k < l.length):cnt (l.take k)+1+cnt l[k].body≤cnt l∧l.take (k+1)=l.take k ++ [l[k]]:=by
 have e:l.take (k+1)=l.take k ++ [l[k]]:=by rw [List.take_add_one,List.getElem?_eq_getElem h];rfl
 refine ⟨?_,e⟩
 have h2:cnt l=cnt (l.take k)+cnt (l.drop k):=by rw [← cnt_app,List.take_append_drop]
 rw [h2,drop_st h,cnt_cons]
 omega
abbrev stV (s:St)(rv av bv:Value):Value:=.agg #[.int .i64 s.kind,.string (bb s.name),rv,av,bv]
def at5 (w:World)(b:Nat)(k:Int)(x:ByteArray)(rv av bv:Value):Prop:=w.cell? ⟨b,0,none⟩=some (.int .i64 k)∧w.cell? ⟨b,1,none⟩=some (.string x)∧w.cell? ⟨b,2,none⟩=some rv∧w.cell? ⟨b,3,none⟩=some av∧w.cell? ⟨b,4,none⟩=some bv
theorem at5_new (w:World)(k:Int)(x:ByteArray)(rv av bv:Value)(t:TypeId):at5 (w.alloc (.cells #[.int .i64 k,.string x,rv,av,bv] t)) w.heap.size k x rv av bv:=by
 refine ⟨?_,?_,?_,?_,?_⟩ <;> go_simp
theorem at5_keep {w1 w2:World}{b:Nat}{k:Int}{x:ByteArray}{rv av bv:Value}(h:at5 w1 b k x rv av bv)(h2:Below w1.heap.size w1 w2):at5 w2 b k x rv av bv :=
 ⟨cell_keep h2 h.1,cell_keep h2 h.2.1,cell_keep h2 h.2.2.1,cell_keep h2 h.2.2.2.1,cell_keep h2 h.2.2.2.2⟩
set_option maxRecDepth 100000 in
set_option maxHeartbeats 8000000 in
theorem rfld_of (s:St)(rv av bv:Value)(R:Int)(w:World)(h:Hid (fvOk w ⟨s,0,rv,av,bv⟩))(hR:Hid (fldE s=R)) :
    Calls Tryz.prog 114 #[stV s rv av bv] w fun e w'=>e=.returned (.int .i64 R)∧Below w.heap.size w w':=by
 obtain ⟨k,n,r,a,b⟩:=s
 obtain ⟨hnl,hrv,hav,hbv⟩:=h.out
 simp only [St.refs,St.body,St.attrs,St.name] at hrv hav hbv hnl
 have hR2:=hR.out
 simp only [fldE,St.kind,St.name,St.refs,St.attrs,St.body] at hR2
 clear hR
 have hR:=Lh hR2
 clear hR2
 clear h
 have hav':=hav
 obtain ⟨ro,rc,rfl,_,_,_⟩:=hrv
 obtain ⟨so,sc,rfl,_,_,_⟩:=hav'
 obtain ⟨bo,bc,rfl,_,_,_⟩:=hbv
 show Calls Tryz.prog 114 #[.agg #[.int .i64 k,.string (bb n),.slice ro r.length rc,.slice so a.length sc,.slice bo b.length bc]] w _
 have hB:=al1 w (.cells #[.int .i64 k,.string (bb n),.slice ro r.length rc,.slice so a.length sc,.slice bo b.length bc] 56)
 have HAV:=Lh (hav.keep hB)
 obtain ⟨X,hX⟩:∃ X,bb n=X:=⟨_,rfl⟩
 have hXn:X.toList=n:=by rw [← hX,ByteArray.toList_eq]
 have e0:X.toList.isEmpty=decide (n=[]):=by rw [hXn];cases n <;> rfl
 have e1:(X.toList == [110,111,100,101])=decide (n=wNode):=by rw [hXn,Bool.eq_iff_iff,beq_iff_eq,decide_eq_true_eq];rfl
 have e2:(X.toList == [101,100,103,101])=decide (n=wEdge):=by rw [hXn,Bool.eq_iff_iff,beq_iff_eq,decide_eq_true_eq];rfl
 have e3:(X.toList != [110,111,100,101])=!decide (n=wNode):=by rw [bne,e1]
 have e4:(X.toList != [101,100,103,101])=!decide (n=wEdge):=by rw [bne,e2]
 rw [hX] at HAV hB ⊢
 clear hav hX hXn hnl
 have q1:decide ((0:Int) < (r.length:Int))=decide (0 < r.length):=by rw [Bool.eq_iff_iff];simp
 have q2:decide ((0:Int) < (a.length:Int))=decide (0 < a.length):=by rw [Bool.eq_iff_iff];simp
 have q3:decide ((0:Int) < (b.length:Int))=decide (0 < b.length):=by rw [Bool.eq_iff_iff];simp
 have q4:decide ((r.length:Int) < 2)=decide (r.length < 2):=by rw [Bool.eq_iff_iff,decide_eq_true_eq,decide_eq_true_eq];omega
 have q5:((a.length:Int) != 1)=!decide (a.length=1):=by rw [bne,Bool.eq_iff_iff];simp;omega
 -- ways (genfld.py)
 by_cases kl:k < 1
 ·obtain rfl:(1:Int)=R:=by rw [← hR.out];simp [kl]
  clear hR
  go_enter Tryz.func114,Tryz.ntmps114
  go_wp2
  go_ret
  exact ⟨rfl,hB⟩
 by_cases kh:5 < k
 ·obtain rfl:(1:Int)=R:=by rw [← hR.out];simp [kh]
  clear hR
  go_enter Tryz.func114,Tryz.ntmps114
  go_wp2
  go_ret
  exact ⟨rfl,hB⟩
 have hk:k=1∨k=2∨k=3∨k=4∨k=5:=by omega
 clear kl kh
 rcases hk with rfl | rfl | rfl | rfl | rfl
 ·by_cases t1:0 < r.length
  ·rw [decide_eq_true t1] at q1
   have pt1:decide (0 < r.length)=true:=decide_eq_true t1
   obtain rfl:(1:Int)=R:=by rw [← hR.out];simp [t1]
   clear hR t1
   go_enter Tryz.func114,Tryz.ntmps114
   go_wp2
   go_ret
   exact ⟨rfl,hB⟩
  ·rw [decide_eq_false t1] at q1
   have pt1:decide (0 < r.length)=false:=decide_eq_false t1
   by_cases t2:0 < b.length
   ·rw [decide_eq_true t2] at q3
    have pt2:decide (0 < b.length)=true:=decide_eq_true t2
    obtain rfl:(1:Int)=R:=by rw [← hR.out];simp [t1,t2]
    clear hR t1 t2
    go_enter Tryz.func114,Tryz.ntmps114
    go_wp2
    go_ret
    exact ⟨rfl,hB⟩
   ·rw [decide_eq_false t2] at q3
    have pt2:decide (0 < b.length)=false:=decide_eq_false t2
    obtain rfl:(0:Int)=R:=by rw [← hR.out];simp [t1,t2]
    clear hR t1 t2
    go_enter Tryz.func114,Tryz.ntmps114
    go_wp2
    go_ret
    exact ⟨rfl,hB⟩
 ·by_cases t1:n=[]
  ·rw [decide_eq_true t1] at e0
   by_cases t2:0 < b.length
   ·rw [decide_eq_true t2] at q3
    have pt2:decide (0 < b.length)=true:=decide_eq_true t2
    obtain rfl:(1:Int)=R:=by rw [← hR.out];simp [t1,t2]
    clear hR t1 t2
    go_enter Tryz.func114,Tryz.ntmps114
    go_wp2
    go_ret
    exact ⟨rfl,hB⟩
   ·rw [decide_eq_false t2] at q3
    have pt2:decide (0 < b.length)=false:=decide_eq_false t2
    by_cases t3:r.length < 2
    ·rw [decide_eq_true t3] at q4
     have pt3:decide (r.length < 2)=true:=decide_eq_true t3
     obtain rfl:(1:Int)=R:=by rw [← hR.out];simp [t1,t2,t3]
     clear hR t1 t2 t3
     go_enter Tryz.func114,Tryz.ntmps114
     go_wp2
     go_ret
     exact ⟨rfl,hB⟩
    ·rw [decide_eq_false t3] at q4
     have pt3:decide (r.length < 2)=false:=decide_eq_false t3
     obtain rfl:(0:Int)=R:=by rw [← hR.out];simp [t1,t2,t3]
     clear hR t1 t2 t3
     go_enter Tryz.func114,Tryz.ntmps114
     go_wp2
     go_ret
     exact ⟨rfl,hB⟩
  ·rw [decide_eq_false t1] at e0
   obtain rfl:(1:Int)=R:=by rw [← hR.out];simp [t1]
   clear hR t1
   go_enter Tryz.func114,Tryz.ntmps114
   go_wp2
   go_ret
   exact ⟨rfl,hB⟩
 ·by_cases t1:0 < r.length
  ·rw [decide_eq_true t1] at q1
   have pt1:decide (0 < r.length)=true:=decide_eq_true t1
   obtain rfl:(1:Int)=R:=by rw [← hR.out];simp [t1]
   clear hR t1
   go_enter Tryz.func114,Tryz.ntmps114
   go_wp2
   go_ret
   exact ⟨rfl,hB⟩
  ·rw [decide_eq_false t1] at q1
   have pt1:decide (0 < r.length)=false:=decide_eq_false t1
   by_cases t2:0 < b.length
   ·rw [decide_eq_true t2] at q3
    have pt2:decide (0 < b.length)=true:=decide_eq_true t2
    obtain rfl:(1:Int)=R:=by rw [← hR.out];simp [t1,t2]
    clear hR t1 t2
    go_enter Tryz.func114,Tryz.ntmps114
    go_wp2
    go_ret
    exact ⟨rfl,hB⟩
   ·rw [decide_eq_false t2] at q3
    have pt2:decide (0 < b.length)=false:=decide_eq_false t2
    by_cases t3:n=wNode
    ·rw [decide_eq_true t3] at e1;rw [decide_eq_true t3] at e3
     obtain rfl:(0:Int)=R:=by rw [← hR.out];simp [t1,t2,t3]
     clear hR t1 t2 t3
     go_enter Tryz.func114,Tryz.ntmps114
     go_wp2
     go_ret
     exact ⟨rfl,hB⟩
    ·rw [decide_eq_false t3] at e1;rw [decide_eq_false t3] at e3
     by_cases t4:n=wEdge
     ·rw [decide_eq_true t4] at e2;rw [decide_eq_true t4] at e4
      obtain rfl:(0:Int)=R:=by rw [← hR.out];simp [t1,t2,t4]
      clear hR t1 t2 t3 t4
      go_enter Tryz.func114,Tryz.ntmps114
      go_wp2
      go_ret
      exact ⟨rfl,hB⟩
     ·rw [decide_eq_false t4] at e2;rw [decide_eq_false t4] at e4
      obtain rfl:(1:Int)=R:=by rw [← hR.out];simp [t1,t2,t3,t4]
      clear hR t1 t2 t3 t4
      go_enter Tryz.func114,Tryz.ntmps114
      go_wp2
      go_ret
      exact ⟨rfl,hB⟩
 ·by_cases t1:0 < r.length
  ·rw [decide_eq_true t1] at q1
   have pt1:decide (0 < r.length)=true:=decide_eq_true t1
   obtain rfl:(1:Int)=R:=by rw [← hR.out];simp [t1]
   clear hR t1
   go_enter Tryz.func114,Tryz.ntmps114
   go_wp2
   go_ret
   exact ⟨rfl,hB⟩
  ·rw [decide_eq_false t1] at q1
   have pt1:decide (0 < r.length)=false:=decide_eq_false t1
   by_cases t2:0 < b.length
   ·rw [decide_eq_true t2] at q3
    have pt2:decide (0 < b.length)=true:=decide_eq_true t2
    obtain rfl:(1:Int)=R:=by rw [← hR.out];simp [t1,t2]
    clear hR t1 t2
    go_enter Tryz.func114,Tryz.ntmps114
    go_wp2
    go_ret
    exact ⟨rfl,hB⟩
   ·rw [decide_eq_false t2] at q3
    have pt2:decide (0 < b.length)=false:=decide_eq_false t2
    by_cases t3:a.length=1
    ·rw [decide_eq_true t3] at q5
     have pt3:decide (a.length=1)=true:=decide_eq_true t3
     obtain ⟨y,hy⟩:∃ y,a=[y]:=List.length_eq_one_iff.1 t3
     obtain ⟨_,_,ec,_,_,hA⟩:=HAV.out
     obtain ⟨A,rfl,hAt⟩:=hA (by rw [hy];simp)
     have ec2:so=some A:=by simp only [Value.slice.injEq] at ec;exact ec.1
     subst ec2
     have c0:=(hAt 0 (by rw [hy];simp)).1
     have e5:A.add (0*2)=A:=by unfold Addr.add;rfl
     rw [e5] at c0
     have e6:a[0]'(by rw [hy];simp)=y:=by subst hy;rfl
     rw [e6] at c0
     obtain ⟨Y,hY⟩:∃ Y,bb y.1=Y:=⟨_,rfl⟩
     have hYn:Y.toList=y.1:=by rw [← hY,ByteArray.toList_eq]
     have e7:Y.toList.isEmpty=decide (y.1=[]):=by rw [hYn];cases y.1 <;> rfl
     rw [hY] at c0
     have hal:a.length=1:=t3
     have l1:(a.length:Int)=1:=by omega
     clear HAV hAt hA ec e5 e6 hY hYn
     by_cases t4:y.1=[]
     ·rw [decide_eq_true t4] at e7
      obtain rfl:(0:Int)=R:=by rw [← hR.out];simp [t1,t2,hy,t4]
      clear hR hal hy t1 t2 t3 t4
      go_enter Tryz.func114,Tryz.ntmps114
      go_wp2
      go_ret
      exact ⟨rfl,hB⟩
     ·rw [decide_eq_false t4] at e7
      obtain rfl:(1:Int)=R:=by rw [← hR.out];simp [t1,t2,hy,t4]
      clear hR hal hy t1 t2 t3 t4
      go_enter Tryz.func114,Tryz.ntmps114
      go_wp2
      go_ret
      exact ⟨rfl,hB⟩
    ·rw [decide_eq_false t3] at q5
     have pt3:decide (a.length=1)=false:=decide_eq_false t3
     obtain rfl:(1:Int)=R:=by rw [← hR.out];simp [t1,t2,t3]
     clear hR t1 t2 t3
     go_enter Tryz.func114,Tryz.ntmps114
     go_wp2
     go_ret
     exact ⟨rfl,hB⟩
 ·by_cases t1:0 < r.length
  ·rw [decide_eq_true t1] at q1
   have pt1:decide (0 < r.length)=true:=decide_eq_true t1
   obtain rfl:(1:Int)=R:=by rw [← hR.out];simp [t1]
   clear hR t1
   go_enter Tryz.func114,Tryz.ntmps114
   go_wp2
   go_ret
   exact ⟨rfl,hB⟩
  ·rw [decide_eq_false t1] at q1
   have pt1:decide (0 < r.length)=false:=decide_eq_false t1
   by_cases t2:0 < a.length
   ·rw [decide_eq_true t2] at q2
    have pt2:decide (0 < a.length)=true:=decide_eq_true t2
    obtain rfl:(1:Int)=R:=by rw [← hR.out];simp [t1,t2]
    clear hR t1 t2
    go_enter Tryz.func114,Tryz.ntmps114
    go_wp2
    go_ret
    exact ⟨rfl,hB⟩
   ·rw [decide_eq_false t2] at q2
    have pt2:decide (0 < a.length)=false:=decide_eq_false t2
    obtain rfl:(0:Int)=R:=by rw [← hR.out];simp [t1,t2]
    clear hR t1 t2
    go_enter Tryz.func114,Tryz.ntmps114
    go_wp2
    go_ret
    exact ⟨rfl,hB⟩
end Go.Proofs.YtcdoicgbjoikkaaGreatDoor.tre
