/-
  What the reference's Parse returns: the same as Parse of layer 1, for every text of at most 20000 bytes. Conditions: the text's length.
  What Quote, text and number of the reference of layer 6 return. Conditions: a string's length; of number, that there is a byte.
  Slices of tokens of layer 6 in memory: as a row that a loop appends to, and as they are read. No condition.
  Valid tokens, how they are written and joined: plain facts. No function of the program is named here; no condition.
  What the exported functions of layer 6 answer, as plain functions, and what the chapter's example comes to. No function of the program is named here; no condition.
-/
import Derived.Test.YtgmidodmmlmmeaaGreatDoorRefForm
import Derived.Test.YtgmidodmmlmmeaaGreatDoorMad
namespace Go.Proofs.YtgmidodmmlmmeaaGreatDoor
open Go.RowKit
theorem form_nil (w:World) :
    Calls Tryz.prog 265 #[.string ⟨#[]⟩] w fun e w'=>e=.returned (formT false [])∧w=w':=by
 have HB:Hid (formT false []=noForm):=Lib.hid (formT_bad (Or.inl rfl))
 go_enter Tryz.func265,Tryz.ntmps265
 go_wp2
 go_loop [7,8] (fun dv iv=>dv=.int .i64 0∧iv=.int .i64 0) (fun _ _=>0)
 case atStart=>exact ⟨rfl,rfl⟩
 case round =>
  obtain ⟨rfl,rfl⟩:=hrel
  go_wp2
  (try simp only [Exit.inBlock,Exit.then])
  refine bodyPost_ret (results_four rfl _ _ _) rfl ⟨?_,rfl⟩
  rw [HB.out]
  rfl
def formV (l:List UInt8):Value:=if l.head?=some 45 then formT true l.tail else formT false l
theorem form_any (s:ByteArray)(w:World)(hs:s.size≤9223372036854775806) :
    Calls Tryz.prog 265 #[.string s] w fun e w'=>e=.returned (formV s.data.toList)∧w=w':=by
 unfold formV
 rcases Nat.eq_zero_or_pos s.size with h0 | h0
 ·obtain rfl:s=⟨#[]⟩:=by
    apply ByteArray.ext
    have:s.data.toList=[]:=List.length_eq_zero_iff.1 (by rw [size_data];exact h0)
    simpa using this
  exact form_nil w
 ·have hh:=head_at s h0
  by_cases h:s[0].toNat=45
  ·have h45:s.data.toList.head?=some 45:=(head_byte h0).2 h
   rw [if_pos h45]
   have hd:(s.extract 1 s.size).data.toList=s.data.toList.tail:=by rw [drop_extract,List.drop_one]
   rw [← hd]
   exact form_neg s (s.extract 1 s.size) w hs h0 (by rw [beq_iff_eq];omega) rfl (drop_size s 1)
  ·have h45:¬ s.data.toList.head?=some 45:=fun e=>h ((head_byte h0).1 e)
   rw [if_neg h45]
   exact form_pos s w hs h0 (by rw [beq_eq_false_iff_ne];omega)
theorem valL_take_le (l:List UInt8)(k:Nat):valL (l.take k)≤valL l:=by
 have h:=valL_app (l.take k) (l.drop k)
 rw [List.take_append_drop] at h
 have h1:1≤10 ^ (l.drop k).length:=Nat.one_le_pow _ _ (by decide)
 have h2:valL (l.take k)*1≤valL (l.take k)*10 ^ (l.drop k).length:=Nat.mul_le_mul_left _ h1
 omega
theorem both_ways (neg:Bool)(t:List UInt8):(formT neg t=noForm∧parseT neg t=synV) ∨
    ∃ (d:List UInt8) (p:Nat),formT neg t=.tuple #[.bool neg,.string ⟨(lead t).toArray⟩,.string ⟨d.toArray⟩,.bool true]∧d.length≤3∧d.all isDig=true∧p=pad (valL d) d.length 3 ∧
     parseT neg t=if 268435456 < valL (lead t)*1000+p then ovfV else .tuple #[.int .i64 (if neg then -((valL (lead t)*1000+p:Nat):Int) else ((valL (lead t)*1000+p:Nat):Int)),.int .i64 0]:=by
 by_cases hb:(lead t).length=0∨(1 < (lead t).length∧t.head?=some 48)∨(neg=true∧t=[48])
 ·exact Or.inl ⟨formT_bad hb,parseT_bad hb⟩
 ·cases hf:fracOf (t.drop (lead t).length) with
  | none=>exact Or.inl ⟨formT_none hf,parseT_none hf⟩
  | some p =>
   refine Or.inr ⟨_,p,formT_some hb hf,?_⟩
   have e:t.drop ((lead t).length+1)=(t.drop (lead t).length).tail:=by rw [List.tail_drop]
   rw [e]
   cases hr:t.drop (lead t).length with
   | nil =>
    rw [hr] at hf
    have:p=0:=(Option.some.inj hf).symm
    exact ⟨by simp,rfl,by rw [this];rfl,parseT_some hb (by rw [hr];exact hf)⟩
   | cons c d =>
    rw [hr] at hf
    by_cases hc:c=46∧1≤d.length∧d.length≤3∧d.all isDig=true∧d.getLast?≠some 48
    ·have e2:fracOf (c :: d)=some (pad (valL d) d.length 3):=if_pos hc
     rw [e2] at hf
     exact ⟨hc.2.2.1,hc.2.2.2.1,(Option.some.inj hf).symm,parseT_some hb (by rw [hr,e2];exact hf)⟩
    ·have e2:fracOf (c :: d)=none:=if_neg hc
     rw [e2] at hf
     cases hf
set_option maxHeartbeats 4000000 in
theorem refParse_core (s:ByteArray)(neg:Bool)(t:List UInt8)(w:World)(ht:t.length≤20000)
    (HFORM:Hid (∀ w,Calls Tryz.prog 265 #[.string s] w fun e w'=>e=.returned (formT neg t)∧w=w')) :
    Calls Tryz.prog 226 #[.string s] w fun e w'=>e=.returned (parseT neg t)∧w=w':=by
 rcases both_ways neg t with ⟨h1,h2⟩ | ⟨d,p,h1,hd3,hda,hp,h2⟩
 ·have HP:=Lib.hid h2
  have HF:=Lib.hid h1
  clear h1 h2
  go_enter Tryz.func226,Tryz.ntmps226
  go_wp2_with fail
  refine (HFORM.out _).mono ?_
  rw [HF.out]
  rintro e w' ⟨rfl,rfl⟩
  unfold noForm
  go_wp2
  go_ret2
  refine ⟨?_,rfl⟩
  rw [HP.out]
  rfl
 ·have HP:=Lib.hid h2
  have HF:=Lib.hid h1
  have HPP:=Lib.hid hp
  have HDA:=Lib.hid hda
  have HWA:=Lib.hid (lead_all t)
  obtain ⟨wl,hwl⟩:∃ wl,lead t=wl:=⟨_,rfl⟩
  have hw1:wl.length≤20000:=by rw [← hwl];have:=lead_length t;omega
  rw [hwl] at HP HF HWA
  clear h1 h2 hp hda hwl
  go_enter Tryz.func226,Tryz.ntmps226
  go_wp2_with fail
  refine (HFORM.out _).mono ?_
  rw [HF.out]
  rintro e w' ⟨rfl,rfl⟩
  go_wp2
  go_loop [6] (fun a=>∃ (j:Nat) (x:List UInt8),a=.string ⟨x.toArray⟩∧x=d ++ List.replicate j 48∧x.length≤3) (fun a=>3 - Lib.strSize a)
  case atStart=>exact ⟨0,d,rfl,by simp,hd3⟩
  case round =>
   obtain ⟨j,x,rfl,hx,hx3⟩:=hrel
   have HX:=Lib.hid hx
   clear hx
   by_cases hlt:x.length < 3
   ·go_wp2
    go_round
    case rel=>exact ⟨j+1,x ++ [48],by rw [← ba_app],by rw [HX.out,List.replicate_succ',List.append_assoc],by rw [List.length_append];simp;omega⟩
    case measure =>
     rw [Lib.strSize_string,Lib.strSize_string,show (⟨#[48]⟩:ByteArray)=⟨[(48:UInt8)].toArray⟩ from rfl,ba_app,Lib.size_mk,Lib.size_mk,List.length_append]
     simp;omega
   ·have hj:j=3 - d.length:=by have:=congrArg List.length HX.out;rw [List.length_append,List.length_replicate] at this;omega
    have hxv:valL x=p:=by rw [HX.out,hj,valL_pad,HPP.out]
    have hxa:∀ c∈x,isDig c=true:=by
     intro c hc
     rw [HX.out] at hc
     rcases List.mem_append.1 hc with h | h
     ·exact List.all_eq_true.1 HDA.out c h
     ·rw [(List.mem_replicate.1 h).2];rfl
    have hx4:x.length=3:=by omega
    obtain ⟨al,hal⟩:∃ al,((⟨wl.toArray⟩:ByteArray) ++ ⟨x.toArray⟩)=al:=⟨_,rfl⟩
    have hald:al.data.toList=wl ++ x:=by rw [← hal,ba_app]
    have hals:al.size≤20003:=by rw [← size_data,hald,List.length_append];omega
    have hv:valL al.data.toList=valL wl*1000+p:=by rw [hald,valL_app,hx4,hxv]
    have hdg:∀ i (h:i < al.size),48≤al[i].toNat∧al[i].toNat≤57:=by
     intro i h
     refine dig_range ?_
     have hm:=List.mem_of_getElem? (dig_at al i h)
     rw [hald] at hm
     rcases List.mem_append.1 hm with hm | hm
     ·exact HWA.out _ hm
     ·exact hxa _ hm
    have HV:=Lib.hid hv
    have HDG:=Lib.hid hdg
    clear hj hxv hxa hx4 hald hv hdg HX
    go_wp2
    go_loop [8,10] (fun nv iv=>∃ n i:Nat,nv=.int .i64 n∧iv=.int .i64 i∧i≤al.size∧n≤268435456∧n=valL (al.data.toList.take i)) (fun _ iv=>al.size - (intOf iv).toNat)
    case atStart=>exact ⟨0,0,rfl,rfl,Nat.zero_le _,by omega,rfl⟩
    case round =>
     obtain ⟨n,i,rfl,rfl,hi,hn,hnv⟩:=hrel
     have HN:=Lib.hid hnv
     clear hnv
     by_cases hia:i < al.size
     ·obtain ⟨c1,c2⟩:=HDG.out i hia
      have hstep:valL (al.data.toList.take (i+1))=10*n+(al[i].toNat - 48):=by rw [take_one al i hia,valL_snoc,← HN.out]
      have HST:=Lib.hid hstep
      clear hstep
      by_cases ho:268435456 < 10*n+(al[i].toNat - 48)
      ·have hov:268435456 < valL wl*1000+p:=by
         have:=valL_take_le al.data.toList (i+1)
         rw [HST.out,HV.out] at this
         omega
       have HO:=Lib.hid hov
       clear hov
       go_wp2
       go_ret2
       refine ⟨?_,rfl⟩
       rw [HP.out,if_pos HO.out]
       rfl
      ·go_wp2
       go_round
       case rel=>exact ⟨10*n+(al[i].toNat - 48),i+1,congrArg (Value.int .i64) (by omega),by go_num,by omega,by omega,HST.out.symm⟩
       case measure=>simp [intOf];omega
     ·obtain rfl:i=al.size:=by omega
      have hfin:n=valL wl*1000+p:=by rw [HN.out,← HV.out,List.take_of_length_le (by rw [size_data];omega)]
      have HFI:=Lib.hid hfin
      clear hfin
      cases neg
      ·go_wp2
       go_ret2
       refine ⟨?_,rfl⟩
       rw [HP.out,if_neg (by rw [← HFI.out];omega),← HFI.out]
       rfl
      ·go_wp2
       go_ret2
       refine ⟨?_,rfl⟩
       rw [HP.out,if_neg (by rw [← HFI.out];omega),← HFI.out]
       rfl
theorem refParse_any (s:ByteArray)(w:World)(hs:s.size≤20000) :
    Calls Tryz.prog 226 #[.string s] w fun e w'=>e=.returned (parseV s.data.toList)∧w=w':=by
 unfold parseV
 have hform:∀ w,Calls Tryz.prog 265 #[.string s] w fun e w'=>e=.returned (formV s.data.toList)∧w=w':=fun w=>form_any s w (by omega)
 unfold formV at hform
 have hl:=size_data s
 by_cases h:s.data.toList.head?=some 45
 ·rw [if_pos h] at hform ⊢
  exact refParse_core s true _ w (by rw [List.length_tail];omega) (Lib.hid hform)
 ·rw [if_neg h] at hform ⊢
  exact refParse_core s false _ w (by omega) (Lib.hid hform)
theorem refParse_of (s:ByteArray)(v:Value)(w:World)(hs:s.size≤20000)(hv:Hid (parseV s.data.toList=v)) :
    Calls Tryz.prog 226 #[.string s] w fun e w'=>e=.returned v∧w=w':=by
 have:=refParse_any s w hs
 rw [hv.out] at this
 exact this
end Go.Proofs.YtgmidodmmlmmeaaGreatDoor
namespace Go.Proofs.YtgmidodmmlmmeaaGreatDoor
open Go.RowKit lex
abbrev ba (l:List UInt8):ByteArray:=⟨l.toArray⟩
theorem ba_ext {a b:ByteArray}(h:a.data.toList=b.data.toList):a=b:=by
 cases a;cases b;simp at h;subst h;rfl
theorem ba_of {a:ByteArray}{l:List UInt8}(h:a.data.toList=l):a=ba l:=ba_ext (by simp [h])
theorem ret_sn {a b:ByteArray}{n:Int}(h:a=b):Ending.returned (.tuple #[.string a,.int .i64 n])=.returned (.tuple #[.string b,.int .i64 n]):=by rw [h]
theorem ba_add (a b:ByteArray):(a ++ b).data.toList=a.data.toList ++ b.data.toList:=by simp
theorem ba_one (s:ByteArray)(k:Nat)(h:k < s.size):(s.extract k (k+1)).data.toList=[s[k]]:=by
 have:(s.extract k (k+1)).data.toList=(s.data.toList.drop k).take 1:=by
  rw [ByteArray.data_extract,Array.toList_extract,List.extract_eq_take_drop];congr 1;omega
 rw [this,List.take_one,List.head?_drop,dig_at' s k h];rfl
theorem esc_take {s:ByteArray}{k:Nat}(hlt:k < s.size):escL (s.data.toList.take (k+1))=escL (s.data.toList.take k) ++ (if s[k].toNat=34∨s[k].toNat=92 then [92,s[k]] else [s[k]]):=by
 rw [List.take_add_one,dig_at' s k hlt]
 simp [escL]
theorem esc_len (l:List UInt8):(escL l).length≤2*l.length:=by
 induction l with
 | nil=>simp [escL]
 | cons a l ih =>
  have e:escL (a :: l)=(if a.toNat=34∨a.toNat=92 then [92,a] else [a]) ++ escL l:=by simp [escL]
  rw [e,List.length_append,List.length_cons]
  split <;> simp <;> omega
def quoE (l:List UInt8):List UInt8 × Int:=if 32 < l.length then ([],2) else if l.all isPl then (quoL l,0) else ([],1)
set_option maxHeartbeats 1000000 in
theorem rquote_of (s:ByteArray)(q:List UInt8)(e0:Int)(w:World)(hs:s.size≤maxLen)(h:Hid (quoE s.data.toList=(q,e0))) :
    Calls Tryz.prog 255 #[.string s] w fun e w'=>e=.returned (.tuple #[.string (ba q),.int .i64 e0])∧w=w':=by
 have hm:=hs
 unfold maxLen at hs
 have h':=h.out
 unfold quoE at h'
 rw [size_list] at h'
 clear h
 by_cases h32:32 < s.size
 ·rw [if_pos h32] at h'
  obtain ⟨rfl,rfl⟩:=Prod.mk.inj h'
  clear h'
  go_enter Tryz.func255,Tryz.ntmps255
  go_wp2
  go_ret2
  exact ⟨rfl,rfl⟩
 ·rw [if_neg h32] at h'
  obtain ⟨v,hv⟩:∃ v:Bool,s.data.toList.all isPl=v:=⟨_,rfl⟩
  rw [hv] at h'
  have HV:=Lh hv
  clear hv
  cases v
  ·obtain ⟨rfl,rfl⟩:=Prod.mk.inj h'
   clear h'
   go_enter Tryz.func255,Tryz.ntmps255
   go_wp2_with (go_at_call 282;refine (rplain_of _ _ _ hm HV).mono ?_;rintro e w' ⟨rfl,rfl⟩)
   go_ret2
   exact ⟨rfl,rfl⟩
  ·obtain ⟨hq,rfl⟩:=Prod.mk.inj h'
   have HQ:=Lh hq
   clear h' hq
   go_enter Tryz.func255,Tryz.ntmps255
   go_wp2_with (go_at_call 282;refine (rplain_of _ _ _ hm HV).mono ?_;rintro e w' ⟨rfl,rfl⟩)
   go_loop [4,5] (fun o i=>∃ (b:ByteArray) (k:Nat),k≤s.size∧o=.string b∧i=.int .i64 k∧b.size≤1+2*k∧b.data.toList=34 :: escL (s.data.toList.take k)) (fun _ i=>s.size - (intOf i).toNat)
   case atStart=>exact ⟨_,0,Nat.zero_le _,rfl,rfl,by simp;decide,rfl⟩
   case round =>
    obtain ⟨b,k,hk,rfl,rfl,hb,hw⟩:=hrel
    have HW:=Lh hw
    clear hw
    by_cases hlt:k < s.size
    ·have HE:=Lh (esc_take hlt)
     have H1:=Lh (ba_one s k hlt)
     have hx:(s.extract k (k+1)).size=1:=by rw [← size_list,H1.out];rfl
     by_cases h34:s[k].toNat=34
     ·have b1:((s[k].toNat:Int) == 34)=true:=by rw [beq_iff_eq];omega
      have HC:=Lh (show s[k].toNat=34∨s[k].toNat=92 from Or.inl h34)
      clear h34
      go_wp2
      go_round
      case rel=>exact ⟨_,k+1,by omega,rfl,by go_num,by rw [ByteArray.size_append,ByteArray.size_append,hx];show b.size+1+1≤_;omega,by rw [HE.out,if_pos HC.out,ba_add,ba_add,HW.out,H1.out];simp⟩
      case measure=>simp [intOf];omega
     ·have b1:((s[k].toNat:Int) == 34)=false:=by rw [beq_eq_false_iff_ne];omega
      by_cases h92:s[k].toNat=92
      ·have b2:((s[k].toNat:Int) == 92)=true:=by rw [beq_iff_eq];omega
       have HC:=Lh (show s[k].toNat=34∨s[k].toNat=92 from Or.inr h92)
       clear h34 h92
       go_wp2
       go_round
       case rel=>exact ⟨_,k+1,by omega,rfl,by go_num,by rw [ByteArray.size_append,ByteArray.size_append,hx];show b.size+1+1≤_;omega,by rw [HE.out,if_pos HC.out,ba_add,ba_add,HW.out,H1.out];simp⟩
       case measure=>simp [intOf];omega
      ·have b2:((s[k].toNat:Int) == 92)=false:=by rw [beq_eq_false_iff_ne];omega
       have HC:=Lh (show ¬ (s[k].toNat=34∨s[k].toNat=92) by omega)
       clear h34 h92
       go_wp2
       go_round
       case rel=>exact ⟨_,k+1,by omega,rfl,by go_num,by rw [ByteArray.size_append,hx];omega,by rw [HE.out,if_neg HC.out,ba_add,HW.out,H1.out];simp⟩
       case measure=>simp [intOf];omega
    ·obtain rfl:k=s.size:=by omega
     go_wp2
     go_ret2
     refine ⟨ret_sn (ba_of ?_),rfl⟩
     rw [ba_add,HW.out,List.take_of_length_le (by rw [size_list];omega),← HQ.out]
     rfl
theorem drop_at {s:ByteArray}{k:Nat}(h:k < s.size):s.data.toList.drop k=s[k] :: s.data.toList.drop (k+1):=by
 rw [List.drop_eq_getElem_cons (by rw [size_list];exact h)];rfl
theorem drop_end {s:ByteArray}{k:Nat}(h:s.size≤k):s.data.toList.drop k=[]:=List.drop_eq_nil_of_le (by rw [size_list];exact h)
end Go.Proofs.YtgmidodmmlmmeaaGreatDoor
