/-
  What the reference's Parse returns: the same as Parse of layer 1, for every text of at most 20000 bytes. Conditions: the text's length.
-/
import Derived.Test.YtcdoicgbjoikkaaGreatDoorMae
namespace Go.Proofs.YtcdoicgbjoikkaaGreatDoor
open Go.RowKit
theorem form_nil (w:World) :
    Calls Tryz.prog 152 #[.string ⟨#[]⟩] w fun e w'=>e=.returned (formT false [])∧w=w':=by
 have HB:Hid (formT false []=noForm):=Lib.hid (formT_bad (Or.inl rfl))
 go_enter Tryz.func152,Tryz.ntmps152
 go_wp2
 go_loop [7,8] (fun dv iv=>dv=.int .i64 0∧iv=.int .i64 0) (fun _ _=>0)
 case atStart=>exact ⟨rfl,rfl⟩
 case round =>
  obtain ⟨rfl,rfl⟩:=hrel
  go_wp2
  (try simp only [Exit.inBlock,Exit.then])
  refine bodyPost_ret (results_four rfl _ _ _) rfl ⟨?_,rfl⟩
  rw [HB.out]
  rfl
def formV (l:List UInt8):Value:=if l.head?=some 45 then formT true l.tail else formT false l
theorem form_any (s:ByteArray)(w:World)(hs:s.size≤9223372036854775806) :
    Calls Tryz.prog 152 #[.string s] w fun e w'=>e=.returned (formV s.data.toList)∧w=w':=by
 unfold formV
 rcases Nat.eq_zero_or_pos s.size with h0 | h0
 ·obtain rfl:s=⟨#[]⟩:=by
    apply ByteArray.ext
    have:s.data.toList=[]:=List.length_eq_zero_iff.1 (by rw [size_data];exact h0)
    simpa using this
  exact form_nil w
 ·have hh:=head_at s h0
  by_cases h:s[0].toNat=45
  ·have h45:s.data.toList.head?=some 45:=(head_byte h0).2 h
   rw [if_pos h45]
   have hd:(s.extract 1 s.size).data.toList=s.data.toList.tail:=by rw [drop_extract,List.drop_one]
   rw [← hd]
   exact form_neg s (s.extract 1 s.size) w hs h0 (by rw [beq_iff_eq];omega) rfl (drop_size s 1)
  ·have h45:¬ s.data.toList.head?=some 45:=fun e=>h ((head_byte h0).1 e)
   rw [if_neg h45]
   exact form_pos s w hs h0 (by rw [beq_eq_false_iff_ne];omega)
theorem valL_take_le (l:List UInt8)(k:Nat):valL (l.take k)≤valL l:=by
 have h:=valL_app (l.take k) (l.drop k)
 rw [List.take_append_drop] at h
 have h1:1≤10 ^ (l.drop k).length:=Nat.one_le_pow _ _ (by decide)
 have h2:valL (l.take k)*1≤valL (l.take k)*10 ^ (l.drop k).length:=Nat.mul_le_mul_left _ h1
 omega
theorem both_ways (neg:Bool)(t:List UInt8):(formT neg t=noForm∧parseT neg t=synV) ∨
    ∃ (d:List UInt8) (p:Nat),formT neg t=.tuple #[.bool neg,.string ⟨(lead t).toArray⟩,.string ⟨d.toArray⟩,.bool true]∧d.length≤3∧d.all isDig=true∧p=pad (valL d) d.length 3 ∧
     parseT neg t=if 268435456 < valL (lead t)*1000+p then ovfV else .tuple #[.int .i64 (if neg then -((valL (lead t)*1000+p:Nat):Int) else ((valL (lead t)*1000+p:Nat):Int)),.int .i64 0]:=by
 by_cases hb:(lead t).length=0∨(1 < (lead t).length∧t.head?=some 48)∨(neg=true∧t=[48])
 ·exact Or.inl ⟨formT_bad hb,parseT_bad hb⟩
 ·cases hf:fracOf (t.drop (lead t).length) with
  | none=>exact Or.inl ⟨formT_none hf,parseT_none hf⟩
  | some p =>
   refine Or.inr ⟨_,p,formT_some hb hf,?_⟩
   have e:t.drop ((lead t).length+1)=(t.drop (lead t).length).tail:=by rw [List.tail_drop]
   rw [e]
   cases hr:t.drop (lead t).length with
   | nil =>
    rw [hr] at hf
    have:p=0:=(Option.some.inj hf).symm
    exact ⟨by simp,rfl,by rw [this];rfl,parseT_some hb (by rw [hr];exact hf)⟩
   | cons c d =>
    rw [hr] at hf
    by_cases hc:c=46∧1≤d.length∧d.length≤3∧d.all isDig=true∧d.getLast?≠some 48
    ·have e2:fracOf (c :: d)=some (pad (valL d) d.length 3):=if_pos hc
     rw [e2] at hf
     exact ⟨hc.2.2.1,hc.2.2.2.1,(Option.some.inj hf).symm,parseT_some hb (by rw [hr,e2];exact hf)⟩
    ·have e2:fracOf (c :: d)=none:=if_neg hc
     rw [e2] at hf
     cases hf
set_option maxHeartbeats 4000000 in
theorem refParse_core (s:ByteArray)(neg:Bool)(t:List UInt8)(w:World)(ht:t.length≤20000)
    (HFORM:Hid (∀ w,Calls Tryz.prog 152 #[.string s] w fun e w'=>e=.returned (formT neg t)∧w=w')) :
    Calls Tryz.prog 123 #[.string s] w fun e w'=>e=.returned (parseT neg t)∧w=w':=by
 rcases both_ways neg t with ⟨h1,h2⟩ | ⟨d,p,h1,hd3,hda,hp,h2⟩
 ·have HP:=Lib.hid h2
  have HF:=Lib.hid h1
  clear h1 h2
  go_enter Tryz.func123,Tryz.ntmps123
  go_wp2_with fail
  refine (HFORM.out _).mono ?_
  rw [HF.out]
  rintro e w' ⟨rfl,rfl⟩
  unfold noForm
  go_wp2
  go_ret2
  refine ⟨?_,rfl⟩
  rw [HP.out]
  rfl
 ·have HP:=Lib.hid h2
  have HF:=Lib.hid h1
  have HPP:=Lib.hid hp
  have HDA:=Lib.hid hda
  have HWA:=Lib.hid (lead_all t)
  obtain ⟨wl,hwl⟩:∃ wl,lead t=wl:=⟨_,rfl⟩
  have hw1:wl.length≤20000:=by rw [← hwl];have:=lead_length t;omega
  rw [hwl] at HP HF HWA
  clear h1 h2 hp hda hwl
  go_enter Tryz.func123,Tryz.ntmps123
  go_wp2_with fail
  refine (HFORM.out _).mono ?_
  rw [HF.out]
  rintro e w' ⟨rfl,rfl⟩
  go_wp2
  go_loop [6] (fun a=>∃ (j:Nat) (x:List UInt8),a=.string ⟨x.toArray⟩∧x=d ++ List.replicate j 48∧x.length≤3) (fun a=>3 - Lib.strSize a)
  case atStart=>exact ⟨0,d,rfl,by simp,hd3⟩
  case round =>
   obtain ⟨j,x,rfl,hx,hx3⟩:=hrel
   have HX:=Lib.hid hx
   clear hx
   by_cases hlt:x.length < 3
   ·go_wp2
    go_round
    case rel=>exact ⟨j+1,x ++ [48],by rw [← ba_app],by rw [HX.out,List.replicate_succ',List.append_assoc],by rw [List.length_append];simp;omega⟩
    case measure =>
     rw [Lib.strSize_string,Lib.strSize_string,show (⟨#[48]⟩:ByteArray)=⟨[(48:UInt8)].toArray⟩ from rfl,ba_app,Lib.size_mk,Lib.size_mk,List.length_append]
     simp;omega
   ·have hj:j=3 - d.length:=by have:=congrArg List.length HX.out;rw [List.length_append,List.length_replicate] at this;omega
    have hxv:valL x=p:=by rw [HX.out,hj,valL_pad,HPP.out]
    have hxa:∀ c∈x,isDig c=true:=by
     intro c hc
     rw [HX.out] at hc
     rcases List.mem_append.1 hc with h | h
     ·exact List.all_eq_true.1 HDA.out c h
     ·rw [(List.mem_replicate.1 h).2];rfl
    have hx4:x.length=3:=by omega
    obtain ⟨al,hal⟩:∃ al,((⟨wl.toArray⟩:ByteArray) ++ ⟨x.toArray⟩)=al:=⟨_,rfl⟩
    have hald:al.data.toList=wl ++ x:=by rw [← hal,ba_app]
    have hals:al.size≤20003:=by rw [← size_data,hald,List.length_append];omega
    have hv:valL al.data.toList=valL wl*1000+p:=by rw [hald,valL_app,hx4,hxv]
    have hdg:∀ i (h:i < al.size),48≤al[i].toNat∧al[i].toNat≤57:=by
     intro i h
     refine dig_range ?_
     have hm:=List.mem_of_getElem? (dig_at al i h)
     rw [hald] at hm
     rcases List.mem_append.1 hm with hm | hm
     ·exact HWA.out _ hm
     ·exact hxa _ hm
    have HV:=Lib.hid hv
    have HDG:=Lib.hid hdg
    clear hj hxv hxa hx4 hald hv hdg HX
    go_wp2
    go_loop [8,10] (fun nv iv=>∃ n i:Nat,nv=.int .i64 n∧iv=.int .i64 i∧i≤al.size∧n≤268435456∧n=valL (al.data.toList.take i)) (fun _ iv=>al.size - (intOf iv).toNat)
    case atStart=>exact ⟨0,0,rfl,rfl,Nat.zero_le _,by omega,rfl⟩
    case round =>
     obtain ⟨n,i,rfl,rfl,hi,hn,hnv⟩:=hrel
     have HN:=Lib.hid hnv
     clear hnv
     by_cases hia:i < al.size
     ·obtain ⟨c1,c2⟩:=HDG.out i hia
      have hstep:valL (al.data.toList.take (i+1))=10*n+(al[i].toNat - 48):=by rw [take_one al i hia,valL_snoc,← HN.out]
      have HST:=Lib.hid hstep
      clear hstep
      by_cases ho:268435456 < 10*n+(al[i].toNat - 48)
      ·have hov:268435456 < valL wl*1000+p:=by
         have:=valL_take_le al.data.toList (i+1)
         rw [HST.out,HV.out] at this
         omega
       have HO:=Lib.hid hov
       clear hov
       go_wp2
       go_ret2
       refine ⟨?_,rfl⟩
       rw [HP.out,if_pos HO.out]
       rfl
      ·go_wp2
       go_round
       case rel=>exact ⟨10*n+(al[i].toNat - 48),i+1,congrArg (Value.int .i64) (by omega),by go_num,by omega,by omega,HST.out.symm⟩
       case measure=>simp [intOf];omega
     ·obtain rfl:i=al.size:=by omega
      have hfin:n=valL wl*1000+p:=by rw [HN.out,← HV.out,List.take_of_length_le (by rw [size_data];omega)]
      have HFI:=Lib.hid hfin
      clear hfin
      cases neg
      ·go_wp2
       go_ret2
       refine ⟨?_,rfl⟩
       rw [HP.out,if_neg (by rw [← HFI.out];omega),← HFI.out]
       rfl
      ·go_wp2
       go_ret2
       refine ⟨?_,rfl⟩
       rw [HP.out,if_neg (by rw [← HFI.out];omega),← HFI.out]
       rfl
theorem refParse_any (s:ByteArray)(w:World)(hs:s.size≤20000) :
    Calls Tryz.prog 123 #[.string s] w fun e w'=>e=.returned (parseV s.data.toList)∧w=w':=by
 unfold parseV
 have hform:∀ w,Calls Tryz.prog 152 #[.string s] w fun e w'=>e=.returned (formV s.data.toList)∧w=w':=fun w=>form_any s w (by omega)
 unfold formV at hform
 have hl:=size_data s
 by_cases h:s.data.toList.head?=some 45
 ·rw [if_pos h] at hform ⊢
  exact refParse_core s true _ w (by rw [List.length_tail];omega) (Lib.hid hform)
 ·rw [if_neg h] at hform ⊢
  exact refParse_core s false _ w (by omega) (Lib.hid hform)
theorem refParse_of (s:ByteArray)(v:Value)(w:World)(hs:s.size≤20000)(hv:Hid (parseV s.data.toList=v)) :
    Calls Tryz.prog 123 #[.string s] w fun e w'=>e=.returned v∧w=w':=by
 have:=refParse_any s w hs
 rw [hv.out] at this
 exact this
end Go.Proofs.YtcdoicgbjoikkaaGreatDoor
