/-
  What the reference's form answers for every text: the parts of a number, or that the text has not the form of one. Conditions: none but a string's length.
-/
import Derived.Test.YtgmidodmmlmmeaaGreatDoorMae
namespace Go.Proofs.YtgmidodmmlmmeaaGreatDoor
open Go.RowKit
theorem results_four {fn:Func}{t u v x:Tmp}(h:fn.results=#[.tmp t,.tmp u,.tmp v,.tmp x])(tmps:Array Value)(P:Program)(w:World) :
    (results fn tmps).run P w=.ok (.tuple #[tmps.getD t undef,tmps.getD u undef,tmps.getD v undef,tmps.getD x undef]) w:=by
 simp [results,h]
def noForm:Value:=.tuple #[.bool false,.string ⟨#[]⟩,.string ⟨#[]⟩,.bool false]
def formT (neg:Bool)(t:List UInt8):Value :=
 if (lead t).length=0∨(1 < (lead t).length∧t.head?=some 48)∨(neg=true∧t=[48]) then noForm
 else match fracOf (t.drop (lead t).length) with
  | none=>noForm
  | some _=>.tuple #[.bool neg,.string ⟨(lead t).toArray⟩,.string ⟨(t.drop ((lead t).length+1)).toArray⟩,.bool true]
theorem formT_bad {neg:Bool}{t:List UInt8}(h:(lead t).length=0∨(1 < (lead t).length∧t.head?=some 48)∨(neg=true∧t=[48])):formT neg t=noForm:=if_pos h
theorem formT_none {neg:Bool}{t:List UInt8}(h2:fracOf (t.drop (lead t).length)=none):formT neg t=noForm:=by
 unfold formT;split
 ·rfl
 ·rw [h2]
theorem formT_some {neg:Bool}{t:List UInt8}{p:Nat}(h:¬ ((lead t).length=0∨(1 < (lead t).length∧t.head?=some 48)∨(neg=true∧t=[48])))(h2:fracOf (t.drop (lead t).length)=some p) :
    formT neg t=.tuple #[.bool neg,.string ⟨(lead t).toArray⟩,.string ⟨(t.drop ((lead t).length+1)).toArray⟩,.bool true]:=by
 unfold formT;rw [if_neg h,h2]
theorem empty_yes {b:ByteArray}(h:b.size=0):b.toList.isEmpty=true:=by
 rw [ByteArray.toList_eq,List.isEmpty_iff,← List.length_eq_zero_iff];simpa using h
theorem empty_no {b:ByteArray}(h:0 < b.size):b.toList.isEmpty=false:=by
 cases e:b.toList.isEmpty with
 | false=>rfl
 | true =>
  rw [ByteArray.toList_eq,List.isEmpty_iff,← List.length_eq_zero_iff] at e
  have:b.size=0:=by simpa using e
  omega
theorem byte_yes46 {c:UInt8}(h:c.toNat=46):((c.toNat:Int) == 46)=true:=by rw [beq_iff_eq];omega
theorem byte_no46 {c:UInt8}(h:c.toNat≠46):((c.toNat:Int) == 46)=false:=by rw [beq_eq_false_iff_ne];omega
theorem byte_yes48 {c:UInt8}(h:c.toNat=48):((c.toNat:Int) == 48)=true:=by rw [beq_iff_eq];omega
theorem byte_no48 {c:UInt8}(h:c.toNat≠48):((c.toNat:Int) == 48)=false:=by rw [beq_eq_false_iff_ne];omega
theorem one_yes {b:ByteArray}(h:b.data.toList=[48]):(b.toList == [48])=true:=by rw [ByteArray.toList_eq,h];rfl
theorem one_no {b:ByteArray}(h:b.data.toList≠[48]):(b.toList == [48])=false:=by rw [ByteArray.toList_eq];simpa using h
theorem whole_self (b:ByteArray):b.extract 0 b.size=b:=by
 apply ByteArray.ext;simp
theorem head_byte {b:ByteArray}(h:0 < b.size){c:UInt8}:b.data.toList.head?=some c ↔ b[0].toNat=c.toNat:=by
 rw [head_at b h]
 constructor
 ·intro e;rw [Option.some.inj e]
 ·intro e;exact congrArg some (UInt8.toNat_inj.1 e)
theorem size_data (b:ByteArray):b.data.toList.length=b.size:=by simp
theorem take_data (b:ByteArray)(k:Nat):(b.extract 0 k).data.toList=b.data.toList.take k:=by
 rw [Lib.extract_upto]
theorem dec_id (b:ByteArray):(⟨b.data.toList.toArray⟩:ByteArray)=b:=mk_list b
theorem frac_three {d:List UInt8}(h:fracOf (46 :: d)=none)(ha:d.all isDig=true):d.length < 1∨3 < d.length∨d.getLast?=some 48:=by
 rcases Nat.lt_or_ge d.length 1 with h1 | h1
 ·exact Or.inl h1
 ·rcases Nat.lt_or_ge 3 d.length with h2 | h2
  ·exact Or.inr (Or.inl h2)
  ·by_cases h3:d.getLast?=some 48
   ·exact Or.inr (Or.inr h3)
   ·have e:fracOf (46 :: d)=some (pad (valL d) d.length 3):=if_pos ⟨rfl,h1,h2,ha,h3⟩
    rw [e] at h;cases h
theorem frac_good {d:List UInt8}{p:Nat}(h:fracOf (46 :: d)=some p):1≤d.length∧d.length≤3∧d.getLast?≠some 48:=by
 by_cases hc:(46:UInt8)=46∧1≤d.length∧d.length≤3∧d.all isDig=true∧d.getLast?≠some 48
 ·exact ⟨hc.2.1,hc.2.2.1,hc.2.2.2.2⟩
 ·have e:fracOf (46 :: d)=none:=if_neg hc
  rw [e] at h;cases h
theorem last_at {b:ByteArray}(h:b.size - 1 < b.size):b.data.toList.getLast?=some b[b.size - 1]:=by
 rw [List.getLast?_eq_getElem?,size_data,dig_at b _ h]
set_option maxHeartbeats 8000000 in
theorem form_neg (s tx:ByteArray)(w:World)(hs:s.size≤9223372036854775806)(h0:0 < s.size)(h45:((s[0].toNat:Int) == 45)=true)(htx:s.extract 1 s.size=tx)(htl:tx.size≤s.size) :
    Calls Tryz.prog 265 #[.string s] w fun e w'=>e=.returned (formT true tx.data.toList)∧w=w':=by
 go_enter Tryz.func265,Tryz.ntmps265
 go_wp2
 go_loop [7,8] (fun dv iv=>∃ dt i:Nat,dv=.int .i64 dt∧iv=.int .i64 i∧i≤tx.size∧dt≤tx.size∧Scan tx.data.toList i dt) (fun _ iv=>tx.size - (intOf iv).toNat)
 case atStart=>exact ⟨tx.size,0,rfl,rfl,Nat.zero_le _,Nat.le_refl _,by have:=Scan.start tx.data.toList;rw [size_data] at this;exact this⟩
 case round =>
  obtain ⟨dt,i,rfl,rfl,hi,hdt,hsc⟩:=hrel
  have HS:=Lib.hid hsc
  clear hsc
  by_cases hlt:i < tx.size
  ·have HC:=Lib.hid (dig_at tx i hlt)
   by_cases h46:tx[i].toNat=46
   ·have hb46:=byte_yes46 h46
    have hlo:(tx[i].toNat:Int) < 48:=by omega
    have H46:=Lib.hid h46
    clear h46
    by_cases hdn:dt=tx.size
    ·subst hdn
     go_wp2
     go_round
     case rel=>exact ⟨i,i+1,rfl,by go_num,by omega,by omega,by have:=HS.out;rw [← size_data] at this;exact this.point (by rw [HC.out];exact congrArg some (UInt8.toNat_inj.1 H46.out))⟩
     case measure=>simp [intOf];omega
    ·have hbd:((dt:Int) == tx.size)=false:=by rw [beq_eq_false_iff_ne];omega
     have HB:=Lib.hid (formT_none (neg:=true) (HS.out.bad HC.out (by unfold isDig;simp;omega) (fun h=>hdn (by rw [h.2,size_data]))))
     go_wp2
     (try simp only [Exit.inBlock,Exit.then])
     refine bodyPost_ret (results_four rfl _ _ _) rfl ⟨?_,rfl⟩
     rw [HB.out]
     rfl
   ·have hb46:=byte_no46 h46
    have H46:=Lib.hid h46
    clear h46
    by_cases hlo:(tx[i].toNat:Int) < 48
    ·have HB:=Lib.hid (formT_none (neg:=true) (HS.out.bad HC.out (by unfold isDig;simp;omega) (fun h=>H46.out (by rw [h.1];rfl))))
     go_wp2
     (try simp only [Exit.inBlock,Exit.then])
     refine bodyPost_ret (results_four rfl _ _ _) rfl ⟨?_,rfl⟩
     rw [HB.out]
     rfl
    ·by_cases hhi:57 < (tx[i].toNat:Int)
     ·have HB:=Lib.hid (formT_none (neg:=true) (HS.out.bad HC.out (by unfold isDig;simp;omega) (fun h=>H46.out (by rw [h.1];rfl))))
      go_wp2
      (try simp only [Exit.inBlock,Exit.then])
      refine bodyPost_ret (results_four rfl _ _ _) rfl ⟨?_,rfl⟩
      rw [HB.out]
      rfl
     ·go_wp2
      go_round
      case rel=>exact ⟨dt,i+1,rfl,by go_num,by omega,by omega,HS.out.digit HC.out (dig_of (by omega))⟩
      case measure=>simp [intOf];omega
  ·obtain rfl:i=tx.size:=by omega
   have hdone:=HS.out
   rw [← size_data] at hdone
   rcases hdone.done with ⟨hdt2,hL⟩ | ⟨hdt2,hL,hdr,hda⟩
   ·rw [size_data] at hdt2
    subst hdt2
    have hws:=whole_self tx
    have hlen:(lead tx.data.toList).length=tx.size:=by rw [hL,size_data]
    have hfr:fracOf (tx.data.toList.drop (lead tx.data.toList).length)=some 0:=by rw [hlen,List.drop_eq_nil_of_le (by rw [size_data];omega)];rfl
    have HFR:=Lib.hid hfr
    have HLEN:=Lib.hid hlen
    have HL:=Lib.hid hL
    clear hdone hL hlen hfr HS
    by_cases h0:tx.size=0
    ·have hemp:=empty_yes h0
     have HB:=Lib.hid (formT_bad (neg:=true) (Or.inl (by rw [HLEN.out];exact h0)))
     clear h0
     go_wp2
     (try simp only [Exit.inBlock,Exit.then])
     refine bodyPost_ret (results_four rfl _ _ _) rfl ⟨?_,rfl⟩
     rw [HB.out]
     rfl
    ·have h0s:0 < tx.size:=by omega
     have hemp:=empty_no h0s
     clear h0
     by_cases h1:1 < tx.size
     ·have h48n:tx.data.toList≠[48]:=fun h=>by have:=size_data tx;rw [h] at this;simp at this;omega
      have hone:=one_no h48n
      by_cases h48:tx[0].toNat=48
      ·have hb48:=byte_yes48 h48
       have HB:=Lib.hid (formT_bad (neg:=true) (Or.inr (Or.inl ⟨by rw [HLEN.out];exact h1,(head_byte h0s).2 h48⟩)))
       clear h48
       go_wp2
       (try simp only [Exit.inBlock,Exit.then])
       refine bodyPost_ret (results_four rfl _ _ _) rfl ⟨?_,rfl⟩
       rw [HB.out]
       rfl
      ·have hb48:=byte_no48 h48
       have hg:=formT_some (neg:=true) (p:=0) (t:=tx.data.toList) (by
        rintro (h | h | h)
        ·have:=HLEN.out;omega
        ·exact h48 ((head_byte h0s).1 h.2)
        ·exact h48n h.2) HFR.out
       rw [HLEN.out,HL.out,List.drop_eq_nil_of_le (by rw [size_data];omega),dec_id] at hg
       have HG:=Lib.hid hg
       clear h48 hg h48n
       go_wp2
       (try simp only [Exit.inBlock,Exit.then])
       refine bodyPost_ret (results_four rfl _ _ _) rfl ⟨?_,rfl⟩
       rw [HG.out]
       rfl
     ·by_cases h48:tx.data.toList=[48]
      ·have hone:=one_yes h48
       have HB:=Lib.hid (formT_bad (neg:=true) (Or.inr (Or.inr ⟨rfl,h48⟩)))
       clear h48
       go_wp2
       (try simp only [Exit.inBlock,Exit.then])
       refine bodyPost_ret (results_four rfl _ _ _) rfl ⟨?_,rfl⟩
       rw [HB.out]
       rfl
      ·have hone:=one_no h48
       have hg:=formT_some (neg:=true) (p:=0) (t:=tx.data.toList) (by
        rintro (h | h | h)
        ·have:=HLEN.out;omega
        ·have:=HLEN.out;omega
        ·exact h48 h.2) HFR.out
       rw [HLEN.out,HL.out,List.drop_eq_nil_of_le (by rw [size_data];omega),dec_id] at hg
       have HG:=Lib.hid hg
       clear h48 hg
       go_wp2
       (try simp only [Exit.inBlock,Exit.then])
       refine bodyPost_ret (results_four rfl _ _ _) rfl ⟨?_,rfl⟩
       rw [HG.out]
       rfl
   ·rw [size_data] at hdt2
    obtain ⟨wh,hwh⟩:∃ wh,tx.extract 0 dt=wh:=⟨_,rfl⟩
    obtain ⟨pt,hpt⟩:∃ pt,tx.extract (dt+1) tx.size=pt:=⟨_,rfl⟩
    have hwd:wh.data.toList=lead tx.data.toList:=by rw [← hwh,take_data,lead_eq_take tx.data.toList,hL]
    have hpd:pt.data.toList=tx.data.toList.drop (dt+1):=by rw [← hpt,drop_extract]
    have hws:wh.size=dt:=by rw [← size_data,hwd,← hL]
    have hps:pt.size=tx.size - (dt+1):=by rw [← size_data,hpd,List.length_drop,size_data]
    have hws1:wh.size≤dt:=by omega
    have hws2:dt≤wh.size:=by omega
    have hptm:pt.size≤tx.size:=by omega
    rw [← hpd] at hda hdr
    have HL:=Lib.hid hL
    have HWD:=Lib.hid hwd
    have HPD:=Lib.hid hpd
    have HDR:=Lib.hid hdr
    have HDA:=Lib.hid hda
    have HPS:=Lib.hid hps
    clear hdone hL hwd hpd hdr hda hws hps HS
    cases hf:fracOf (46 :: pt.data.toList) with
    | none =>
     have HB:=Lib.hid (formT_none (neg:=true) (t:=tx.data.toList) (by rw [HDR.out];exact hf))
     rcases frac_three hf HDA.out with h | h | h
     ·rw [size_data] at h
      clear hf
      go_wp2
      (try simp only [Exit.inBlock,Exit.then])
      refine bodyPost_ret (results_four rfl _ _ _) rfl ⟨?_,rfl⟩
      rw [HB.out]
      rfl
     ·rw [size_data] at h
      clear hf
      go_wp2
      (try simp only [Exit.inBlock,Exit.then])
      refine bodyPost_ret (results_four rfl _ _ _) rfl ⟨?_,rfl⟩
      rw [HB.out]
      rfl
     ·by_cases hp0:pt.size < 1
      ·clear hf h
       go_wp2
       (try simp only [Exit.inBlock,Exit.then])
       refine bodyPost_ret (results_four rfl _ _ _) rfl ⟨?_,rfl⟩
       rw [HB.out]
       rfl
      ·by_cases hp3:3 < pt.size
       ·clear hf h
        go_wp2
        (try simp only [Exit.inBlock,Exit.then])
        refine bodyPost_ret (results_four rfl _ _ _) rfl ⟨?_,rfl⟩
        rw [HB.out]
        rfl
       ·have hin:pt.size - 1 < pt.size:=by omega
        rw [last_at hin] at h
        have hb48:=byte_yes48 (c:=pt[pt.size - 1]) (by rw [Option.some.inj h];rfl)
        clear hf h
        go_wp2
        (try simp only [Exit.inBlock,Exit.then])
        refine bodyPost_ret (results_four rfl _ _ _) rfl ⟨?_,rfl⟩
        rw [HB.out]
        rfl
    | some p =>
     obtain ⟨hp1,hp3,hpl⟩:=frac_good hf
     rw [size_data] at hp1 hp3
     have hin:pt.size - 1 < pt.size:=by omega
     rw [last_at hin] at hpl
     have hbl:=byte_no48 (c:=pt[pt.size - 1]) (fun h=>hpl (congrArg some (UInt8.toNat_inj.1 h)))
     have hpe:=empty_no (b:=pt) (by omega)
     have HF:Hid (fracOf (tx.data.toList.drop (lead tx.data.toList).length)=some p):=Lib.hid (by rw [HDR.out];exact hf)
     clear hf hpl
     by_cases h0:dt=0
     ·have hemp:=empty_yes (b:=wh) (by omega)
      have HB:=Lib.hid (formT_bad (neg:=true) (t:=tx.data.toList) (Or.inl (by rw [← HL.out];exact h0)))
      clear h0
      go_wp2
      (try simp only [Exit.inBlock,Exit.then])
      refine bodyPost_ret (results_four rfl _ _ _) rfl ⟨?_,rfl⟩
      rw [HB.out]
      rfl
     ·have h0s:0 < wh.size:=by omega
      have hemp:=empty_no h0s
      have hhd:wh.data.toList.head?=tx.data.toList.head?:=by rw [HWD.out];exact lead_head (by rw [← HL.out];exact h0)
      have HHD:=Lib.hid hhd
      have hnb:tx.data.toList≠[48]:=by
       intro h
       have e:=HDR.out
       rw [h] at e
       simp [lead,isDig] at e
      clear h0 hhd
      by_cases h1:1 < dt
      ·have h1w:1 < wh.size:=by omega
       have hone:=one_no (b:=wh) (fun h=>by have:=size_data wh;rw [h] at this;simp at this;omega)
       by_cases h48:wh[0].toNat=48
       ·have hb48:=byte_yes48 h48
        have HB:=Lib.hid (formT_bad (neg:=true) (t:=tx.data.toList) (Or.inr (Or.inl ⟨by rw [← HL.out];exact h1,by rw [← HHD.out];exact (head_byte h0s).2 h48⟩)))
        clear h48 hnb
        go_wp2
        (try simp only [Exit.inBlock,Exit.then])
        refine bodyPost_ret (results_four rfl _ _ _) rfl ⟨?_,rfl⟩
        rw [HB.out]
        rfl
       ·have hb48:=byte_no48 h48
        have hg:=formT_some (neg:=true) (t:=tx.data.toList) (by
         rintro (h | h | h)
         ·rw [← HL.out] at h;omega
         ·rw [← HHD.out] at h;exact h48 ((head_byte h0s).1 h.2)
         ·exact hnb h.2) HF.out
        rw [← HL.out,← HPD.out,← HWD.out,dec_id,dec_id] at hg
        have HG:=Lib.hid hg
        clear h48 hg hnb
        go_wp2
        (try simp only [Exit.inBlock,Exit.then])
        refine bodyPost_ret (results_four rfl _ _ _) rfl ⟨?_,rfl⟩
        rw [HG.out]
        rfl
      ·have h1w:¬ 1 < wh.size:=by omega
       have hg:=formT_some (neg:=true) (t:=tx.data.toList) (by
        rintro (h | h | h)
        ·rw [← HL.out] at h;omega
        ·rw [← HL.out] at h;omega
        ·exact hnb h.2) HF.out
       rw [← HL.out,← HPD.out,← HWD.out,dec_id,dec_id] at hg
       have HG:=Lib.hid hg
       clear hg hnb
       by_cases hw48:wh.data.toList=[48]
       ·have hone:=one_yes hw48
        clear hw48
        go_wp2
        (try simp only [Exit.inBlock,Exit.then])
        refine bodyPost_ret (results_four rfl _ _ _) rfl ⟨?_,rfl⟩
        rw [HG.out]
        rfl
       ·have hone:=one_no hw48
        clear hw48
        go_wp2
        (try simp only [Exit.inBlock,Exit.then])
        refine bodyPost_ret (results_four rfl _ _ _) rfl ⟨?_,rfl⟩
        rw [HG.out]
        rfl
set_option maxHeartbeats 8000000 in
theorem form_pos (tx:ByteArray)(w:World)(hs:tx.size≤9223372036854775806)(h0:0 < tx.size)(h45:((tx[0].toNat:Int) == 45)=false) :
    Calls Tryz.prog 265 #[.string tx] w fun e w'=>e=.returned (formT false tx.data.toList)∧w=w':=by
 go_enter Tryz.func265,Tryz.ntmps265
 go_wp2
 go_loop [7,8] (fun dv iv=>∃ dt i:Nat,dv=.int .i64 dt∧iv=.int .i64 i∧i≤tx.size∧dt≤tx.size∧Scan tx.data.toList i dt) (fun _ iv=>tx.size - (intOf iv).toNat)
 case atStart=>exact ⟨tx.size,0,rfl,rfl,Nat.zero_le _,Nat.le_refl _,by have:=Scan.start tx.data.toList;rw [size_data] at this;exact this⟩
 case round =>
  obtain ⟨dt,i,rfl,rfl,hi,hdt,hsc⟩:=hrel
  have HS:=Lib.hid hsc
  clear hsc
  by_cases hlt:i < tx.size
  ·have HC:=Lib.hid (dig_at tx i hlt)
   by_cases h46:tx[i].toNat=46
   ·have hb46:=byte_yes46 h46
    have hlo:(tx[i].toNat:Int) < 48:=by omega
    have H46:=Lib.hid h46
    clear h46
    by_cases hdn:dt=tx.size
    ·subst hdn
     go_wp2
     go_round
     case rel=>exact ⟨i,i+1,rfl,by go_num,by omega,by omega,by have:=HS.out;rw [← size_data] at this;exact this.point (by rw [HC.out];exact congrArg some (UInt8.toNat_inj.1 H46.out))⟩
     case measure=>simp [intOf];omega
    ·have hbd:((dt:Int) == tx.size)=false:=by rw [beq_eq_false_iff_ne];omega
     have HB:=Lib.hid (formT_none (neg:=false) (HS.out.bad HC.out (by unfold isDig;simp;omega) (fun h=>hdn (by rw [h.2,size_data]))))
     go_wp2
     (try simp only [Exit.inBlock,Exit.then])
     refine bodyPost_ret (results_four rfl _ _ _) rfl ⟨?_,rfl⟩
     rw [HB.out]
     rfl
   ·have hb46:=byte_no46 h46
    have H46:=Lib.hid h46
    clear h46
    by_cases hlo:(tx[i].toNat:Int) < 48
    ·have HB:=Lib.hid (formT_none (neg:=false) (HS.out.bad HC.out (by unfold isDig;simp;omega) (fun h=>H46.out (by rw [h.1];rfl))))
     go_wp2
     (try simp only [Exit.inBlock,Exit.then])
     refine bodyPost_ret (results_four rfl _ _ _) rfl ⟨?_,rfl⟩
     rw [HB.out]
     rfl
    ·by_cases hhi:57 < (tx[i].toNat:Int)
     ·have HB:=Lib.hid (formT_none (neg:=false) (HS.out.bad HC.out (by unfold isDig;simp;omega) (fun h=>H46.out (by rw [h.1];rfl))))
      go_wp2
      (try simp only [Exit.inBlock,Exit.then])
      refine bodyPost_ret (results_four rfl _ _ _) rfl ⟨?_,rfl⟩
      rw [HB.out]
      rfl
     ·go_wp2
      go_round
      case rel=>exact ⟨dt,i+1,rfl,by go_num,by omega,by omega,HS.out.digit HC.out (dig_of (by omega))⟩
      case measure=>simp [intOf];omega
  ·obtain rfl:i=tx.size:=by omega
   have hdone:=HS.out
   rw [← size_data] at hdone
   rcases hdone.done with ⟨hdt2,hL⟩ | ⟨hdt2,hL,hdr,hda⟩
   ·rw [size_data] at hdt2
    subst hdt2
    have hws:=whole_self tx
    have hlen:(lead tx.data.toList).length=tx.size:=by rw [hL,size_data]
    have hfr:fracOf (tx.data.toList.drop (lead tx.data.toList).length)=some 0:=by rw [hlen,List.drop_eq_nil_of_le (by rw [size_data];omega)];rfl
    have HFR:=Lib.hid hfr
    have HLEN:=Lib.hid hlen
    have HL:=Lib.hid hL
    clear hdone hL hlen hfr HS
    by_cases h0:tx.size=0
    ·have hemp:=empty_yes h0
     have HB:=Lib.hid (formT_bad (neg:=false) (Or.inl (by rw [HLEN.out];exact h0)))
     clear h0
     go_wp2
     (try simp only [Exit.inBlock,Exit.then])
     refine bodyPost_ret (results_four rfl _ _ _) rfl ⟨?_,rfl⟩
     rw [HB.out]
     rfl
    ·have h0s:0 < tx.size:=by omega
     have hemp:=empty_no h0s
     clear h0
     by_cases h1:1 < tx.size
     ·have h48n:tx.data.toList≠[48]:=fun h=>by have:=size_data tx;rw [h] at this;simp at this;omega
      have hone:=one_no h48n
      by_cases h48:tx[0].toNat=48
      ·have hb48:=byte_yes48 h48
       have HB:=Lib.hid (formT_bad (neg:=false) (Or.inr (Or.inl ⟨by rw [HLEN.out];exact h1,(head_byte h0s).2 h48⟩)))
       clear h48
       go_wp2
       (try simp only [Exit.inBlock,Exit.then])
       refine bodyPost_ret (results_four rfl _ _ _) rfl ⟨?_,rfl⟩
       rw [HB.out]
       rfl
      ·have hb48:=byte_no48 h48
       have hg:=formT_some (neg:=false) (p:=0) (t:=tx.data.toList) (by
        rintro (h | h | h)
        ·have:=HLEN.out;omega
        ·exact h48 ((head_byte h0s).1 h.2)
        ·exact h48n h.2) HFR.out
       rw [HLEN.out,HL.out,List.drop_eq_nil_of_le (by rw [size_data];omega),dec_id] at hg
       have HG:=Lib.hid hg
       clear h48 hg h48n
       go_wp2
       (try simp only [Exit.inBlock,Exit.then])
       refine bodyPost_ret (results_four rfl _ _ _) rfl ⟨?_,rfl⟩
       rw [HG.out]
       rfl
     ·have hg:=formT_some (neg:=false) (p:=0) (t:=tx.data.toList) (by
        rintro (h | h | h)
        ·have:=HLEN.out;omega
        ·have:=HLEN.out;omega
        ·cases h.1) HFR.out
      rw [HLEN.out,HL.out,List.drop_eq_nil_of_le (by rw [size_data];omega),dec_id] at hg
      have HG:=Lib.hid hg
      clear hg
      go_wp2
      (try simp only [Exit.inBlock,Exit.then])
      refine bodyPost_ret (results_four rfl _ _ _) rfl ⟨?_,rfl⟩
      rw [HG.out]
      rfl
   ·rw [size_data] at hdt2
    obtain ⟨wh,hwh⟩:∃ wh,tx.extract 0 dt=wh:=⟨_,rfl⟩
    obtain ⟨pt,hpt⟩:∃ pt,tx.extract (dt+1) tx.size=pt:=⟨_,rfl⟩
    have hwd:wh.data.toList=lead tx.data.toList:=by rw [← hwh,take_data,lead_eq_take tx.data.toList,hL]
    have hpd:pt.data.toList=tx.data.toList.drop (dt+1):=by rw [← hpt,drop_extract]
    have hws:wh.size=dt:=by rw [← size_data,hwd,← hL]
    have hps:pt.size=tx.size - (dt+1):=by rw [← size_data,hpd,List.length_drop,size_data]
    have hws1:wh.size≤dt:=by omega
    have hws2:dt≤wh.size:=by omega
    have hptm:pt.size≤tx.size:=by omega
    rw [← hpd] at hda hdr
    have HL:=Lib.hid hL
    have HWD:=Lib.hid hwd
    have HPD:=Lib.hid hpd
    have HDR:=Lib.hid hdr
    have HDA:=Lib.hid hda
    have HPS:=Lib.hid hps
    clear hdone hL hwd hpd hdr hda hws hps HS
    cases hf:fracOf (46 :: pt.data.toList) with
    | none =>
     have HB:=Lib.hid (formT_none (neg:=false) (t:=tx.data.toList) (by rw [HDR.out];exact hf))
     rcases frac_three hf HDA.out with h | h | h
     ·rw [size_data] at h
      clear hf
      go_wp2
      (try simp only [Exit.inBlock,Exit.then])
      refine bodyPost_ret (results_four rfl _ _ _) rfl ⟨?_,rfl⟩
      rw [HB.out]
      rfl
     ·rw [size_data] at h
      clear hf
      go_wp2
      (try simp only [Exit.inBlock,Exit.then])
      refine bodyPost_ret (results_four rfl _ _ _) rfl ⟨?_,rfl⟩
      rw [HB.out]
      rfl
     ·by_cases hp0:pt.size < 1
      ·clear hf h
       go_wp2
       (try simp only [Exit.inBlock,Exit.then])
       refine bodyPost_ret (results_four rfl _ _ _) rfl ⟨?_,rfl⟩
       rw [HB.out]
       rfl
      ·by_cases hp3:3 < pt.size
       ·clear hf h
        go_wp2
        (try simp only [Exit.inBlock,Exit.then])
        refine bodyPost_ret (results_four rfl _ _ _) rfl ⟨?_,rfl⟩
        rw [HB.out]
        rfl
       ·have hin:pt.size - 1 < pt.size:=by omega
        rw [last_at hin] at h
        have hb48:=byte_yes48 (c:=pt[pt.size - 1]) (by rw [Option.some.inj h];rfl)
        clear hf h
        go_wp2
        (try simp only [Exit.inBlock,Exit.then])
        refine bodyPost_ret (results_four rfl _ _ _) rfl ⟨?_,rfl⟩
        rw [HB.out]
        rfl
    | some p =>
     obtain ⟨hp1,hp3,hpl⟩:=frac_good hf
     rw [size_data] at hp1 hp3
     have hin:pt.size - 1 < pt.size:=by omega
     rw [last_at hin] at hpl
     have hbl:=byte_no48 (c:=pt[pt.size - 1]) (fun h=>hpl (congrArg some (UInt8.toNat_inj.1 h)))
     have hpe:=empty_no (b:=pt) (by omega)
     have HF:Hid (fracOf (tx.data.toList.drop (lead tx.data.toList).length)=some p):=Lib.hid (by rw [HDR.out];exact hf)
     clear hf hpl
     by_cases h0:dt=0
     ·have hemp:=empty_yes (b:=wh) (by omega)
      have HB:=Lib.hid (formT_bad (neg:=false) (t:=tx.data.toList) (Or.inl (by rw [← HL.out];exact h0)))
      clear h0
      go_wp2
      (try simp only [Exit.inBlock,Exit.then])
      refine bodyPost_ret (results_four rfl _ _ _) rfl ⟨?_,rfl⟩
      rw [HB.out]
      rfl
     ·have h0s:0 < wh.size:=by omega
      have hemp:=empty_no h0s
      have hhd:wh.data.toList.head?=tx.data.toList.head?:=by rw [HWD.out];exact lead_head (by rw [← HL.out];exact h0)
      have HHD:=Lib.hid hhd
      have hnb:tx.data.toList≠[48]:=by
       intro h
       have e:=HDR.out
       rw [h] at e
       simp [lead,isDig] at e
      clear h0 hhd
      by_cases h1:1 < dt
      ·have h1w:1 < wh.size:=by omega
       have hone:=one_no (b:=wh) (fun h=>by have:=size_data wh;rw [h] at this;simp at this;omega)
       by_cases h48:wh[0].toNat=48
       ·have hb48:=byte_yes48 h48
        have HB:=Lib.hid (formT_bad (neg:=false) (t:=tx.data.toList) (Or.inr (Or.inl ⟨by rw [← HL.out];exact h1,by rw [← HHD.out];exact (head_byte h0s).2 h48⟩)))
        clear h48 hnb
        go_wp2
        (try simp only [Exit.inBlock,Exit.then])
        refine bodyPost_ret (results_four rfl _ _ _) rfl ⟨?_,rfl⟩
        rw [HB.out]
        rfl
       ·have hb48:=byte_no48 h48
        have hg:=formT_some (neg:=false) (t:=tx.data.toList) (by
         rintro (h | h | h)
         ·rw [← HL.out] at h;omega
         ·rw [← HHD.out] at h;exact h48 ((head_byte h0s).1 h.2)
         ·exact hnb h.2) HF.out
        rw [← HL.out,← HPD.out,← HWD.out,dec_id,dec_id] at hg
        have HG:=Lib.hid hg
        clear h48 hg hnb
        go_wp2
        (try simp only [Exit.inBlock,Exit.then])
        refine bodyPost_ret (results_four rfl _ _ _) rfl ⟨?_,rfl⟩
        rw [HG.out]
        rfl
      ·have h1w:¬ 1 < wh.size:=by omega
       have hg:=formT_some (neg:=false) (t:=tx.data.toList) (by
        rintro (h | h | h)
        ·rw [← HL.out] at h;omega
        ·rw [← HL.out] at h;omega
        ·exact hnb h.2) HF.out
       rw [← HL.out,← HPD.out,← HWD.out,dec_id,dec_id] at hg
       have HG:=Lib.hid hg
       clear hg hnb
       go_wp2
       (try simp only [Exit.inBlock,Exit.then])
       refine bodyPost_ret (results_four rfl _ _ _) rfl ⟨?_,rfl⟩
       rw [HG.out]
       rfl
end Go.Proofs.YtgmidodmmlmmeaaGreatDoor
