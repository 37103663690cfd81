/-
  What the reference's text functions return for numbers: its digits are the decimal numeral, and its Format is the same text as that of layer 1. Conditions: none.
  Plain facts on how the reference reads the form of a number, letter by letter. No program is named here; no condition.
-/
import Derived.Test.YtgmidodmmlmmeaaGreatDoorMac
namespace Go.Proofs.YtgmidodmmlmmeaaGreatDoor
open Go.RowKit
def tenDigits:ByteArray:=⟨#[48,49,50,51,52,53,54,55,56,57]⟩
theorem ten_at:∀ k:Fin 10,(tenDigits.extract k.val (k.val+1)).data.toList=[UInt8.ofNat (48+k.val)]:=by decide +kernel
theorem ten_one (k:Nat)(h:k < 10):(tenDigits.extract k (k+1))=⟨[UInt8.ofNat (48+k)].toArray⟩:=by
 apply ByteArray.ext
 rw [← ten_at ⟨k,h⟩]
set_option maxHeartbeats 1000000 in
theorem digits_any (n:Nat)(w:World)(hn:n < 18446744073709551616) :
    Calls Tryz.prog 148 #[.int .u64 n] w fun e w'=>e=.returned (.string ⟨(Lib.decDigits n).toArray⟩)∧w=w':=by
 go_enter Tryz.func148,Tryz.ntmps148
 go_wp2
 go_loop [0,3] (fun u s=>∃ (k:Nat) (l:List UInt8),u=.int .u64 k∧s=.string ⟨l.toArray⟩∧k≤n∧l.length≤20∧Lib.decDigits n=Lib.decDigits k ++ l) (fun u _=>(intOf u).toNat)
 case atStart=>exact ⟨n,[],rfl,rfl,Nat.le_refl _,by simp,by simp⟩
 case round =>
  obtain ⟨k,l,rfl,rfl,hk,hl,hd⟩:=hrel
  have HD:=Lib.hid hd
  clear hd
  have HT:=Lib.hid (ten_one k)
  have HT2:=Lib.hid (ten_one (k % 10))
  by_cases h:9 < k
  ·have hstep:Lib.decDigits n=Lib.decDigits (k / 10) ++ (UInt8.ofNat (48+k % 10) :: l):=by
     rw [HD.out,Lib.decDigits,dif_neg (by omega),List.append_assoc];rfl
   have hlen:=congrArg List.length hstep
   have hn20:=dec_len n hn
   rw [List.length_append,List.length_cons] at hlen
   have HS:=Lib.hid hstep
   have hl1:l.length+1≤20:=by omega
   clear hstep hlen hn20
   go_wp2
   go_round
   case rel =>
    refine ⟨k / 10,UInt8.ofNat (48+k % 10) :: l,by go_num,?_,by omega,hl1,HS.out⟩
    show Value.string (tenDigits.extract (k % 10) (k % 10+1) ++ ⟨l.toArray⟩)=_
    rw [HT2.out (by omega),ba_app]
    rfl
   case measure=>simp [intOf];omega
  ·go_wp2
   go_ret
   refine ⟨?_,rfl⟩
   show Ending.returned (Value.string (tenDigits.extract k (k+1) ++ ⟨l.toArray⟩))=_
   rw [HT.out (by omega),ba_app,HD.out]
   rw [Lib.decDigits,dif_pos (by omega)]
theorem digits_of (n:Int)(k:Nat)(l:List UInt8)(w:World)(h0:0≤n)(h1:n≤18446744073709551615)(hk:n=k)(hl:Hid (Lib.decDigits k=l)) :
    Calls Tryz.prog 148 #[.int .u64 n] w fun e w'=>e=.returned (.string ⟨l.toArray⟩)∧w=w':=by
 subst hk
 have:=digits_any k w (by omega)
 rw [hl.out] at this
 exact this
theorem take_extract (l:List UInt8)(k:Nat):((⟨l.toArray⟩:ByteArray).extract 0 k)=⟨(l.take k).toArray⟩:=by
 rw [Lib.extract_mk];simp
theorem drop_mk (l:List UInt8)(k:Nat):((⟨l.toArray⟩:ByteArray).extract k l.length)=⟨(l.drop k).toArray⟩:=by
 apply ByteArray.ext
 have:=ba_drop l k
 apply Array.ext'
 exact this
theorem last_byte (x y:List UInt8)(hx:x=y ++ [48])(hin:x.length - 1 < (⟨x.toArray⟩:ByteArray).size):(((⟨x.toArray⟩:ByteArray)[x.length - 1].toNat:Int) == 48)=true:=by
 subst hx
 have h:=Lib.getElem_mk (y ++ [48]) ((y ++ [48]).length - 1) hin
 have h2:(y ++ [(48:UInt8)])[(y ++ [(48:UInt8)]).length - 1]?=some 48:=by simp
 rw [h2] at h
 rw [← Option.some.inj h]
 rfl
set_option maxHeartbeats 2000000 in
theorem refFormat_any (n:Int)(w:World)(h0:-9223372036854775808≤n)(h1:n≤9223372036854775807) :
    Calls Tryz.prog 82 #[.int .i64 n] w fun e w'=>e=.returned (.string ⟨(fmtL n).toArray⟩)∧w=w':=by
 obtain ⟨m,hm⟩:∃ m,n.natAbs=m:=⟨_,rfl⟩
 have hm1:m≤9223372036854775808:=by omega
 obtain ⟨l1,e1⟩:∃ l,Lib.decDigits (m / 1000)=l:=⟨_,rfl⟩
 obtain ⟨l2,e2⟩:∃ l,Lib.decDigits (1000+m % 1000)=l:=⟨_,rfl⟩
 obtain ⟨l3,e3⟩:∃ l,Lib.trimRightB (l2.drop 1) 48=l:=⟨_,rfl⟩
 have g1:l1.length≤20:=by rw [← e1];exact dec_len _ (by omega)
 have g2:l2.length=4:=by rw [← e2,Lib.decDigits_length];exact Lib.nDigits_unique 3 _ (by omega) (by omega)
 have HF:Hid (fmtL n=(if n < 0 then [45] else []) ++ l1 ++ (if m % 1000=0 then [] else 46 :: l3)):=Lib.hid (by rw [fmtL,hm,e1,e2,e3])
 have hval:Hid (m % 1000≠0→l3≠[]∧l3.getLast?≠some 48∧∃ z,l2.drop 1=l3 ++ List.replicate z 48):=Lib.hid fun hr=>by
  have h:=trim_split (l2.drop 1)
  rw [e3] at h
  refine ⟨?_,h.2,_,h.1⟩
  intro hnil
  have hb:=frac_back (m % 1000) (by omega) (by omega)
  rw [e2,e3,hnil] at hb
  cases hb
 have HM:=Lib.hid hm
 have E1:=Lib.hid e1
 have E2:=Lib.hid e2
 clear hm e1 e2 e3
 by_cases hr:m % 1000=0
 ·by_cases hn:n < 0
  ·go_enter Tryz.func82,Tryz.ntmps82
   go_wp2_with fail
   refine (abs_of _ m _ (by omega) (by omega) HM).mono ?_
   rintro e w' ⟨rfl,rfl⟩
   go_wp2_with fail
   refine (digits_of _ _ l1 _ (by omega) (by omega) (by simp) E1).mono ?_
   rintro e w' ⟨rfl,rfl⟩
   go_wp2
   go_ret
   refine ⟨?_,rfl⟩
   show Ending.returned (Value.string ((⟨[45].toArray⟩:ByteArray) ++ ⟨l1.toArray⟩))=_
   rw [HF.out,if_pos hn,if_pos hr,ba_app,List.append_nil]
  ·go_enter Tryz.func82,Tryz.ntmps82
   go_wp2_with fail
   refine (abs_of _ m _ (by omega) (by omega) HM).mono ?_
   rintro e w' ⟨rfl,rfl⟩
   go_wp2_with fail
   refine (digits_of _ _ l1 _ (by omega) (by omega) (by simp) E1).mono ?_
   rintro e w' ⟨rfl,rfl⟩
   go_wp2
   go_ret
   refine ⟨?_,rfl⟩
   show Ending.returned (Value.string ⟨l1.toArray⟩)=_
   rw [HF.out,if_neg (by omega),if_pos hr,List.append_nil,List.nil_append]
 ·obtain ⟨hne,hlast,z,hz⟩:=hval.out hr
  have hzl:=congrArg List.length hz
  rw [List.length_drop,List.length_append,List.length_replicate] at hzl
  have HNE:=Lib.hid hne
  have HLAST:=Lib.hid hlast
  have HZ:=Lib.hid hz
  have g2a:l2.length≤4:=by omega
  have g2b:4≤l2.length:=by omega
  clear hne hlast hz g2 hval
  go_enter Tryz.func82,Tryz.ntmps82
  go_wp2_with fail
  refine (abs_of _ m _ (by omega) (by omega) HM).mono ?_
  rintro e w' ⟨rfl,rfl⟩
  go_wp2_with fail
  refine (digits_of _ _ l1 _ (by omega) (by omega) (by simp) E1).mono ?_
  rintro e w' ⟨rfl,rfl⟩
  go_wp2_with fail
  refine (digits_of _ _ l2 _ (by omega) (by omega) (by simp) E2).mono ?_
  rintro e w' ⟨rfl,rfl⟩
  go_wp2
  go_loop [6] (fun t=>∃ (j:Nat) (x:List UInt8),t=.string ⟨x.toArray⟩∧x=l3 ++ List.replicate j 48∧x.length≤3∧1≤x.length) (fun t=>match t with | .string b=>b.size | _=>0)
  case atStart=>exact ⟨z,l2.drop 1,by rw [drop_mk],HZ.out,by rw [List.length_drop];omega,by rw [List.length_drop];omega⟩
  case round =>
   obtain ⟨j,x,rfl,hx,hx3,hx1⟩:=hrel
   have HX:=Lib.hid hx
   clear hx
   have hin:x.length - 1 < (⟨x.toArray⟩:ByteArray).size:=by rw [Lib.size_mk];omega
   have hat:=Lib.hid (Lib.getElem_mk x (x.length - 1) hin)
   cases j with
   | zero =>
    have hx0:x=l3:=by rw [HX.out];simp
    subst hx0
    have hb:(((⟨x.toArray⟩:ByteArray)[x.length - 1].toNat:Int) == 48)=false:=by
     rw [beq_eq_false_iff_ne]
     intro h
     have hl:=HLAST.out
     rw [List.getLast?_eq_getElem?,hat.out] at hl
     exact hl (congrArg some (UInt8.toNat_inj.1 (by rw [show (48:UInt8).toNat=48 from rfl];omega)))
    by_cases hn:n < 0
    ·go_wp2
     go_ret
     refine ⟨?_,rfl⟩
     show Ending.returned (Value.string ((⟨[45].toArray⟩:ByteArray) ++ ((⟨l1.toArray⟩:ByteArray) ++ ⟨[46].toArray⟩ ++ ⟨x.toArray⟩)))=_
     rw [HF.out,if_pos hn,if_neg hr,ba_app,ba_app,ba_app,List.append_assoc,List.append_assoc]
     rfl
    ·go_wp2
     go_ret
     refine ⟨?_,rfl⟩
     show Ending.returned (Value.string ((⟨l1.toArray⟩:ByteArray) ++ ⟨[46].toArray⟩ ++ ⟨x.toArray⟩))=_
     rw [HF.out,if_neg (by omega),if_neg hr,ba_app,ba_app,List.nil_append,List.append_assoc l1]
     rfl
   | succ j =>
    have hx2:x=(l3 ++ List.replicate j 48) ++ [48]:=by rw [HX.out,List.replicate_succ',List.append_assoc]
    have hb:(((⟨x.toArray⟩:ByteArray)[x.length - 1].toNat:Int) == 48)=true:=last_byte x _ hx2 hin
    have hy1:1≤(l3 ++ List.replicate j 48).length:=by
     rw [List.length_append]
     cases h:l3 with
     | nil=>exact absurd h HNE.out
     | cons a l=>simp;omega
    have hy3:x.length=(l3 ++ List.replicate j 48).length+1:=by rw [hx2,List.length_append,List.length_singleton]
    have HY:=Lib.hid hy3
    have HY1:=Lib.hid hy1
    have HX2:=Lib.hid hx2
    clear hx2 hy3 hy1
    go_wp2
    go_round
    case rel =>
     refine ⟨j,l3 ++ List.replicate j 48,?_,rfl,by have:=HY.out;omega,HY1.out⟩
     rw [take_extract]
     have:=HY.out
     have e:x.take (x.length - 1)=l3 ++ List.replicate j 48:=by
      rw [show x.length - 1=(l3 ++ List.replicate j 48).length by omega,HX2.out,List.take_left']
      rfl
     rw [e]
    case measure =>
     show ((⟨x.toArray⟩:ByteArray).extract 0 (x.length - 1)).size < (⟨x.toArray⟩:ByteArray).size
     rw [take_extract,Lib.size_mk,Lib.size_mk,List.length_take]
     omega
end Go.Proofs.YtgmidodmmlmmeaaGreatDoor
namespace Go.Proofs.YtgmidodmmlmmeaaGreatDoor
def Scan (t:List UInt8)(i dt:Nat):Prop :=
 (i≤(lead t).length∧dt=t.length)∨((lead t).length < i∧dt=(lead t).length∧t[(lead t).length]?=some 46∧((t.drop ((lead t).length+1)).take (i - ((lead t).length+1))).all isDig=true)
theorem Scan.start (t:List UInt8):Scan t 0 t.length:=Or.inl ⟨Nat.zero_le _,rfl⟩
theorem lead_in {t:List UInt8}{i:Nat}{c:UInt8}(h:i < (lead t).length)(hc:t[i]?=some c):isDig c=true:=by
 have e:=lead_eq_take t
 have:(lead t)[i]?=some c:=by
  rw [e,List.getElem?_take,if_pos h]
  exact hc
 exact lead_all t c (List.mem_of_getElem? this)
theorem Scan.digit {t:List UInt8}{i dt:Nat}{c:UInt8}(h:Scan t i dt)(hc:t[i]?=some c)(hd:isDig c=true):Scan t (i+1) dt:=by
 rcases h with ⟨h1,h2⟩ | ⟨h1,h2,h3,h4⟩
 ·left
  refine ⟨?_,h2⟩
  rcases Nat.lt_or_ge i (lead t).length with h | h
  ·omega
  ·obtain rfl:i=(lead t).length:=by omega
   have:=lead_stop t c hc
   rw [hd] at this
   cases this
 ·right
  refine ⟨by omega,h2,h3,?_⟩
  have hi:i < t.length:=by
   rcases Nat.lt_or_ge i t.length with h | h
   ·exact h
   ·rw [List.getElem?_eq_none h] at hc;cases hc
  have e:i+1 - ((lead t).length+1)=(i - ((lead t).length+1))+1:=by omega
  rw [e,take_snoc _ _ (by rw [List.length_drop];omega),List.all_append,h4]
  have hx:(t.drop ((lead t).length+1))[i - ((lead t).length+1)]'(by rw [List.length_drop];omega)=c:=by
   have h5:(t.drop ((lead t).length+1))[i - ((lead t).length+1)]?=some c:=by
    rw [List.getElem?_drop,show (lead t).length+1+(i - ((lead t).length+1))=i by omega]
    exact hc
   rw [List.getElem?_eq_getElem (by rw [List.length_drop];omega)] at h5
   exact Option.some.inj h5
  rw [hx]
  simp [hd]
theorem Scan.point {t:List UInt8}{i:Nat}(h:Scan t i t.length)(hc:t[i]?=some 46):Scan t (i+1) i:=by
 have hi:i < t.length:=by
  rcases Nat.lt_or_ge i t.length with h | h
  ·exact h
  ·rw [List.getElem?_eq_none h] at hc;cases hc
 rcases h with ⟨h1,_⟩ | ⟨h1,h2,_,_⟩
 ·have:i=(lead t).length:=by
    rcases Nat.lt_or_ge i (lead t).length with h | h
    ·have:=lead_in h hc
     cases this
    ·omega
  right
  subst this
  refine ⟨by omega,rfl,hc,?_⟩
  rw [Nat.sub_self]
  rfl
 ·omega
theorem drop_head {t:List UInt8}{k:Nat}{c:UInt8}(h:t[k]?=some c):t.drop k=c :: t.drop (k+1):=by
 have hk:k < t.length:=by
  rcases Nat.lt_or_ge k t.length with h2 | h2
  ·exact h2
  ·rw [List.getElem?_eq_none h2] at h;cases h
 rw [List.drop_eq_getElem_cons hk]
 rw [List.getElem?_eq_getElem hk] at h
 rw [Option.some.inj h]
theorem Scan.bad {t:List UInt8}{i dt:Nat}{c:UInt8}(h:Scan t i dt)(hc:t[i]?=some c)(hd:isDig c=false)(hp:¬ (c=46∧dt=t.length)):fracOf (t.drop (lead t).length)=none:=by
 rcases h with ⟨h1,h2⟩ | ⟨h1,h2,h3,h4⟩
 ·have:i=(lead t).length:=by
    rcases Nat.lt_or_ge i (lead t).length with h | h
    ·have:=lead_in h hc
     rw [hd] at this
     cases this
    ·omega
  subst this
  rw [drop_head hc]
  exact if_neg fun h=>hp ⟨h.1,h2⟩
 ·rw [drop_head h3]
  refine if_neg fun h=>?_
  have:=List.all_eq_true.1 h.2.2.2.1 c (List.mem_of_getElem? (i:=i - ((lead t).length+1)) (by rw [List.getElem?_drop,show (lead t).length+1+(i - ((lead t).length+1))=i by omega];exact hc))
  rw [hd] at this
  cases this
theorem Scan.done {t:List UInt8}{dt:Nat}(h:Scan t t.length dt):(dt=t.length∧lead t=t)∨(dt < t.length∧dt=(lead t).length∧t.drop (lead t).length=46 :: t.drop (dt+1)∧(t.drop (dt+1)).all isDig=true):=by
 rcases h with ⟨h1,h2⟩ | ⟨h1,h2,h3,h4⟩
 ·left
  refine ⟨h2,?_⟩
  rw [lead_eq_take t,List.take_of_length_le h1]
 ·right
  refine ⟨by omega,h2,?_,?_⟩
  ·rw [h2];exact drop_head h3
  ·rw [h2]
   rw [List.take_of_length_le (by rw [List.length_drop];omega)] at h4
   exact h4
end Go.Proofs.YtgmidodmmlmmeaaGreatDoor
