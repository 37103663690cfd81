/-
  What fraction of layer 1 returns: the thousandths of what follows the digits before the point, or that nothing of that kind follows. Conditions: none but a string's length.
  What Parse of layer 1 returns for every text. Conditions: none but a string's length.
-/
import Derived.Test.YtgmidodmmlmmeaaGreatDoorMab
namespace Go.Proofs.YtgmidodmmlmmeaaGreatDoor
open Go.RowKit
theorem mk_list (s:ByteArray):(⟨s.data.toList.toArray⟩:ByteArray)=s:=by
 apply ByteArray.ext;simp
theorem cut_yes (s:ByteArray)(c:UInt8)(d:List UInt8)(w:World)(hs:Hid (s.data.toList=c :: d)) :
    Calls Tryz.prog 220 #[.string s,.string ⟨#[c]⟩] w fun e w'=>e=.returned (.tuple #[.string ⟨d.toArray⟩,.bool true])∧w=w':=by
 have h:=Tryz.strings_CutPrefix s ⟨#[c]⟩ w
 have e1:Lib.hasPrefix s.data.toList [c]=true:=by rw [hs.out];simp [Lib.hasPrefix]
 have e2:Lib.trimPrefix s.data.toList [c]=d:=by unfold Lib.trimPrefix;rw [if_pos e1,hs.out];rfl
 have e3:(⟨#[c]⟩:ByteArray).data.toList=[c]:=rfl
 rw [e3,e1,e2] at h
 exact h.mono fun _ _ h=>⟨h.1,h.2.symm⟩
theorem cut_no (s:ByteArray)(c:UInt8)(w:World)(hs:Hid (s.data.toList.head?≠some c)) :
    Calls Tryz.prog 220 #[.string s,.string ⟨#[c]⟩] w fun e w'=>e=.returned (.tuple #[.string s,.bool false])∧w=w':=by
 have h:=Tryz.strings_CutPrefix s ⟨#[c]⟩ w
 have hne:=hs.out
 have e1:Lib.hasPrefix s.data.toList [c]=false:=by
  cases hl:s.data.toList with
  | nil=>simp [Lib.hasPrefix]
  | cons a l =>
   rw [hl] at hne
   have:¬ a=c:=by simpa using hne
   simp only [Lib.hasPrefix,List.isPrefixOf,Bool.and_true,beq_eq_false_iff_ne]
   exact fun h=>this h.symm
 have e2:Lib.trimPrefix s.data.toList [c]=s.data.toList:=by unfold Lib.trimPrefix;rw [if_neg (by simp [e1])]
 have e3:(⟨#[c]⟩:ByteArray).data.toList=[c]:=rfl
 rw [e3,e1,e2,mk_list] at h
 exact h.mono fun _ _ h=>⟨h.1,h.2.symm⟩
theorem lead_of (s:ByteArray)(v c:Nat)(w:World)(hs:s.size≤9223372036854775807)(hv:Hid (min (valL (lead s.data.toList)) 268436=v))(hc:Hid ((lead s.data.toList).length=c)) :
    Calls Tryz.prog 221 #[.string s] w fun e w'=>e=.returned (.tuple #[.int .i64 v,.int .i64 c])∧w=w':=by
 have h:=leadingDigits_any s w (by unfold maxLen;omega)
 rw [hv.out,hc.out] at h
 exact h
def pad (V n k:Nat):Nat:=V*10 ^ (k - n)
theorem pad_start (V n:Nat):pad V n n=V:=by simp [pad]
theorem pad_succ (V n k:Nat)(h:n≤k):pad V n (k+1)=10*pad V n k:=by
 unfold pad
 rw [show k+1 - n=(k - n)+1 by omega,Nat.pow_succ,← Nat.mul_assoc,Nat.mul_comm 10]
theorem pad_le (V n k:Nat)(hV:V≤1000)(hk:k≤3):pad V n k≤1000000:=by
 unfold pad
 have:10 ^ (k - n)≤10 ^ 3:=Nat.pow_le_pow_right (by decide) (by omega)
 calc V*10 ^ (k - n)≤1000*10 ^ 3:=Nat.mul_le_mul hV this
  _=1000000:=by decide
def fracOf:List UInt8→Option Nat
 | []=>some 0
 | c :: d=>if c=46∧1≤d.length∧d.length≤3∧d.all isDig=true∧d.getLast?≠some 48 then some (pad (valL d) d.length 3) else none
def fracV (l:List UInt8):Value:=match fracOf l with
 | none=>.tuple #[.int .i64 0,.bool false]
 | some p=>.tuple #[.int .i64 p,.bool true]
theorem fracV_no {c:UInt8}{d:List UInt8}(h:¬ (c=46∧1≤d.length∧d.length≤3∧d.all isDig=true∧d.getLast?≠some 48)):fracV (c :: d)=.tuple #[.int .i64 0,.bool false]:=by
 have:fracOf (c :: d)=none:=if_neg h
 unfold fracV;rw [this]
theorem fracV_yes {c:UInt8}{d:List UInt8}(h:c=46∧1≤d.length∧d.length≤3∧d.all isDig=true∧d.getLast?≠some 48):fracV (c :: d)=.tuple #[.int .i64 (pad (valL d) d.length 3),.bool true]:=by
 have:fracOf (c :: d)=some (pad (valL d) d.length 3):=if_pos h
 unfold fracV;rw [this]
theorem fraction_empty (s:ByteArray)(w:World)(he:s.data.toList=[]) :
    Calls Tryz.prog 222 #[.string s] w fun e w'=>e=.returned (.tuple #[.int .i64 0,.bool true])∧w=w':=by
 obtain rfl:s=⟨#[]⟩:=by apply ByteArray.ext;simpa using he
 clear he
 go_enter Tryz.func222,Tryz.ntmps222
 go_wp2
 go_ret2
 exact ⟨rfl,rfl⟩
theorem fraction_other (s:ByteArray)(w:World)(hs:s.size≤9223372036854775807)(hne:s.data.toList≠[])(h46:s.data.toList.head?≠some 46) :
    Calls Tryz.prog 222 #[.string s] w fun e w'=>e=.returned (.tuple #[.int .i64 0,.bool false])∧w=w':=by
 obtain ⟨v,hv⟩:∃ v:Nat,min (valL (lead s.data.toList)) 268436=v:=⟨_,rfl⟩
 obtain ⟨c,hc⟩:∃ v:Nat,(lead s.data.toList).length=v:=⟨_,rfl⟩
 have H46:=Lib.hid h46
 have HV:=Lib.hid hv
 have HC:=Lib.hid hc
 have hemp:s.toList.isEmpty=false:=by rw [ByteArray.toList_eq];cases h:s.data.toList with | nil=>exact absurd h hne | cons a l=>rfl
 clear h46 hv hc hne
 go_enter Tryz.func222,Tryz.ntmps222
 go_wp2_with fail
 refine (cut_no s 46 _ H46).mono ?_
 rintro e w' ⟨rfl,rfl⟩
 go_wp2_with fail
 refine (lead_of s v c _ hs HV HC).mono ?_
 rintro e w' ⟨rfl,rfl⟩
 go_wp2
 go_ret2
 exact ⟨rfl,rfl⟩
set_option maxHeartbeats 1000000 in
theorem fraction_point (s:ByteArray)(d:List UInt8)(w:World)(hd:d.length≤9223372036854775806)(hl:s.data.toList=46 :: d) :
    Calls Tryz.prog 222 #[.string s] w fun e w'=>e=.returned (fracV (46 :: d))∧w=w':=by
 obtain ⟨v,hv⟩:∃ v:Nat,min (valL (lead d)) 268436=v:=⟨_,rfl⟩
 obtain ⟨c,hc⟩:∃ v:Nat,(lead d).length=v:=⟨_,rfl⟩
 have hcd:c≤d.length:=by rw [← hc];exact lead_length d
 have hemp:s.toList.isEmpty=false:=by rw [ByteArray.toList_eq,hl];rfl
 have HV:Hid (min (valL (lead (⟨d.toArray⟩:ByteArray).data.toList)) 268436=v):=Lib.hid hv
 have HC:Hid ((lead (⟨d.toArray⟩:ByteArray).data.toList).length=c):=Lib.hid hc
 have HL:=Lib.hid hl
 clear hv hc hl
 by_cases h0:c=0
 ·have HN:=Lib.hid h0
  subst h0
  go_enter Tryz.func222,Tryz.ntmps222
  go_wp2_with fail
  refine (cut_yes s 46 d _ HL).mono ?_
  rintro e w' ⟨rfl,rfl⟩
  go_wp2_with fail
  refine (lead_of _ v _ _ (by rw [Lib.size_mk];omega) HV HC).mono ?_
  rintro e w' ⟨rfl,rfl⟩
  go_wp2
  go_ret2
  refine ⟨?_,rfl⟩
  rw [fracV_no (frac_short d _ HC.out (by omega) 46)]
  rfl
 ·by_cases h3:3 < c
  ·go_enter Tryz.func222,Tryz.ntmps222
   go_wp2_with fail
   refine (cut_yes s 46 d _ HL).mono ?_
   rintro e w' ⟨rfl,rfl⟩
   go_wp2_with fail
   refine (lead_of _ v c _ (by rw [Lib.size_mk];omega) HV HC).mono ?_
   rintro e w' ⟨rfl,rfl⟩
   go_wp2
   go_ret2
   refine ⟨?_,rfl⟩
   rw [fracV_no (frac_short d _ HC.out (by omega) 46)]
   rfl
  ·by_cases hn:c < d.length
   ·go_enter Tryz.func222,Tryz.ntmps222
    go_wp2_with fail
    refine (cut_yes s 46 d _ HL).mono ?_
    rintro e w' ⟨rfl,rfl⟩
    go_wp2_with fail
    refine (lead_of _ v c _ (by rw [Lib.size_mk];omega) HV HC).mono ?_
    rintro e w' ⟨rfl,rfl⟩
    go_wp2
    go_ret2
    refine ⟨?_,rfl⟩
    rw [fracV_no (frac_short d _ HC.out (by omega) 46)]
    rfl
   ·obtain rfl:c=d.length:=by omega
    go_enter Tryz.func222,Tryz.ntmps222
    go_wp2_with fail
    refine (cut_yes s 46 d _ HL).mono ?_
    rintro e w' ⟨rfl,rfl⟩
    go_wp2_with fail
    refine (lead_of _ v _ _ (by rw [Lib.size_mk];omega) HV HC).mono ?_
    rintro e w' ⟨rfl,rfl⟩
    go_wp2
    ·rename_i hA hB
     have hx:=Lib.getElem_mk d (d.length - 1) (by rw [Lib.size_mk];omega)
     have hq:d.getLast?=some 48:=by
      rw [List.getLast?_eq_getElem?,hx]
      have:((⟨d.toArray⟩:ByteArray)[d.length - 1]'(by rw [Lib.size_mk];omega)).toNat=48:=by
       rcases hB with (hB | hB) | hB
       ·have:=eq_of_beq hB;omega
       ·omega
       ·have:=eq_of_beq hB;omega
      exact congrArg some (UInt8.toNat_inj.1 this)
     go_ret2
     refine ⟨?_,rfl⟩
     rw [fracV_no (fun h=>h.2.2.2.2 hq)]
     rfl
    ·rename_i hA hB kk hk
     have hx:=Lib.getElem_mk d (d.length - 1) (by rw [Lib.size_mk];omega)
     have hq:d.getLast?≠some 48:=by
      rw [List.getLast?_eq_getElem?,hx]
      intro h
      have h:=Option.some.inj h
      have:=hB.2
      rw [h] at this
      simp at this
     have hall:=all_of_lead d HC.out
     have hv3:=valL_three d hall (by omega)
     have hv:v=valL d:=by have:=HV.out;rw [lead_of_all d hall] at this;omega
     subst hv
     have HW:=Lib.hid (fracV_yes (c:=46) ⟨rfl,by omega,by omega,hall,hq⟩)
     have hn3:d.length≤3:=by omega
     obtain ⟨V,hV⟩:∃ V,valL d=V:=⟨_,rfl⟩
     rw [hV] at hv3 HW ⊢
     clear hB hx hq hall HV HC hV
     go_loop [6,7] (fun x k=>∃ k' x':Nat,d.length≤k'∧k'≤3∧x'≤1000000∧k=.int .i64 k'∧x=.int .i64 x'∧x'=pad V d.length k') (fun _ k=>3 - (intOf k).toNat)
     case atStart=>exact ⟨d.length,V,Nat.le_refl _,hn3,by omega,rfl,rfl,(pad_start _ _).symm⟩
     case round =>
      obtain ⟨k,x,hk1,hk2,hx,rfl,rfl,hp⟩:=hrel
      have HP:=Lib.hid hp
      clear hp
      by_cases hlt:k < 3
      ·go_wp2
       go_round
       case rel=>exact ⟨k+1,10*x,by omega,by omega,by have:=pad_le V d.length (k+1) (by omega) (by omega);rw [pad_succ _ _ _ hk1,← HP.out] at this;exact this,by go_num,congrArg (Value.int .i64) (by omega),by rw [pad_succ _ _ _ hk1,HP.out]⟩
       case measure=>simp [intOf];omega
      ·obtain rfl:k=3:=by omega
       go_wp2
       go_ret2
       refine ⟨?_,rfl⟩
       rw [HW.out,← HP.out]
       rfl
theorem fracV_two (l:List UInt8):(∃ p:Nat,fracOf l=some p∧p≤999∧fracV l=.tuple #[.int .i64 p,.bool true])∨(fracOf l=none∧fracV l=.tuple #[.int .i64 0,.bool false]):=by
 cases l with
 | nil=>exact Or.inl ⟨0,rfl,by omega,rfl⟩
 | cons c d =>
  by_cases h:c=46∧1≤d.length∧d.length≤3∧d.all isDig=true∧d.getLast?≠some 48
  ·refine Or.inl ⟨_,if_pos h,?_,fracV_yes h⟩
   have h1:=valL_lt d h.2.2.2.1
   have h2:pad (valL d) d.length 3 < 10 ^ d.length*10 ^ (3 - d.length):=Nat.mul_lt_mul_of_pos_right h1 (Nat.pow_pos (by decide))
   rw [← Nat.pow_add,show d.length+(3 - d.length)=3 by omega] at h2
   omega
  ·exact Or.inr ⟨if_neg h,fracV_no h⟩
theorem fraction_any (s:ByteArray)(w:World)(hs:s.size≤9223372036854775807) :
    Calls Tryz.prog 222 #[.string s] w fun e w'=>e=.returned (fracV s.data.toList)∧w=w':=by
 have hsz:s.data.toList.length=s.size:=by simp
 cases hl:s.data.toList with
 | nil=>exact fraction_empty s w hl
 | cons c d =>
  have hd:d.length+1=s.size:=by rw [← hsz,hl];rfl
  by_cases hc:c=46
  ·subst hc
   exact fraction_point s d w (by omega) hl
  ·rw [fracV_no (fun h=>hc h.1)]
   exact fraction_other s w (by omega) (by rw [hl];simp) (by rw [hl];simpa using hc)
theorem fraction_of (s:ByteArray)(a b:Value)(w:World)(hs:s.size≤9223372036854775807)(hv:Hid (fracV s.data.toList=.tuple #[a,b])) :
    Calls Tryz.prog 222 #[.string s] w fun e w'=>e=.returned (.tuple #[a,b])∧w=w':=by
 have:=fraction_any s w hs
 rw [hv.out] at this
 exact this
def synV:Value:=.tuple #[.int .i64 0,.int .i64 4]
def ovfV:Value:=.tuple #[.int .i64 0,.int .i64 16]
def parseT (neg:Bool)(t:List UInt8):Value :=
 if (lead t).length=0∨(1 < (lead t).length∧t.head?=some 48)∨(neg=true∧t=[48]) then synV
 else match fracOf (t.drop (lead t).length) with
  | none=>synV
  | some p=>if 268435456 < valL (lead t)*1000+p then ovfV else .tuple #[.int .i64 (if neg then -((valL (lead t)*1000+p:Nat):Int) else ((valL (lead t)*1000+p:Nat):Int)),.int .i64 0]
def parseV (l:List UInt8):Value:=if l.head?=some 45 then parseT true l.tail else parseT false l
theorem parseT_bad {neg:Bool}{t:List UInt8}(h:(lead t).length=0∨(1 < (lead t).length∧t.head?=some 48)∨(neg=true∧t=[48])):parseT neg t=synV:=if_pos h
theorem parseT_none {neg:Bool}{t:List UInt8}(h2:fracOf (t.drop (lead t).length)=none):parseT neg t=synV:=by
 unfold parseT;split
 ·rfl
 ·rw [h2]
theorem parseT_some {neg:Bool}{t:List UInt8}{p:Nat}(h:¬ ((lead t).length=0∨(1 < (lead t).length∧t.head?=some 48)∨(neg=true∧t=[48])))(h2:fracOf (t.drop (lead t).length)=some p) :
    parseT neg t=if 268435456 < valL (lead t)*1000+p then ovfV else .tuple #[.int .i64 (if neg then -((valL (lead t)*1000+p:Nat):Int) else ((valL (lead t)*1000+p:Nat):Int)),.int .i64 0]:=by
 unfold parseT;rw [if_neg h,h2]
theorem sat_over {V p v:Nat}(hv:min V 268436=v)(hp:p≤999):(268435456 < v*1000+p) ↔ (268435456 < V*1000+p):=by omega
theorem sat_same {V p v:Nat}(hv:min V 268436=v)(h:¬ 268435456 < V*1000+p):v=V:=by omega
theorem drop_extract (s:ByteArray)(c:Nat):(s.extract c s.size).data.toList=s.data.toList.drop c:=by
 rw [Lib.extract_from]
theorem drop_size (s:ByteArray)(c:Nat):(s.extract c s.size).size≤s.size:=by
 rw [Lib.extract_from,Lib.size_mk,List.length_drop];simp
set_option maxHeartbeats 2000000 in
theorem parse_bad (s tx:ByteArray)(neg:Bool)(w:World)(hsz:tx.size≤9223372036854775807)
    (HCUT:Hid (∀ w,Calls Tryz.prog 220 #[.string s,.string ⟨#[45]⟩] w fun e w'=>e=.returned (.tuple #[.string tx,.bool neg])∧w=w'))
    (v c:Nat) (hc0:c≤tx.size) (HV:Hid (min (valL (lead tx.data.toList)) 268436=v)) (HC:Hid ((lead tx.data.toList).length=c)) (HB:Hid (parseT neg tx.data.toList=synV))
    (h0:0 < tx.size) (hg:(1 < c∧((tx[0].toNat:Int) == 48)=true)∨(1 < c∧((tx[0].toNat:Int) == 48)=false∧(s.toList == [45,48])=true)∨(c=1∧(s.toList == [45,48])=true)) :
    Calls Tryz.prog 166 #[.string s] w fun e w'=>e=.returned (parseT neg tx.data.toList)∧w=w':=by
 rcases hg with ⟨hz,h48⟩ | ⟨hz,h48,hE⟩ | ⟨rfl,hE⟩
 ·go_enter Tryz.func166,Tryz.ntmps166
  go_wp2_with fail
  refine (HCUT.out _).mono ?_
  rintro e w' ⟨rfl,rfl⟩
  go_wp2_with fail
  refine (lead_of tx v _ _ (by omega) HV HC).mono ?_
  rintro e w' ⟨rfl,rfl⟩
  go_wp2
  go_ret2
  refine ⟨?_,rfl⟩
  rw [HB.out]
  rfl
 ·go_enter Tryz.func166,Tryz.ntmps166
  go_wp2_with fail
  refine (HCUT.out _).mono ?_
  rintro e w' ⟨rfl,rfl⟩
  go_wp2_with fail
  refine (lead_of tx v _ _ (by omega) HV HC).mono ?_
  rintro e w' ⟨rfl,rfl⟩
  go_wp2
  go_ret2
  refine ⟨?_,rfl⟩
  rw [HB.out]
  rfl
 ·go_enter Tryz.func166,Tryz.ntmps166
  go_wp2_with fail
  refine (HCUT.out _).mono ?_
  rintro e w' ⟨rfl,rfl⟩
  go_wp2_with fail
  refine (lead_of tx v _ _ (by omega) HV HC).mono ?_
  rintro e w' ⟨rfl,rfl⟩
  go_wp2
  go_ret2
  refine ⟨?_,rfl⟩
  rw [HB.out]
  rfl
theorem parse_nil (s tx:ByteArray)(neg:Bool)(w:World)(hsz:tx.size≤9223372036854775807)
    (HCUT:Hid (∀ w,Calls Tryz.prog 220 #[.string s,.string ⟨#[45]⟩] w fun e w'=>e=.returned (.tuple #[.string tx,.bool neg])∧w=w'))
    (v:Nat) (HV:Hid (min (valL (lead tx.data.toList)) 268436=v)) (HC:Hid ((lead tx.data.toList).length=0)) (HB:Hid (parseT neg tx.data.toList=synV)) :
    Calls Tryz.prog 166 #[.string s] w fun e w'=>e=.returned (parseT neg tx.data.toList)∧w=w':=by
 go_enter Tryz.func166,Tryz.ntmps166
 go_wp2_with fail
 refine (HCUT.out _).mono ?_
 rintro e w' ⟨rfl,rfl⟩
 go_wp2_with fail
 refine (lead_of tx v _ _ (by omega) HV HC).mono ?_
 rintro e w' ⟨rfl,rfl⟩
 go_wp2
 go_ret2
 refine ⟨?_,rfl⟩
 rw [HB.out]
 rfl
set_option maxHeartbeats 4000000 in
theorem parse_main (s tx:ByteArray)(neg:Bool)(w:World)(hsz:tx.size≤9223372036854775807)
    (HCUT:Hid (∀ w,Calls Tryz.prog 220 #[.string s,.string ⟨#[45]⟩] w fun e w'=>e=.returned (.tuple #[.string tx,.bool neg])∧w=w'))
    (v c:Nat) (hc0:c≤tx.size) (hv1:v≤268436) (HV:Hid (min (valL (lead tx.data.toList)) 268436=v)) (HC:Hid ((lead tx.data.toList).length=c)) (HG:Hid (¬ ((lead tx.data.toList).length=0∨(1 < (lead tx.data.toList).length∧tx.data.toList.head?=some 48)∨(neg=true∧tx.data.toList=[48]))))
    (h0:0 < tx.size) (hE:(s.toList == [45,48])=false) (hg:(1 < c∧((tx[0].toNat:Int) == 48)=false)∨c=1) :
    Calls Tryz.prog 166 #[.string s] w fun e w'=>e=.returned (parseT neg tx.data.toList)∧w=w':=by
 have hdz:=drop_size tx c
 rcases fracV_two (tx.data.toList.drop (lead tx.data.toList).length) with ⟨p,hf1,hp,hf2⟩ | ⟨hf1,hf2⟩
 ·have HP:=Lib.hid (parseT_some HG.out hf1)
  have HF:Hid (fracV (tx.extract c tx.size).data.toList=.tuple #[.int .i64 p,.bool true]):=Lib.hid (by rw [drop_extract,← HC.out];exact hf2)
  have HO:=Lib.hid (sat_over (p:=p) HV.out hp)
  clear hf1 hf2
  by_cases ho:268435456 < v*1000+p
  ·have HQ:=Lib.hid (HO.out.1 ho)
   rcases hg with ⟨hz,h48⟩ | rfl
   all_goals
    go_enter Tryz.func166,Tryz.ntmps166
    go_wp2_with fail
    refine (HCUT.out _).mono ?_
    rintro e w' ⟨rfl,rfl⟩
    go_wp2_with fail
    refine (lead_of tx v _ _ (by omega) HV HC).mono ?_
    rintro e w' ⟨rfl,rfl⟩
    go_wp2_with fail
    refine (fraction_of _ _ _ _ (by omega) HF).mono ?_
    rintro e w' ⟨rfl,rfl⟩
    go_wp2
    go_ret2
    refine ⟨?_,rfl⟩
    rw [HP.out,if_pos HQ.out]
    rfl
  ·have HQ:=Lib.hid (fun h=>ho (HO.out.2 h))
   have HS:=Lib.hid (sat_same HV.out HQ.out)
   rcases hg with ⟨hz,h48⟩ | rfl <;> cases neg
   all_goals
    go_enter Tryz.func166,Tryz.ntmps166
    go_wp2_with fail
    refine (HCUT.out _).mono ?_
    rintro e w' ⟨rfl,rfl⟩
    go_wp2_with fail
    refine (lead_of tx v _ _ (by omega) HV HC).mono ?_
    rintro e w' ⟨rfl,rfl⟩
    go_wp2_with fail
    refine (fraction_of _ _ _ _ (by omega) HF).mono ?_
    rintro e w' ⟨rfl,rfl⟩
    go_wp2
    go_ret2
    refine ⟨?_,rfl⟩
    rw [HP.out,if_neg HQ.out,← HS.out]
    rfl
 ·have HB:=Lib.hid (parseT_none (neg:=neg) hf1)
  have HF:Hid (fracV (tx.extract c tx.size).data.toList=.tuple #[.int .i64 0,.bool false]):=Lib.hid (by rw [drop_extract,← HC.out];exact hf2)
  clear hf1 hf2
  rcases hg with ⟨hz,h48⟩ | rfl
  all_goals
   go_enter Tryz.func166,Tryz.ntmps166
   go_wp2_with fail
   refine (HCUT.out _).mono ?_
   rintro e w' ⟨rfl,rfl⟩
   go_wp2_with fail
   refine (lead_of tx v _ _ (by omega) HV HC).mono ?_
   rintro e w' ⟨rfl,rfl⟩
   go_wp2_with fail
   refine (fraction_of _ _ _ _ (by omega) HF).mono ?_
   rintro e w' ⟨rfl,rfl⟩
   go_wp2
   go_ret2
   refine ⟨?_,rfl⟩
   rw [HB.out]
   rfl
theorem head_at (tx:ByteArray)(h:0 < tx.size):tx.data.toList.head?=some tx[0]:=by
 rw [List.head?_eq_getElem?,dig_at tx 0 h]
theorem parse_both (s tx:ByteArray)(neg:Bool)(w:World)(hsz:tx.size≤9223372036854775807)
    (HCUT:Hid (∀ w,Calls Tryz.prog 220 #[.string s,.string ⟨#[45]⟩] w fun e w'=>e=.returned (.tuple #[.string tx,.bool neg])∧w=w'))
    (hE:(s.toList == [45,48])=true ↔ (neg=true∧tx.data.toList=[48])) :
    Calls Tryz.prog 166 #[.string s] w fun e w'=>e=.returned (parseT neg tx.data.toList)∧w=w':=by
 obtain ⟨v,hv⟩:∃ v:Nat,min (valL (lead tx.data.toList)) 268436=v:=⟨_,rfl⟩
 obtain ⟨c,hc⟩:∃ v:Nat,(lead tx.data.toList).length=v:=⟨_,rfl⟩
 have hcs:c≤tx.size:=by rw [← hc];have:=lead_length tx.data.toList;simpa using this
 have hv1:v≤268436:=by omega
 by_cases h0:c=0
 ·subst h0
  exact parse_nil s tx neg w hsz HCUT v (Lib.hid hv) (Lib.hid hc) (Lib.hid (parseT_bad (Or.inl hc)))
 ·have hpos:0 < tx.size:=by omega
  have hh:=head_at tx hpos
  have heq:∀ b:Bool,((tx[0].toNat:Int) == 48)=b→(b=true ↔ tx.data.toList.head?=some 48):=by
   intro b hb
   subst hb
   rw [hh,beq_iff_eq]
   constructor
   ·intro h;exact congrArg some (UInt8.toNat_inj.1 (by rw [show (48:UInt8).toNat=48 from rfl];omega))
   ·intro h;rw [Option.some.inj h];rfl
  cases hb:((tx[0].toNat:Int) == 48) with
  | true =>
   have h48:=(heq true hb).1 rfl
   by_cases hz:1 < c
   ·exact parse_bad s tx neg w hsz HCUT v c hcs (Lib.hid hv) (Lib.hid hc) (Lib.hid (parseT_bad (Or.inr (Or.inl ⟨by omega,h48⟩)))) hpos (Or.inl ⟨hz,hb⟩)
   ·cases hE2:(s.toList == [45,48]) with
    | true=>exact parse_bad s tx neg w hsz HCUT v c hcs (Lib.hid hv) (Lib.hid hc) (Lib.hid (parseT_bad (Or.inr (Or.inr (hE.1 hE2))))) hpos (Or.inr (Or.inr ⟨by omega,hE2⟩))
    | false =>
     refine parse_main s tx neg w hsz HCUT v c hcs hv1 (Lib.hid hv) (Lib.hid hc) (Lib.hid ?_) hpos hE2 (Or.inr (by omega))
     rintro (h | h | h)
     ·omega
     ·omega
     ·rw [hE.2 h] at hE2;cases hE2
  | false =>
   have h48:¬ tx.data.toList.head?=some 48:=fun h=>by have:=(heq false hb).2 h;cases this
   cases hE2:(s.toList == [45,48]) with
   | true =>
    refine parse_bad s tx neg w hsz HCUT v c hcs (Lib.hid hv) (Lib.hid hc) (Lib.hid (parseT_bad (Or.inr (Or.inr (hE.1 hE2))))) hpos ?_
    by_cases hz:1 < c
    ·exact Or.inr (Or.inl ⟨hz,hb,hE2⟩)
    ·exact Or.inr (Or.inr ⟨by omega,hE2⟩)
   | false =>
    refine parse_main s tx neg w hsz HCUT v c hcs hv1 (Lib.hid hv) (Lib.hid hc) (Lib.hid ?_) hpos hE2 ?_
    ·rintro (h | h | h)
     ·omega
     ·exact h48 h.2
     ·rw [hE.2 h] at hE2;cases hE2
    ·by_cases hz:1 < c
     ·exact Or.inl ⟨hz,hb⟩
     ·exact Or.inr (by omega)
theorem parse_any (s:ByteArray)(w:World)(hs:s.size≤9223372036854775807) :
    Calls Tryz.prog 166 #[.string s] w fun e w'=>e=.returned (parseV s.data.toList)∧w=w':=by
 have hsz:s.data.toList.length=s.size:=by simp
 by_cases h:s.data.toList.head?=some 45
 ·obtain ⟨t,ht⟩:∃ t,s.data.toList=45 :: t:=by
    cases hl:s.data.toList with
    | nil=>rw [hl] at h;cases h
    | cons a t=>rw [hl] at h;obtain rfl:=Option.some.inj h;exact ⟨t,rfl⟩
  have e:parseV s.data.toList=parseT true (⟨t.toArray⟩:ByteArray).data.toList:=by rw [ht];rfl
  rw [e]
  refine parse_both s ⟨t.toArray⟩ true w ?_ (Lib.hid fun w=>cut_yes s 45 t w (Lib.hid ht)) ?_
  ·rw [Lib.size_mk]
   have:t.length+1=s.size:=by rw [← hsz,ht];rfl
   omega
  ·rw [ByteArray.toList_eq,ht]
   simp
 ·have e:parseV s.data.toList=parseT false s.data.toList:=by unfold parseV;rw [if_neg h]
  rw [e]
  refine parse_both s s false w hs (Lib.hid fun w=>cut_no s 45 w (Lib.hid h)) ?_
  rw [ByteArray.toList_eq]
  constructor
  ·intro h2
   have h2:=eq_of_beq h2
   rw [h2] at h
   exact absurd rfl h
  ·rintro ⟨h2,_⟩
   cases h2
end Go.Proofs.YtgmidodmmlmmeaaGreatDoor
