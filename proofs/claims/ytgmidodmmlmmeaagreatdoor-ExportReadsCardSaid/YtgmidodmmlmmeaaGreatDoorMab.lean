/-
  Plain facts on numbers that the proofs of layer 1 use: the integer square root, quotients rounded to the nearest. No program is named here; no condition.
  What the number functions of layer 1 and of its reference return, one contract a function: magnitude and abs, signed, the two square roots, ratio, Mul, Div, and the reference's Mul and Div. Conditions: arguments are ints; no other.
  What Mul and Div of layer 1 and of its reference return: the quotient rounded to the nearest integer, or the error; the double word division is taken where its high word is 0. Conditions: arguments are ints, divisors are not 0 where the call would panic.
  Plain facts on digits in lists of bytes that the proofs of layer 1 use. No program is named here; no condition.
  What leadingDigits of layer 1 returns: the number that the digits at the beginning make, as far as 268436, and how many they are. Conditions: none but a string's length.
-/
import Derived.Test.YtgmidodmmlmmeaaGreatDoorRows
import Derived.WalkSpells
import Derived.WalkLawsBesides
import Derived.Test.YtgmidodmmlmmeaaGreatDoorShelf
namespace Go.Proofs.YtgmidodmmlmmeaaGreatDoor
end Go.Proofs.YtgmidodmmlmmeaaGreatDoor
namespace Go.Proofs.YtgmidodmmlmmeaaGreatDoor
open Go.RowKit
theorem u64_two (n:Int)(h0:n < 0)(h1:-9223372036854775808≤n):IntKind.u64.wrap (-IntKind.u64.wrap n)=(n.natAbs:Int):=by
 rw [IntKind.wrap_u64,IntKind.wrap_u64];omega
theorem magnitude_any (n:Int)(w:World)(h0:-9223372036854775808≤n)(h1:n≤9223372036854775807) :
    Calls Tryz.prog 191 #[.int .i64 n] w fun e w'=>e=.returned (.int .u64 (n.natAbs:Int))∧w'=w:=by
 by_cases hn:n < 0
 ·have H:=Lib.hid (u64_two n hn h0)
  go_enter Tryz.func191,Tryz.ntmps191
  go_wp2
  go_ret
  rw [H.out]
  exact ⟨rfl,rfl⟩
 ·go_enter Tryz.func191,Tryz.ntmps191
  go_wp2
  go_ret
  refine ⟨?_,rfl⟩
  rw [show ((n.natAbs:Nat):Int)=n by omega]
  rfl
theorem magnitude_of (n:Int)(x:Nat)(w:World)(h0:-9223372036854775808≤n)(h1:n≤9223372036854775807)(hx:Hid (n.natAbs=x)) :
    Calls Tryz.prog 191 #[.int .i64 n] w fun e w'=>e=.returned (.int .u64 x)∧w=w':=by
 have:=magnitude_any n w h0 h1
 rw [hx.out] at this
 exact this.mono fun _ _ h=>⟨h.1,h.2.symm⟩
def Two (v:Value)(a b:Value):Prop:=v=.tuple #[a,b]
end Go.Proofs.YtgmidodmmlmmeaaGreatDoor
namespace Go.Proofs.YtgmidodmmlmmeaaGreatDoor
def isDig (c:UInt8):Bool:=decide (48≤c.toNat∧c.toNat≤57)
def lead (l:List UInt8):List UInt8:=l.takeWhile isDig
def valL (l:List UInt8):Nat:=l.foldl (fun v c=>10*v+(c.toNat - 48)) 0
theorem valL_snoc (l:List UInt8)(c:UInt8):valL (l ++ [c])=10*valL l+(c.toNat - 48):=by
 unfold valL;rw [List.foldl_append];rfl
theorem valL_nil:valL []=0:=rfl
theorem sat_step (v d:Nat):min (10*min v 268436+d) 268436=min (10*v+d) 268436:=by omega
theorem take_snoc (l:List UInt8)(k:Nat)(h:k < l.length):l.take (k+1)=l.take k ++ [l[k]]:=by
 rw [List.take_succ_eq_append_getElem h]
theorem lead_take (l:List UInt8)(k:Nat)(hk:k≤l.length)(h1:(l.take k).all isDig=true)(h2:∀ c,l[k]?=some c→isDig c=false):lead l=l.take k:=by
 induction l generalizing k with
 | nil=>simp [lead]
 | cons a l ih =>
  cases k with
  | zero =>
   have:=h2 a rfl
   simp [lead,this]
  | succ k =>
   simp only [List.take_succ_cons,List.all_cons,Bool.and_eq_true] at h1
   have:=ih k (by simpa using hk) h1.2 (fun c hc=>h2 c (by simpa using hc))
   simp only [lead] at this
   simp [lead,h1.1,this]
theorem lead_length (l:List UInt8):(lead l).length≤l.length:=(List.takeWhile_sublist _).length_le
theorem lead_eq_take (l:List UInt8):lead l=l.take (lead l).length:=by
 have:=List.takeWhile_prefix (p:=isDig) (l:=l)
 exact List.prefix_iff_eq_take.1 this
theorem lead_all (l:List UInt8):∀ c∈lead l,isDig c=true:=by
 unfold lead
 induction l with
 | nil=>simp
 | cons a l ih =>
  intro c hc
  rw [List.takeWhile_cons] at hc
  split at hc
  ·rcases List.mem_cons.1 hc with rfl | h
   ·assumption
   ·exact ih c h
  ·simp at hc
theorem lead_of_all (l:List UInt8)(h:l.all isDig=true):lead l=l:=by
 have:=lead_take l l.length (Nat.le_refl _) (by rw [List.take_length];exact h) (fun c hc=>by rw [List.getElem?_eq_none (Nat.le_refl _)] at hc;cases hc)
 rw [this,List.take_length]
theorem all_of_lead (l:List UInt8)(h:(lead l).length=l.length):l.all isDig=true:=by
 have e:=lead_eq_take l
 rw [h,List.take_length] at e
 rw [← e,List.all_eq_true]
 exact lead_all l
theorem frac_short (d:List UInt8)(c:Nat)(hc:(lead d).length=c)(h:c=0∨3 < c∨c < d.length)(a:UInt8):¬ (a=46∧1≤d.length∧d.length≤3∧d.all isDig=true∧d.getLast?≠some 48):=by
 rintro ⟨_,h1,h2,h3,_⟩
 rw [lead_of_all d h3] at hc
 omega
theorem valL_lt (l:List UInt8)(h:l.all isDig=true):valL l < 10 ^ l.length:=by
 have key:∀ (l:List UInt8) (v n:Nat),l.all isDig=true→v < 10 ^ n→l.foldl (fun v c=>10*v+(c.toNat - 48)) v < 10 ^ (n+l.length):=by
  intro l
  induction l with
  | nil=>intro v n _ hv;simpa using hv
  | cons a l ih =>
   intro v n hl hv
   simp only [List.all_cons,Bool.and_eq_true] at hl
   have ha:48≤a.toNat∧a.toNat≤57:=by simpa [isDig] using hl.1
   have:=ih (10*v+(a.toNat - 48)) (n+1) hl.2 (by rw [Nat.pow_succ];omega)
   simpa [Nat.add_assoc,Nat.add_comm 1] using this
 have:=key l 0 0 h (by decide)
 simpa [valL] using this
theorem valL_three (l:List UInt8)(h:l.all isDig=true)(hl:l.length≤3):valL l < 1000:=by
 have:=valL_lt l h
 have h2:10 ^ l.length≤10 ^ 3:=Nat.pow_le_pow_right (by decide) hl
 omega
end Go.Proofs.YtgmidodmmlmmeaaGreatDoor
namespace Go.Proofs.YtgmidodmmlmmeaaGreatDoor
open Go.RowKit
theorem dig_at (s:ByteArray)(k:Nat)(h:k < s.size):s.data.toList[k]?=some s[k]:=by
 rw [List.getElem?_eq_getElem (by simpa using h)];rfl
theorem take_one (s:ByteArray)(k:Nat)(h:k < s.size):s.data.toList.take (k+1)=s.data.toList.take k ++ [s[k]]:=by
 rw [take_snoc _ k (by simpa using h)];rfl
theorem lead_here (s:ByteArray)(k v fv fc:Nat)(hk:k≤s.size)(h1:(s.data.toList.take k).all isDig=true)(h2:v=min (valL (s.data.toList.take k)) 268436)(h3:min (valL (lead s.data.toList)) 268436=fv)(h4:(lead s.data.toList).length=fc)(h5:∀ c,s.data.toList[k]?=some c→isDig c=false):fv=v∧fc=k:=by
 have e:=lead_take s.data.toList k (by simpa using hk) h1 h5
 rw [e] at h3 h4
 rw [List.length_take] at h4
 have:s.data.toList.length=s.size:=by simp
 omega
set_option maxHeartbeats 1000000 in
theorem leadingDigits_any (s:ByteArray)(w:World)(hs:s.size≤maxLen) :
    Calls Tryz.prog 221 #[.string s] w fun e w'=>e=.returned (.tuple #[.int .i64 ((min (valL (lead s.data.toList)) 268436:Nat):Int),.int .i64 ((lead s.data.toList).length:Int)])∧w=w':=by
 unfold maxLen at hs
 obtain ⟨fv,hfv⟩:∃ v:Nat,min (valL (lead s.data.toList)) 268436=v:=⟨_,rfl⟩
 obtain ⟨fc,hfc⟩:∃ v:Nat,(lead s.data.toList).length=v:=⟨_,rfl⟩
 rw [hfv,hfc]
 have FV:=Lib.hid hfv
 have FC:=Lib.hid hfc
 clear hfv hfc
 go_enter Tryz.func221,Tryz.ntmps221
 go_wp2
 go_step3
 go_wp2
 go_step3
 go_wp2
 go_loop [2,3] (fun v c=>∃ k v':Nat,k≤s.size∧v'≤268436∧c=.int .i64 k∧v=.int .i64 v'∧(s.data.toList.take k).all isDig=true∧v'=min (valL (s.data.toList.take k)) 268436) (fun _ c=>s.size - (intOf c).toNat)
 case atStart=>exact ⟨0,0,Nat.zero_le _,by omega,rfl,rfl,rfl,rfl⟩
 case round =>
  obtain ⟨k,v,hk,hv,rfl,rfl,hall,hval⟩:=hrel
  have H1:=Lib.hid hall
  have H2:=Lib.hid hval
  clear hall hval
  by_cases hlt:k < s.size
  ·have HD:=Lib.hid (dig_at s k hlt)
   have HT:=Lib.hid (take_one s k hlt)
   by_cases h48:48≤(s[k].toNat:Int)
   ·by_cases h57:(s[k].toNat:Int)≤57
    ·go_wp2
     go_round
     case rel =>
      refine ⟨k+1,min (10*v+(s[k].toNat - 48)) 268436,by omega,by omega,by go_num,congrArg (Value.int .i64) (by omega),?_,?_⟩
      ·rw [HT.out,List.all_append,H1.out]
       unfold isDig;simp;omega
      ·rw [HT.out,valL_snoc,H2.out,sat_step]
     case measure=>simp [intOf];omega
    ·go_wp2
     obtain ⟨rfl,rfl⟩:=lead_here s k v fv fc hk H1.out H2.out FV.out FC.out (fun c hc=>by
      rw [HD.out] at hc
      obtain rfl:=Option.some.inj hc
      unfold isDig;simp;omega)
     go_ret2
     exact ⟨rfl,rfl⟩
   ·go_wp2
    obtain ⟨rfl,rfl⟩:=lead_here s k v fv fc hk H1.out H2.out FV.out FC.out (fun c hc=>by
     rw [HD.out] at hc
     obtain rfl:=Option.some.inj hc
     unfold isDig;simp;omega)
    go_ret2
    exact ⟨rfl,rfl⟩
  ·obtain rfl:k=s.size:=by omega
   go_wp2
   obtain ⟨rfl,rfl⟩:=lead_here s s.size v fv fc hk H1.out H2.out FV.out FC.out (fun c hc=>by
    rw [List.getElem?_eq_none (by simp)] at hc
    cases hc)
   go_ret2
   exact ⟨rfl,rfl⟩
end Go.Proofs.YtgmidodmmlmmeaaGreatDoor
