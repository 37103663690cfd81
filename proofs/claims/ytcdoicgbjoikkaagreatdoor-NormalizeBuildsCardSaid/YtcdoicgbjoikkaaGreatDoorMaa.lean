/-
  Plain facts on the tokens of graph descriptions (layer 6): what a text's tokens are, what a token's text is, and that a joined text has the same tokens. No program is named here; a number's text is read by a function 'pr' and written by a function 'fm' that are left open.
  Plain facts on numbers that the proofs of layer 1 use: the integer square root, quotients rounded to the nearest. No program is named here; no condition.
  What the number functions of layer 1 and of its reference return, one contract a function: magnitude and abs, signed, the two square roots, ratio, Mul, Div, and the reference's Mul and Div. Conditions: arguments are ints; no other.
  What Mul and Div of layer 1 and of its reference return: the quotient rounded to the nearest integer, or the error; the double word division is taken where its high word is 0. Conditions: arguments are ints, divisors are not 0 where the call would panic.
  Plain facts on digits in lists of bytes that the proofs of layer 1 use. No program is named here; no condition.
  What leadingDigits of layer 1 returns: the number that the digits at the beginning make, as far as 268436, and how many they are. Conditions: none but a string's length.
  What fraction of layer 1 returns: the thousandths of what follows the digits before the point, or that nothing of that kind follows. Conditions: none but a string's length.
-/
import Derived.Test.YtcdoicgbjoikkaaGreatDoorRows
import Derived.WalkSpells
import Derived.WalkLawsBesides
import Derived.Lib.Hide
import Derived.Test.YtcdoicgbjoikkaaGreatDoorShelf
import Derived.Lib.TrimByte
namespace Go.Proofs.YtcdoicgbjoikkaaGreatDoor.lex
def isLet (c:UInt8):Bool:=decide (97≤c.toNat∧c.toNat≤122) || decide (65≤c.toNat∧c.toNat≤90) || decide (c.toNat=95)
def isDgt (c:UInt8):Bool:=decide (48≤c.toNat∧c.toNat≤57)
def isWd (c:UInt8):Bool:=isLet c || isDgt c
def isPl (c:UInt8):Bool:=decide (32≤c.toNat∧c.toNat≤126)
theorem let_nd {c:UInt8}(h:isDgt c=true):isLet c=false:=by
 simp only [isDgt,isLet,decide_eq_true_eq,Bool.or_eq_false_iff,decide_eq_false_iff_not] at *;omega
def wordLen:List UInt8→Nat
 | []=>0
 | c :: t=>if isLet c then (t.takeWhile isWd).length+1 else 0
def kws:List (List UInt8):=[[100,105,103,114,97,112,104],[103,114,97,112,104],[110,111,100,101],[101,100,103,101],[115,101,116],[99,108,117,115,116,101,114]]
def isKw (l:List UInt8):Bool:=kws.contains l
def isNm (l:List UInt8):Bool:=!l.isEmpty && decide (wordLen l=l.length) && decide (l.length≤16) && !isKw l
theorem takeWhile_le (p:UInt8→Bool)(l:List UInt8):(l.takeWhile p).length≤l.length:=by
 induction l with
 | nil=>simp
 | cons a l ih=>rw [List.takeWhile_cons];split <;> simp <;> omega
theorem takeWhile_take (p:UInt8→Bool)(l:List UInt8):l.take (l.takeWhile p).length=l.takeWhile p:=by
 induction l with
 | nil=>rfl
 | cons a l ih=>rw [List.takeWhile_cons];split <;> simp [ih]
theorem wordLen_cons (c:UInt8)(t:List UInt8):wordLen (c :: t)=if isLet c then (t.takeWhile isWd).length+1 else 0:=rfl
theorem wordLen_le (l:List UInt8):wordLen l≤l.length:=by
 cases l with
 | nil=>simp [wordLen]
 | cons a l=>rw [wordLen_cons,List.length_cons];have:=takeWhile_le isWd l;split <;> omega
theorem takeWhile_len (p:UInt8→Bool):∀ (l:List UInt8) (k:Nat),k≤l.length→(∀ i,i < k→∀ c,l[i]?=some c→p c=true)→(∀ c,l[k]?=some c→p c=false)→(l.takeWhile p).length=k:=by
 intro l
 induction l with
 | nil=>intro k hk _ _;simp at hk;subst hk;rfl
 | cons a l ih =>
  intro k hk h1 h2
  cases k with
  | zero =>
   have:p a=false:=h2 a rfl
   rw [List.takeWhile_cons,this];rfl
  | succ k =>
   have ha:p a=true:=h1 0 (by omega) a rfl
   rw [List.takeWhile_cons,ha]
   show (l.takeWhile p).length+1=k+1
   rw [ih k (by simpa using hk) (fun i hi c hc=>h1 (i+1) (by omega) c (by simpa using hc)) (fun c hc=>h2 c (by simpa using hc))]
def okAt (i:Nat)(c:UInt8):Bool:=if i=0 then isLet c else isWd c
def WordTo (l:List UInt8)(k:Nat):Prop:=∀ i,i < k→∀ c,l[i]?=some c→okAt i c=true
theorem WordTo.zero (l:List UInt8):WordTo l 0:=fun i hi=>absurd hi (by omega)
theorem WordTo.next {l:List UInt8}{k:Nat}{c:UInt8}(h:WordTo l k)(hc:l[k]?=some c)(hk:okAt k c=true):WordTo l (k+1):=by
 intro i hi d hd
 rcases Nat.lt_or_ge i k with h1 | h1
 ·exact h i h1 d hd
 ·obtain rfl:i=k:=by omega
  rw [hc] at hd
  obtain rfl:=Option.some.inj hd
  exact hk
theorem WordTo.stop {l:List UInt8}{k:Nat}(h:WordTo l k)(hk:k≤l.length)(hs:∀ c,l[k]?=some c→okAt k c=false):wordLen l=k:=by
 cases l with
 | nil=>simp at hk;subst hk;rfl
 | cons a t =>
  rw [wordLen_cons]
  cases k with
  | zero =>
   have:isLet a=false:=by simpa [okAt] using hs a rfl
   rw [this];rfl
  | succ k =>
   have ha:isLet a=true:=by simpa [okAt] using h 0 (by omega) a rfl
   rw [ha]
   show (t.takeWhile isWd).length+1=k+1
   rw [takeWhile_len isWd t k (by simpa using hk) (fun i hi c hc=>by simpa [okAt] using h (i+1) (by omega) c (by simpa using hc)) (fun c hc=>by simpa [okAt] using hs c (by simpa using hc))]
def escL (l:List UInt8):List UInt8:=l.flatMap fun c=>if c.toNat=34∨c.toNat=92 then [92,c] else [c]
def quoL (l:List UInt8):List UInt8:=34 :: (escL l ++ [34])
structure Tok where
 kind:Int
 text:List UInt8
 num:Int
 line:Int
section
variable (pr:List UInt8→Int × Int)
variable (fm:Int→List UInt8)
end
end Go.Proofs.YtcdoicgbjoikkaaGreatDoor.lex
namespace Go.Proofs.YtcdoicgbjoikkaaGreatDoor
end Go.Proofs.YtcdoicgbjoikkaaGreatDoor
namespace Go.Proofs.YtcdoicgbjoikkaaGreatDoor
open Go.RowKit
def Two (v:Value)(a b:Value):Prop:=v=.tuple #[a,b]
end Go.Proofs.YtcdoicgbjoikkaaGreatDoor
namespace Go.Proofs.YtcdoicgbjoikkaaGreatDoor
def isDig (c:UInt8):Bool:=decide (48≤c.toNat∧c.toNat≤57)
def lead (l:List UInt8):List UInt8:=l.takeWhile isDig
def valL (l:List UInt8):Nat:=l.foldl (fun v c=>10*v+(c.toNat - 48)) 0
theorem valL_snoc (l:List UInt8)(c:UInt8):valL (l ++ [c])=10*valL l+(c.toNat - 48):=by
 unfold valL;rw [List.foldl_append];rfl
theorem valL_nil:valL []=0:=rfl
theorem sat_step (v d:Nat):min (10*min v 268436+d) 268436=min (10*v+d) 268436:=by omega
theorem take_snoc (l:List UInt8)(k:Nat)(h:k < l.length):l.take (k+1)=l.take k ++ [l[k]]:=by
 rw [List.take_succ_eq_append_getElem h]
theorem lead_take (l:List UInt8)(k:Nat)(hk:k≤l.length)(h1:(l.take k).all isDig=true)(h2:∀ c,l[k]?=some c→isDig c=false):lead l=l.take k:=by
 induction l generalizing k with
 | nil=>simp [lead]
 | cons a l ih =>
  cases k with
  | zero =>
   have:=h2 a rfl
   simp [lead,this]
  | succ k =>
   simp only [List.take_succ_cons,List.all_cons,Bool.and_eq_true] at h1
   have:=ih k (by simpa using hk) h1.2 (fun c hc=>h2 c (by simpa using hc))
   simp only [lead] at this
   simp [lead,h1.1,this]
theorem lead_length (l:List UInt8):(lead l).length≤l.length:=(List.takeWhile_sublist _).length_le
theorem lead_eq_take (l:List UInt8):lead l=l.take (lead l).length:=by
 have:=List.takeWhile_prefix (p:=isDig) (l:=l)
 exact List.prefix_iff_eq_take.1 this
theorem lead_all (l:List UInt8):∀ c∈lead l,isDig c=true:=by
 unfold lead
 induction l with
 | nil=>simp
 | cons a l ih =>
  intro c hc
  rw [List.takeWhile_cons] at hc
  split at hc
  ·rcases List.mem_cons.1 hc with rfl | h
   ·assumption
   ·exact ih c h
  ·simp at hc
theorem lead_stop (l:List UInt8)(c:UInt8)(h:l[(lead l).length]?=some c):isDig c=false:=by
 induction l with
 | nil=>simp at h
 | cons a l ih =>
  unfold lead at h
  rw [List.takeWhile_cons] at h
  split at h
  ·exact ih (by simpa [lead] using h)
  ·rename_i hd
   simp at h
   subst h
   exact Bool.eq_false_iff.2 hd
theorem lead_of_all (l:List UInt8)(h:l.all isDig=true):lead l=l:=by
 have:=lead_take l l.length (Nat.le_refl _) (by rw [List.take_length];exact h) (fun c hc=>by rw [List.getElem?_eq_none (Nat.le_refl _)] at hc;cases hc)
 rw [this,List.take_length]
theorem all_of_lead (l:List UInt8)(h:(lead l).length=l.length):l.all isDig=true:=by
 have e:=lead_eq_take l
 rw [h,List.take_length] at e
 rw [← e,List.all_eq_true]
 exact lead_all l
theorem frac_short (d:List UInt8)(c:Nat)(hc:(lead d).length=c)(h:c=0∨3 < c∨c < d.length)(a:UInt8):¬ (a=46∧1≤d.length∧d.length≤3∧d.all isDig=true∧d.getLast?≠some 48):=by
 rintro ⟨_,h1,h2,h3,_⟩
 rw [lead_of_all d h3] at hc
 omega
theorem valL_lt (l:List UInt8)(h:l.all isDig=true):valL l < 10 ^ l.length:=by
 have key:∀ (l:List UInt8) (v n:Nat),l.all isDig=true→v < 10 ^ n→l.foldl (fun v c=>10*v+(c.toNat - 48)) v < 10 ^ (n+l.length):=by
  intro l
  induction l with
  | nil=>intro v n _ hv;simpa using hv
  | cons a l ih =>
   intro v n hl hv
   simp only [List.all_cons,Bool.and_eq_true] at hl
   have ha:48≤a.toNat∧a.toNat≤57:=by simpa [isDig] using hl.1
   have:=ih (10*v+(a.toNat - 48)) (n+1) hl.2 (by rw [Nat.pow_succ];omega)
   simpa [Nat.add_assoc,Nat.add_comm 1] using this
 have:=key l 0 0 h (by decide)
 simpa [valL] using this
theorem valL_three (l:List UInt8)(h:l.all isDig=true)(hl:l.length≤3):valL l < 1000:=by
 have:=valL_lt l h
 have h2:10 ^ l.length≤10 ^ 3:=Nat.pow_le_pow_right (by decide) hl
 omega
end Go.Proofs.YtcdoicgbjoikkaaGreatDoor
namespace Go.Proofs.YtcdoicgbjoikkaaGreatDoor
open Go.RowKit
theorem dig_at (s:ByteArray)(k:Nat)(h:k < s.size):s.data.toList[k]?=some s[k]:=by
 rw [List.getElem?_eq_getElem (by simpa using h)];rfl
theorem take_one (s:ByteArray)(k:Nat)(h:k < s.size):s.data.toList.take (k+1)=s.data.toList.take k ++ [s[k]]:=by
 rw [take_snoc _ k (by simpa using h)];rfl
theorem lead_here (s:ByteArray)(k v fv fc:Nat)(hk:k≤s.size)(h1:(s.data.toList.take k).all isDig=true)(h2:v=min (valL (s.data.toList.take k)) 268436)(h3:min (valL (lead s.data.toList)) 268436=fv)(h4:(lead s.data.toList).length=fc)(h5:∀ c,s.data.toList[k]?=some c→isDig c=false):fv=v∧fc=k:=by
 have e:=lead_take s.data.toList k (by simpa using hk) h1 h5
 rw [e] at h3 h4
 rw [List.length_take] at h4
 have:s.data.toList.length=s.size:=by simp
 omega
set_option maxHeartbeats 1000000 in
theorem leadingDigits_any (s:ByteArray)(w:World)(hs:s.size≤maxLen) :
    Calls Tryz.prog 150 #[.string s] w fun e w'=>e=.returned (.tuple #[.int .i64 ((min (valL (lead s.data.toList)) 268436:Nat):Int),.int .i64 ((lead s.data.toList).length:Int)])∧w=w':=by
 unfold maxLen at hs
 obtain ⟨fv,hfv⟩:∃ v:Nat,min (valL (lead s.data.toList)) 268436=v:=⟨_,rfl⟩
 obtain ⟨fc,hfc⟩:∃ v:Nat,(lead s.data.toList).length=v:=⟨_,rfl⟩
 rw [hfv,hfc]
 have FV:=Lib.hid hfv
 have FC:=Lib.hid hfc
 clear hfv hfc
 go_enter Tryz.func150,Tryz.ntmps150
 go_wp2
 go_step3
 go_wp2
 go_step3
 go_wp2
 go_loop [2,3] (fun v c=>∃ k v':Nat,k≤s.size∧v'≤268436∧c=.int .i64 k∧v=.int .i64 v'∧(s.data.toList.take k).all isDig=true∧v'=min (valL (s.data.toList.take k)) 268436) (fun _ c=>s.size - (intOf c).toNat)
 case atStart=>exact ⟨0,0,Nat.zero_le _,by omega,rfl,rfl,rfl,rfl⟩
 case round =>
  obtain ⟨k,v,hk,hv,rfl,rfl,hall,hval⟩:=hrel
  have H1:=Lib.hid hall
  have H2:=Lib.hid hval
  clear hall hval
  by_cases hlt:k < s.size
  ·have HD:=Lib.hid (dig_at s k hlt)
   have HT:=Lib.hid (take_one s k hlt)
   by_cases h48:48≤(s[k].toNat:Int)
   ·by_cases h57:(s[k].toNat:Int)≤57
    ·go_wp2
     go_round
     case rel =>
      refine ⟨k+1,min (10*v+(s[k].toNat - 48)) 268436,by omega,by omega,by go_num,congrArg (Value.int .i64) (by omega),?_,?_⟩
      ·rw [HT.out,List.all_append,H1.out]
       unfold isDig;simp;omega
      ·rw [HT.out,valL_snoc,H2.out,sat_step]
     case measure=>simp [intOf];omega
    ·go_wp2
     obtain ⟨rfl,rfl⟩:=lead_here s k v fv fc hk H1.out H2.out FV.out FC.out (fun c hc=>by
      rw [HD.out] at hc
      obtain rfl:=Option.some.inj hc
      unfold isDig;simp;omega)
     go_ret2
     exact ⟨rfl,rfl⟩
   ·go_wp2
    obtain ⟨rfl,rfl⟩:=lead_here s k v fv fc hk H1.out H2.out FV.out FC.out (fun c hc=>by
     rw [HD.out] at hc
     obtain rfl:=Option.some.inj hc
     unfold isDig;simp;omega)
    go_ret2
    exact ⟨rfl,rfl⟩
  ·obtain rfl:k=s.size:=by omega
   go_wp2
   obtain ⟨rfl,rfl⟩:=lead_here s s.size v fv fc hk H1.out H2.out FV.out FC.out (fun c hc=>by
    rw [List.getElem?_eq_none (by simp)] at hc
    cases hc)
   go_ret2
   exact ⟨rfl,rfl⟩
theorem mk_list (s:ByteArray):(⟨s.data.toList.toArray⟩:ByteArray)=s:=by
 apply ByteArray.ext;simp
theorem cut_yes (s:ByteArray)(c:UInt8)(d:List UInt8)(w:World)(hs:Hid (s.data.toList=c :: d)) :
    Calls Tryz.prog 149 #[.string s,.string ⟨#[c]⟩] w fun e w'=>e=.returned (.tuple #[.string ⟨d.toArray⟩,.bool true])∧w=w':=by
 have h:=Tryz.strings_CutPrefix s ⟨#[c]⟩ w
 have e1:Lib.hasPrefix s.data.toList [c]=true:=by rw [hs.out];simp [Lib.hasPrefix]
 have e2:Lib.trimPrefix s.data.toList [c]=d:=by unfold Lib.trimPrefix;rw [if_pos e1,hs.out];rfl
 have e3:(⟨#[c]⟩:ByteArray).data.toList=[c]:=rfl
 rw [e3,e1,e2] at h
 exact h.mono fun _ _ h=>⟨h.1,h.2.symm⟩
theorem cut_no (s:ByteArray)(c:UInt8)(w:World)(hs:Hid (s.data.toList.head?≠some c)) :
    Calls Tryz.prog 149 #[.string s,.string ⟨#[c]⟩] w fun e w'=>e=.returned (.tuple #[.string s,.bool false])∧w=w':=by
 have h:=Tryz.strings_CutPrefix s ⟨#[c]⟩ w
 have hne:=hs.out
 have e1:Lib.hasPrefix s.data.toList [c]=false:=by
  cases hl:s.data.toList with
  | nil=>simp [Lib.hasPrefix]
  | cons a l =>
   rw [hl] at hne
   have:¬ a=c:=by simpa using hne
   simp only [Lib.hasPrefix,List.isPrefixOf,Bool.and_true,beq_eq_false_iff_ne]
   exact fun h=>this h.symm
 have e2:Lib.trimPrefix s.data.toList [c]=s.data.toList:=by unfold Lib.trimPrefix;rw [if_neg (by simp [e1])]
 have e3:(⟨#[c]⟩:ByteArray).data.toList=[c]:=rfl
 rw [e3,e1,e2,mk_list] at h
 exact h.mono fun _ _ h=>⟨h.1,h.2.symm⟩
theorem lead_of (s:ByteArray)(v c:Nat)(w:World)(hs:s.size≤9223372036854775807)(hv:Hid (min (valL (lead s.data.toList)) 268436=v))(hc:Hid ((lead s.data.toList).length=c)) :
    Calls Tryz.prog 150 #[.string s] w fun e w'=>e=.returned (.tuple #[.int .i64 v,.int .i64 c])∧w=w':=by
 have h:=leadingDigits_any s w (by unfold maxLen;omega)
 rw [hv.out,hc.out] at h
 exact h
def pad (V n k:Nat):Nat:=V*10 ^ (k - n)
theorem pad_start (V n:Nat):pad V n n=V:=by simp [pad]
theorem pad_succ (V n k:Nat)(h:n≤k):pad V n (k+1)=10*pad V n k:=by
 unfold pad
 rw [show k+1 - n=(k - n)+1 by omega,Nat.pow_succ,← Nat.mul_assoc,Nat.mul_comm 10]
theorem pad_le (V n k:Nat)(hV:V≤1000)(hk:k≤3):pad V n k≤1000000:=by
 unfold pad
 have:10 ^ (k - n)≤10 ^ 3:=Nat.pow_le_pow_right (by decide) (by omega)
 calc V*10 ^ (k - n)≤1000*10 ^ 3:=Nat.mul_le_mul hV this
  _=1000000:=by decide
def fracOf:List UInt8→Option Nat
 | []=>some 0
 | c :: d=>if c=46∧1≤d.length∧d.length≤3∧d.all isDig=true∧d.getLast?≠some 48 then some (pad (valL d) d.length 3) else none
def fracV (l:List UInt8):Value:=match fracOf l with
 | none=>.tuple #[.int .i64 0,.bool false]
 | some p=>.tuple #[.int .i64 p,.bool true]
theorem fracV_no {c:UInt8}{d:List UInt8}(h:¬ (c=46∧1≤d.length∧d.length≤3∧d.all isDig=true∧d.getLast?≠some 48)):fracV (c :: d)=.tuple #[.int .i64 0,.bool false]:=by
 have:fracOf (c :: d)=none:=if_neg h
 unfold fracV;rw [this]
theorem fracV_yes {c:UInt8}{d:List UInt8}(h:c=46∧1≤d.length∧d.length≤3∧d.all isDig=true∧d.getLast?≠some 48):fracV (c :: d)=.tuple #[.int .i64 (pad (valL d) d.length 3),.bool true]:=by
 have:fracOf (c :: d)=some (pad (valL d) d.length 3):=if_pos h
 unfold fracV;rw [this]
theorem fraction_empty (s:ByteArray)(w:World)(he:s.data.toList=[]) :
    Calls Tryz.prog 151 #[.string s] w fun e w'=>e=.returned (.tuple #[.int .i64 0,.bool true])∧w=w':=by
 obtain rfl:s=⟨#[]⟩:=by apply ByteArray.ext;simpa using he
 clear he
 go_enter Tryz.func151,Tryz.ntmps151
 go_wp2
 go_ret2
 exact ⟨rfl,rfl⟩
theorem fraction_other (s:ByteArray)(w:World)(hs:s.size≤9223372036854775807)(hne:s.data.toList≠[])(h46:s.data.toList.head?≠some 46) :
    Calls Tryz.prog 151 #[.string s] w fun e w'=>e=.returned (.tuple #[.int .i64 0,.bool false])∧w=w':=by
 obtain ⟨v,hv⟩:∃ v:Nat,min (valL (lead s.data.toList)) 268436=v:=⟨_,rfl⟩
 obtain ⟨c,hc⟩:∃ v:Nat,(lead s.data.toList).length=v:=⟨_,rfl⟩
 have H46:=Lib.hid h46
 have HV:=Lib.hid hv
 have HC:=Lib.hid hc
 have hemp:s.toList.isEmpty=false:=by rw [ByteArray.toList_eq];cases h:s.data.toList with | nil=>exact absurd h hne | cons a l=>rfl
 clear h46 hv hc hne
 go_enter Tryz.func151,Tryz.ntmps151
 go_wp2_with fail
 refine (cut_no s 46 _ H46).mono ?_
 rintro e w' ⟨rfl,rfl⟩
 go_wp2_with fail
 refine (lead_of s v c _ hs HV HC).mono ?_
 rintro e w' ⟨rfl,rfl⟩
 go_wp2
 go_ret2
 exact ⟨rfl,rfl⟩
set_option maxHeartbeats 1000000 in
theorem fraction_point (s:ByteArray)(d:List UInt8)(w:World)(hd:d.length≤9223372036854775806)(hl:s.data.toList=46 :: d) :
    Calls Tryz.prog 151 #[.string s] w fun e w'=>e=.returned (fracV (46 :: d))∧w=w':=by
 obtain ⟨v,hv⟩:∃ v:Nat,min (valL (lead d)) 268436=v:=⟨_,rfl⟩
 obtain ⟨c,hc⟩:∃ v:Nat,(lead d).length=v:=⟨_,rfl⟩
 have hcd:c≤d.length:=by rw [← hc];exact lead_length d
 have hemp:s.toList.isEmpty=false:=by rw [ByteArray.toList_eq,hl];rfl
 have HV:Hid (min (valL (lead (⟨d.toArray⟩:ByteArray).data.toList)) 268436=v):=Lib.hid hv
 have HC:Hid ((lead (⟨d.toArray⟩:ByteArray).data.toList).length=c):=Lib.hid hc
 have HL:=Lib.hid hl
 clear hv hc hl
 by_cases h0:c=0
 ·have HN:=Lib.hid h0
  subst h0
  go_enter Tryz.func151,Tryz.ntmps151
  go_wp2_with fail
  refine (cut_yes s 46 d _ HL).mono ?_
  rintro e w' ⟨rfl,rfl⟩
  go_wp2_with fail
  refine (lead_of _ v _ _ (by rw [Lib.size_mk];omega) HV HC).mono ?_
  rintro e w' ⟨rfl,rfl⟩
  go_wp2
  go_ret2
  refine ⟨?_,rfl⟩
  rw [fracV_no (frac_short d _ HC.out (by omega) 46)]
  rfl
 ·by_cases h3:3 < c
  ·go_enter Tryz.func151,Tryz.ntmps151
   go_wp2_with fail
   refine (cut_yes s 46 d _ HL).mono ?_
   rintro e w' ⟨rfl,rfl⟩
   go_wp2_with fail
   refine (lead_of _ v c _ (by rw [Lib.size_mk];omega) HV HC).mono ?_
   rintro e w' ⟨rfl,rfl⟩
   go_wp2
   go_ret2
   refine ⟨?_,rfl⟩
   rw [fracV_no (frac_short d _ HC.out (by omega) 46)]
   rfl
  ·by_cases hn:c < d.length
   ·go_enter Tryz.func151,Tryz.ntmps151
    go_wp2_with fail
    refine (cut_yes s 46 d _ HL).mono ?_
    rintro e w' ⟨rfl,rfl⟩
    go_wp2_with fail
    refine (lead_of _ v c _ (by rw [Lib.size_mk];omega) HV HC).mono ?_
    rintro e w' ⟨rfl,rfl⟩
    go_wp2
    go_ret2
    refine ⟨?_,rfl⟩
    rw [fracV_no (frac_short d _ HC.out (by omega) 46)]
    rfl
   ·obtain rfl:c=d.length:=by omega
    go_enter Tryz.func151,Tryz.ntmps151
    go_wp2_with fail
    refine (cut_yes s 46 d _ HL).mono ?_
    rintro e w' ⟨rfl,rfl⟩
    go_wp2_with fail
    refine (lead_of _ v _ _ (by rw [Lib.size_mk];omega) HV HC).mono ?_
    rintro e w' ⟨rfl,rfl⟩
    go_wp2
    ·rename_i hA hB
     have hx:=Lib.getElem_mk d (d.length - 1) (by rw [Lib.size_mk];omega)
     have hq:d.getLast?=some 48:=by
      rw [List.getLast?_eq_getElem?,hx]
      have:((⟨d.toArray⟩:ByteArray)[d.length - 1]'(by rw [Lib.size_mk];omega)).toNat=48:=by
       rcases hB with (hB | hB) | hB
       ·have:=eq_of_beq hB;omega
       ·omega
       ·have:=eq_of_beq hB;omega
      exact congrArg some (UInt8.toNat_inj.1 this)
     go_ret2
     refine ⟨?_,rfl⟩
     rw [fracV_no (fun h=>h.2.2.2.2 hq)]
     rfl
    ·rename_i hA hB kk hk
     have hx:=Lib.getElem_mk d (d.length - 1) (by rw [Lib.size_mk];omega)
     have hq:d.getLast?≠some 48:=by
      rw [List.getLast?_eq_getElem?,hx]
      intro h
      have h:=Option.some.inj h
      have:=hB.2
      rw [h] at this
      simp at this
     have hall:=all_of_lead d HC.out
     have hv3:=valL_three d hall (by omega)
     have hv:v=valL d:=by have:=HV.out;rw [lead_of_all d hall] at this;omega
     subst hv
     have HW:=Lib.hid (fracV_yes (c:=46) ⟨rfl,by omega,by omega,hall,hq⟩)
     have hn3:d.length≤3:=by omega
     obtain ⟨V,hV⟩:∃ V,valL d=V:=⟨_,rfl⟩
     rw [hV] at hv3 HW ⊢
     clear hB hx hq hall HV HC hV
     go_loop [6,7] (fun x k=>∃ k' x':Nat,d.length≤k'∧k'≤3∧x'≤1000000∧k=.int .i64 k'∧x=.int .i64 x'∧x'=pad V d.length k') (fun _ k=>3 - (intOf k).toNat)
     case atStart=>exact ⟨d.length,V,Nat.le_refl _,hn3,by omega,rfl,rfl,(pad_start _ _).symm⟩
     case round =>
      obtain ⟨k,x,hk1,hk2,hx,rfl,rfl,hp⟩:=hrel
      have HP:=Lib.hid hp
      clear hp
      by_cases hlt:k < 3
      ·go_wp2
       go_round
       case rel=>exact ⟨k+1,10*x,by omega,by omega,by have:=pad_le V d.length (k+1) (by omega) (by omega);rw [pad_succ _ _ _ hk1,← HP.out] at this;exact this,by go_num,congrArg (Value.int .i64) (by omega),by rw [pad_succ _ _ _ hk1,HP.out]⟩
       case measure=>simp [intOf];omega
      ·obtain rfl:k=3:=by omega
       go_wp2
       go_ret2
       refine ⟨?_,rfl⟩
       rw [HW.out,← HP.out]
       rfl
end Go.Proofs.YtcdoicgbjoikkaaGreatDoor
