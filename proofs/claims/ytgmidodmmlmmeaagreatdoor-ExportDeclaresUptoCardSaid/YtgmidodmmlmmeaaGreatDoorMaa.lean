/-
  Contracts and plain facts of the layers below; conditions as each theorem states them.
-/
import Derived.Test.YtgmidodmmlmmeaaGreatDoorRows
import Derived.WalkSpells
import Derived.WalkLawsBesides
import Derived.Test.YtgmidodmmlmmeaaGreatDoorShelf
set_option maxHeartbeats 4000000
namespace Go.Proofs.YtgmidodmmlmmeaaGreatDoor.lex
def ybA (c:UInt8):Bool:=decide (97<=c.toNat/\c.toNat<=122)||decide (65<=c.toNat/\c.toNat<=90)||decide (c.toNat=95)
def ycx (c:UInt8):Bool:=decide (48<=c.toNat/\c.toNat<=57)
def ycP (c:UInt8):Bool:=ybA c||ycx c
def yqh (c:UInt8):Bool:=ycP c||decide (c.toNat=46)
def yar (c:UInt8):Bool:=decide (32<=c.toNat/\c.toNat<=126)
theorem ysH {c:UInt8}(h:ycx c=true):ybA c=false:=by
 simp only[ycx,ybA,decide_eq_true_eq,Bool.or_eq_false_iff,decide_eq_false_iff_not] at *;omega
def yaB:List UInt8->Nat
 | []=>0
 | c::t=>if ybA c then (t.takeWhile ycP).length+1 else 0
def kws:List (List UInt8):=[[100,105,103,114,97,112,104],[103,114,97,112,104],[110,111,100,101],[101,100,103,101],[115,101,116],[99,108,117,115,116,101,114]]
def yjf (l:List UInt8):Bool:=kws.contains l
def yK (l:List UInt8):Bool:=!l.isEmpty&&decide (yaB l=l.length)&&decide (l.length<=16) && !yjf l
theorem ybm (p:UInt8->Bool)(l:List UInt8):(l.takeWhile p).length<=l.length:=by
 induction l with
 | nil=>simp
 | cons a l ih=>rw[List.takeWhile_cons];split <;> simp <;> omega
theorem yc1 (p:UInt8->Bool)(l:List UInt8):l.take (l.takeWhile p).length=l.takeWhile p:=by
 induction l with
 | nil=>rfl
 | cons a l ih=>rw[List.takeWhile_cons];split <;> simp[ih]
theorem ybn (c:UInt8)(t:List UInt8):yaB (c::t)=if ybA c then (t.takeWhile ycP).length+1 else 0:=rfl
theorem ykC (l:List UInt8):yaB l<=l.length:=by
 cases l with
 | nil=>simp[yaB]
 | cons a l=>rw[ybn,List.length_cons];have:=ybm ycP l;split <;> omega
theorem ygz (p:UInt8->Bool):∀ (l:List UInt8) (k:Nat),k<=l.length->(∀ i,i<k->∀ c,l[i]?=some c->p c=true)->(∀ c,l[k]?=some c->p c=false)->(l.takeWhile p).length=k:=by
 intro l
 induction l with
 | nil=>intro k hk _ _;simp at hk;subst hk;rfl
 | cons a l ih =>
  intro k hk h1 h2
  cases k with
  | zero =>
   have:p a=false:=h2 a rfl;rw[List.takeWhile_cons,this];rfl
  | succ k =>
   have ha:p a=true:=h1 0 (by omega) a rfl;rw[List.takeWhile_cons,ha]
   show (l.takeWhile p).length+1=k+1
   rw[ih k (by simpa using hk) (fun i hi c hc=>h1 (i+1) (by omega) c (by simpa using hc)) (fun c hc=>h2 c (by simpa using hc))]
def yfQ (i:Nat)(c:UInt8):Bool:=if i=0 then ybA c else ycP c
def WordTo (l:List UInt8)(k:Nat):Prop:=∀ i,i<k->∀ c,l[i]?=some c->yfQ i c=true
theorem WordTo.zero (l:List UInt8):WordTo l 0:=fun i hi=>absurd hi (by omega)
theorem WordTo.next {l:List UInt8}{k:Nat}{c:UInt8}(h:WordTo l k)(hc:l[k]?=some c)(hk:yfQ k c=true):WordTo l (k+1):=by
 intro i hi d hd
 rcases Nat.lt_or_ge i k with h1 | h1
 ·exact h i h1 d hd
 ·obtain rfl:i=k:=by omega
  rw[hc] at hd;obtain rfl:=Option.some.inj hd;exact hk
theorem WordTo.stop {l:List UInt8}{k:Nat}(h:WordTo l k)(hk:k<=l.length)(hs:∀ c,l[k]?=some c->yfQ k c=false):yaB l=k:=by
 cases l with
 | nil=>simp at hk;subst hk;rfl
 | cons a t =>
  rw[ybn]
  cases k with
  | zero =>
   have:ybA a=false:=by simpa [yfQ] using hs a rfl
   rw[this];rfl
  | succ k =>
   have ha:ybA a=true:=by simpa [yfQ] using h 0 (by omega) a rfl
   rw[ha]
   show (t.takeWhile ycP).length+1=k+1
   rw[ygz ycP t k (by simpa using hk) (fun i hi c hc=>by simpa [yfQ] using h (i+1) (by omega) c (by simpa using hc)) (fun c hc=>by simpa [yfQ] using hs c (by simpa using hc))]
def yla (l:List UInt8):List UInt8:=l.flatMap fun c=>if c.toNat=34\/c.toNat=92 then [92,c] else [c]
def yqi (l:List UInt8):List UInt8:=34::(yla l++[34])
section
variable (pr:List UInt8->Int × Int)
variable (fm:Int->List UInt8)
def yqO (l:List UInt8):Prop:=∃ c t,ycx c=true/\t.all yqh=true/\(l=c::t\/l=45::c::t)
end
end Go.Proofs.YtgmidodmmlmmeaaGreatDoor.lex
namespace Go.Proofs.YtgmidodmmlmmeaaGreatDoor
end Go.Proofs.YtgmidodmmlmmeaaGreatDoor
namespace Go.Proofs.YtgmidodmmlmmeaaGreatDoor
open Go.RowKit _root_.Go.Proofs.Tryz
theorem yqP (n:Int)(h0:n<0)(h1:-9223372036854775808<=n):IntKind.u64.wrap (-IntKind.u64.wrap n)=(n.natAbs:Int):=by
 rw[IntKind.wrap_u64,IntKind.wrap_u64];omega
theorem ygA (n:Int)(w:World)(h0:-9223372036854775808<=n)(h1:n<=9223372036854775807) :
    Calls Tryz.prog 191 #[.int .i64 n] w fun e w'=>e=.returned (.int .u64 (n.natAbs:Int))/\w'=w:=by
 by_cases hn:n<0
 ·have H:=Lib.hid (yqP n hn h0)
  go_enter func191,ntmps191;go_wp2;go_ret;rw[H.out];exact⟨rfl,rfl⟩
 ·go_enter func191,ntmps191
  go_wp2;go_ret;refine⟨?_,rfl⟩;rw[show ((n.natAbs:Nat):Int)=n by omega];rfl
end Go.Proofs.YtgmidodmmlmmeaaGreatDoor
namespace Go.Proofs.YtgmidodmmlmmeaaGreatDoor
open Go.RowKit
theorem ybL (n:Int)(x:Nat)(w:World)(h0:-9223372036854775808<=n)(h1:n<=9223372036854775807)(hx:Hid (n.natAbs=x)) :
    Calls Tryz.prog 191 #[.int .i64 n] w fun e w'=>e=.returned (.int .u64 x)/\w=w':=by
 have:=ygA n w h0 h1;rw[hx.out] at this;exact this.mono fun _ _ h=>⟨h.1,h.2.symm⟩
end Go.Proofs.YtgmidodmmlmmeaaGreatDoor
namespace Go.Proofs.YtgmidodmmlmmeaaGreatDoor
def yL (c:UInt8):Bool:=decide (48<=c.toNat/\c.toNat<=57)
def yD (l:List UInt8):List UInt8:=l.takeWhile yL
def yad (l:List UInt8):Nat:=l.foldl (fun v c=>10*v+(c.toNat-48)) 0
theorem ycy (l:List UInt8)(c:UInt8):yad (l++[c])=10*yad l+(c.toNat-48):=by
 unfold yad;rw[List.foldl_append];rfl
theorem ynG:yad []=0:=rfl
theorem ynH (v d:Nat):min (10*min v 268436+d) 268436=min (10*v+d) 268436:=by omega
theorem yhB (l:List UInt8)(k:Nat)(h:k<l.length):l.take (k+1)=l.take k++[l[k]]:=by
 rw[List.take_succ_eq_append_getElem h]
theorem yeA (l:List UInt8)(k:Nat)(hk:k<=l.length)(h1:(l.take k).all yL=true)(h2:∀ c,l[k]?=some c->yL c=false):yD l=l.take k:=by
 induction l generalizing k with
 | nil=>simp[yD]
 | cons a l ih =>
  cases k with
  | zero =>
   have:=h2 a rfl;simp[yD,this]
  | succ k =>
   simp only[List.take_succ_cons,List.all_cons,Bool.and_eq_true] at h1;have:=ih k (by simpa using hk) h1.2 (fun c hc=>h2 c (by simpa using hc));simp only[yD] at this;simp[yD,h1.1,this]
theorem yce (l:List UInt8):(yD l).length<=l.length:=(List.takeWhile_sublist _).length_le
theorem yaC (l:List UInt8):yD l=l.take (yD l).length:=by
 have:=List.takeWhile_prefix (p:=yL) (l:=l);exact List.prefix_iff_eq_take.1 this
theorem yeg (l:List UInt8):∀ c∈yD l,yL c=true:=by
 unfold yD
 induction l with
 | nil=>simp
 | cons a l ih =>
  intro c hc;rw[List.takeWhile_cons] at hc
  split at hc
  ·rcases List.mem_cons.1 hc with rfl | h
   ·assumption
   ·exact ih c h
  ·simp at hc
theorem ylc (l:List UInt8)(c:UInt8)(h:l[(yD l).length]?=some c):yL c=false:=by
 induction l with
 | nil=>simp at h
 | cons a l ih =>
  unfold yD at h;rw[List.takeWhile_cons] at h
  split at h
  ·exact ih (by simpa [yD] using h)
  ·rename_i hd
   simp at h;subst h;exact Bool.eq_false_iff.2 hd
theorem yeB (l:List UInt8)(h:l.all yL=true):yD l=l:=by
 have:=yeA l l.length (Nat.le_refl _) (by rw[List.take_length];exact h) (fun c hc=>by rw[List.getElem?_eq_none (Nat.le_refl _)] at hc;cases hc);rw[this,List.take_length]
theorem yiF (l:List UInt8)(h:(yD l).length=l.length):l.all yL=true:=by
 have e:=yaC l;rw[h,List.take_length] at e;rw[<- e,List.all_eq_true];exact yeg l
theorem ydM (d:List UInt8)(c:Nat)(hc:(yD d).length=c)(h:c=0\/3<c\/c<d.length)(a:UInt8):¬ (a=46/\1<=d.length/\d.length<=3/\d.all yL=true/\d.getLast?≠some 48):=by
 rintro⟨_,h1,h2,h3,_⟩;rw[yeB d h3] at hc;omega
theorem ygB (l:List UInt8)(h:l.all yL=true):yad l<10 ^ l.length:=by
 have key:∀ (l:List UInt8) (v n:Nat),l.all yL=true->v<10 ^ n->l.foldl (fun v c=>10*v+(c.toNat-48)) v<10 ^ (n+l.length):=by
  intro l
  induction l with
  | nil=>intro v n _ hv;simpa using hv
  | cons a l ih =>
   intro v n hl hv;simp only[List.all_cons,Bool.and_eq_true] at hl;have ha:48<=a.toNat/\a.toNat<=57:=by simpa [yL] using hl.1
   have:=ih (10*v+(a.toNat-48)) (n+1) hl.2 (by rw[Nat.pow_succ];omega)
   simpa [Nat.add_assoc,Nat.add_comm 1] using this
 have:=key l 0 0 h (by decide)
 simpa [yad] using this
theorem ykE (l:List UInt8)(h:l.all yL=true)(hl:l.length<=3):yad l<1000:=by
 have:=ygB l h;have h2:10 ^ l.length<=10 ^ 3:=Nat.pow_le_pow_right (by decide) hl;omega
end Go.Proofs.YtgmidodmmlmmeaaGreatDoor
namespace Go.Proofs.YtgmidodmmlmmeaaGreatDoor
open Go.RowKit _root_.Go.Proofs.Tryz
theorem yfR (s:ByteArray)(k:Nat)(h:k<s.size):s.data.toList[k]?=some s[k]:=by
 rw[List.getElem?_eq_getElem (by simpa using h)];rfl
theorem ycQ (s:ByteArray)(k:Nat)(h:k<s.size):s.data.toList.take (k+1)=s.data.toList.take k++[s[k]]:=by
 rw[yhB _ k (by simpa using h)];rfl
theorem yeC (s:ByteArray)(k v fv fc:Nat)(hk:k<=s.size)(h1:(s.data.toList.take k).all yL=true)(h2:v=min (yad (s.data.toList.take k)) 268436)(h3:min (yad (yD s.data.toList)) 268436=fv)(h4:(yD s.data.toList).length=fc)(h5:∀ c,s.data.toList[k]?=some c->yL c=false):fv=v/\fc=k:=by
 have e:=yeA s.data.toList k (by simpa using hk) h1 h5;rw[e] at h3 h4;rw[List.length_take] at h4;have:s.data.toList.length=s.size:=by simp
 omega
theorem ydN (s:ByteArray)(w:World)(hs:s.size<=maxLen) :
    Calls Tryz.prog 221 #[.string s] w fun e w'=>e=.returned (.tuple #[.int .i64 ((min (yad (yD s.data.toList)) 268436:Nat):Int),.int .i64 ((yD s.data.toList).length:Int)])/\w=w':=by
 unfold maxLen at hs;obtain⟨fv,hfv⟩:∃ v:Nat,min (yad (yD s.data.toList)) 268436=v:=⟨_,rfl⟩
 obtain⟨fc,hfc⟩:∃ v:Nat,(yD s.data.toList).length=v:=⟨_,rfl⟩
 rw[hfv,hfc];have FV:=Lib.hid hfv;have FC:=Lib.hid hfc;clear hfv hfc;go_enter func221,ntmps221;go_wp2
 go_step3
 go_wp2
 go_step3
 go_wp2
 go_loop [2,3] (fun v c=>∃ k v':Nat,k<=s.size/\v'<=268436/\c=.int .i64 k/\v=.int .i64 v'/\(s.data.toList.take k).all yL=true/\v'=min (yad (s.data.toList.take k)) 268436) (fun _ c=>s.size-(intOf c).toNat)
 case atStart=>exact⟨0,0,Nat.zero_le _,by omega,rfl,rfl,rfl,rfl⟩
 case round =>
  obtain⟨k,v,hk,hv,rfl,rfl,hall,hval⟩:=hrel;have H1:=Lib.hid hall;have H2:=Lib.hid hval;clear hall hval
  by_cases hlt:k<s.size
  ·have HD:=Lib.hid (yfR s k hlt)
   have HT:=Lib.hid (ycQ s k hlt)
   by_cases h48:48<=(s[k].toNat:Int)
   ·by_cases h57:(s[k].toNat:Int)<=57
    ·go_wp2
     go_round
     case rel =>
      refine⟨k+1,min (10*v+(s[k].toNat-48)) 268436,by omega,by omega,by go_num,congrArg (Value.int .i64) (by omega),?_,?_⟩
      ·rw[HT.out,List.all_append,H1.out]
       unfold yL;simp;omega
      ·rw[HT.out,ycy,H2.out,ynH]
     case measure=>simp[intOf];omega
    ·go_wp2
     obtain⟨rfl,rfl⟩:=yeC s k v fv fc hk H1.out H2.out FV.out FC.out (fun c hc=>by
      rw[HD.out] at hc;obtain rfl:=Option.some.inj hc
      unfold yL;simp;omega)
     go_ret2
     exact⟨rfl,rfl⟩
   ·go_wp2
    obtain⟨rfl,rfl⟩:=yeC s k v fv fc hk H1.out H2.out FV.out FC.out (fun c hc=>by
     rw[HD.out] at hc;obtain rfl:=Option.some.inj hc
     unfold yL;simp;omega)
    go_ret2
    exact⟨rfl,rfl⟩
  ·obtain rfl:k=s.size:=by omega
   go_wp2
   obtain⟨rfl,rfl⟩:=yeC s s.size v fv fc hk H1.out H2.out FV.out FC.out (fun c hc=>by
    rw[List.getElem?_eq_none (by simp)] at hc
    cases hc)
   go_ret2
   exact⟨rfl,rfl⟩
theorem yld (s:ByteArray):(⟨s.data.toList.toArray⟩:ByteArray)=s:=by
 apply ByteArray.ext;simp
theorem yeD (s:ByteArray)(c:UInt8)(d:List UInt8)(w:World)(hs:Hid (s.data.toList=c::d)) :
    Calls Tryz.prog 220 #[.string s,.string ⟨#[c]⟩] w fun e w'=>e=.returned (.tuple #[.string ⟨d.toArray⟩,.bool true])/\w=w':=by
 have h:=Tryz.strings_CutPrefix s ⟨#[c]⟩ w;have e1:Lib.hasPrefix s.data.toList [c]=true:=by rw[hs.out];simp[Lib.hasPrefix]
 have e2:Lib.trimPrefix s.data.toList [c]=d:=by unfold Lib.trimPrefix;rw[if_pos e1,hs.out];rfl
 have e3:(⟨#[c]⟩:ByteArray).data.toList=[c]:=rfl;rw[e3,e1,e2] at h;exact h.mono fun _ _ h=>⟨h.1,h.2.symm⟩
theorem yqj (s:ByteArray)(c:UInt8)(w:World)(hs:Hid (s.data.toList.head?≠some c)) :
    Calls Tryz.prog 220 #[.string s,.string ⟨#[c]⟩] w fun e w'=>e=.returned (.tuple #[.string s,.bool false])/\w=w':=by
 have h:=Tryz.strings_CutPrefix s ⟨#[c]⟩ w;have hne:=hs.out
 have e1:Lib.hasPrefix s.data.toList [c]=false:=by
  cases hl:s.data.toList with
  | nil=>simp[Lib.hasPrefix]
  | cons a l =>
   rw[hl] at hne;have:¬ a=c:=by simpa using hne
   simp only[Lib.hasPrefix,List.isPrefixOf,Bool.and_true,beq_eq_false_iff_ne];exact fun h=>this h.symm
 have e2:Lib.trimPrefix s.data.toList [c]=s.data.toList:=by unfold Lib.trimPrefix;rw[if_neg (by simp[e1])]
 have e3:(⟨#[c]⟩:ByteArray).data.toList=[c]:=rfl;rw[e3,e1,e2,yld] at h;exact h.mono fun _ _ h=>⟨h.1,h.2.symm⟩
theorem ybr (s:ByteArray)(v c:Nat)(w:World)(hs:s.size<=9223372036854775807)(hv:Hid (min (yad (yD s.data.toList)) 268436=v))(hc:Hid ((yD s.data.toList).length=c)) :
    Calls Tryz.prog 221 #[.string s] w fun e w'=>e=.returned (.tuple #[.int .i64 v,.int .i64 c])/\w=w':=by
 have h:=ydN s w (by unfold maxLen;omega);rw[hv.out,hc.out] at h;exact h
def pad (V n k:Nat):Nat:=V*10 ^ (k-n)
theorem yle (V n:Nat):pad V n n=V:=by simp[pad]
theorem yji (V n k:Nat)(h:n<=k):pad V n (k+1)=10*pad V n k:=by
 unfold pad;rw[show k+1-n=(k-n)+1 by omega,Nat.pow_succ,<- Nat.mul_assoc,Nat.mul_comm 10]
theorem ysI (V n k:Nat)(hV:V<=1000)(hk:k<=3):pad V n k<=1000000:=by
 unfold pad;have:10 ^ (k-n)<=10 ^ 3:=Nat.pow_le_pow_right (by decide) (by omega)
 calc V*10 ^ (k-n)<=1000*10 ^ 3:=Nat.mul_le_mul hV this
  _=1000000:=by decide
def y9:List UInt8->Option Nat
 | []=>some 0
 | c::d=>if c=46/\1<=d.length/\d.length<=3/\d.all yL=true/\d.getLast?≠some 48 then some (pad (yad d) d.length 3) else none
def yeE (l:List UInt8):Value:=match y9 l with
 | none=>.tuple #[.int .i64 0,.bool false]
 | some p=>.tuple #[.int .i64 p,.bool true]
theorem ycR {c:UInt8}{d:List UInt8}(h:¬ (c=46/\1<=d.length/\d.length<=3/\d.all yL=true/\d.getLast?≠some 48)):yeE (c::d)=.tuple #[.int .i64 0,.bool false]:=by
 have:y9 (c::d)=none:=if_neg h;unfold yeE;rw[this]
theorem yhC {c:UInt8}{d:List UInt8}(h:c=46/\1<=d.length/\d.length<=3/\d.all yL=true/\d.getLast?≠some 48):yeE (c::d)=.tuple #[.int .i64 (pad (yad d) d.length 3),.bool true]:=by
 have:y9 (c::d)=some (pad (yad d) d.length 3):=if_pos h;unfold yeE;rw[this]
theorem yfG (s:ByteArray)(w:World)(he:s.data.toList=[]) :
    Calls Tryz.prog 222 #[.string s] w fun e w'=>e=.returned (.tuple #[.int .i64 0,.bool true])/\w=w':=by
 obtain rfl:s=⟨#[]⟩:=by apply ByteArray.ext;simpa using he
 clear he;go_enter func222,ntmps222;go_wp2
 go_ret2
 exact⟨rfl,rfl⟩
theorem yfH (s:ByteArray)(w:World)(hs:s.size<=9223372036854775807)(hne:s.data.toList≠[])(h46:s.data.toList.head?≠some 46) :
    Calls Tryz.prog 222 #[.string s] w fun e w'=>e=.returned (.tuple #[.int .i64 0,.bool false])/\w=w':=by
 obtain⟨v,hv⟩:∃ v:Nat,min (yad (yD s.data.toList)) 268436=v:=⟨_,rfl⟩
 obtain⟨c,hc⟩:∃ v:Nat,(yD s.data.toList).length=v:=⟨_,rfl⟩
 have H46:=Lib.hid h46;have HV:=Lib.hid hv;have HC:=Lib.hid hc;have hemp:s.toList.isEmpty=false:=by rw[ByteArray.toList_eq];cases h:s.data.toList with | nil=>exact absurd h hne | cons a l=>rfl
 clear h46 hv hc hne;go_enter func222,ntmps222;go_wp2_with fail
 refine(yqj s 46 _ H46).mono ?_;rintro e w' ⟨rfl,rfl⟩;go_wp2_with fail
 refine(ybr s v c _ hs HV HC).mono ?_;rintro e w' ⟨rfl,rfl⟩;go_wp2
 go_ret2
 exact⟨rfl,rfl⟩
theorem yfI (s:ByteArray)(d:List UInt8)(w:World)(hd:d.length<=9223372036854775806)(hl:s.data.toList=46::d) :
    Calls Tryz.prog 222 #[.string s] w fun e w'=>e=.returned (yeE (46::d))/\w=w':=by
 obtain⟨v,hv⟩:∃ v:Nat,min (yad (yD d)) 268436=v:=⟨_,rfl⟩
 obtain⟨c,hc⟩:∃ v:Nat,(yD d).length=v:=⟨_,rfl⟩
 have hcd:c<=d.length:=by rw[<- hc];exact yce d
 have hemp:s.toList.isEmpty=false:=by rw[ByteArray.toList_eq,hl];rfl
 have HV:Hid (min (yad (yD (⟨d.toArray⟩:ByteArray).data.toList)) 268436=v):=Lib.hid hv;have HC:Hid ((yD (⟨d.toArray⟩:ByteArray).data.toList).length=c):=Lib.hid hc;have HL:=Lib.hid hl;clear hv hc hl
 by_cases h0:c=0
 ·have HN:=Lib.hid h0
  subst h0;go_enter func222,ntmps222;go_wp2_with fail
  refine(yeD s 46 d _ HL).mono ?_;rintro e w' ⟨rfl,rfl⟩;go_wp2_with fail
  refine(ybr _ v _ _ (by rw[Lib.size_mk];omega) HV HC).mono ?_;rintro e w' ⟨rfl,rfl⟩;go_wp2
  go_ret2
  refine⟨?_,rfl⟩;rw[ycR (ydM d _ HC.out (by omega) 46)];rfl
 ·by_cases h3:3<c
  ·go_enter func222,ntmps222
   go_wp2_with fail
   refine(yeD s 46 d _ HL).mono ?_;rintro e w' ⟨rfl,rfl⟩;go_wp2_with fail
   refine(ybr _ v c _ (by rw[Lib.size_mk];omega) HV HC).mono ?_;rintro e w' ⟨rfl,rfl⟩;go_wp2
   go_ret2
   refine⟨?_,rfl⟩;rw[ycR (ydM d _ HC.out (by omega) 46)];rfl
  ·by_cases hn:c<d.length
   ·go_enter func222,ntmps222
    go_wp2_with fail
    refine(yeD s 46 d _ HL).mono ?_;rintro e w' ⟨rfl,rfl⟩;go_wp2_with fail
    refine(ybr _ v c _ (by rw[Lib.size_mk];omega) HV HC).mono ?_;rintro e w' ⟨rfl,rfl⟩;go_wp2
    go_ret2
    refine⟨?_,rfl⟩;rw[ycR (ydM d _ HC.out (by omega) 46)];rfl
   ·obtain rfl:c=d.length:=by omega
    go_enter func222,ntmps222;go_wp2_with fail
    refine(yeD s 46 d _ HL).mono ?_;rintro e w' ⟨rfl,rfl⟩;go_wp2_with fail
    refine(ybr _ v _ _ (by rw[Lib.size_mk];omega) HV HC).mono ?_;rintro e w' ⟨rfl,rfl⟩;go_wp2
    ·rename_i hA hB
     have hx:=Lib.getElem_mk d (d.length-1) (by rw[Lib.size_mk];omega)
     have hq:d.getLast?=some 48:=by
      rw[List.getLast?_eq_getElem?,hx]
      have:((⟨d.toArray⟩:ByteArray)[d.length-1]'(by rw[Lib.size_mk];omega)).toNat=48:=by
       rcases hB with (hB | hB) | hB
       ·have:=eq_of_beq hB;omega
       ·omega
       ·have:=eq_of_beq hB;omega
      exact congrArg some (UInt8.toNat_inj.1 this)
     go_ret2
     refine⟨?_,rfl⟩;rw[ycR (fun h=>h.2.2.2.2 hq)];rfl
    ·rename_i hA hB kk hk
     have hx:=Lib.getElem_mk d (d.length-1) (by rw[Lib.size_mk];omega)
     have hq:d.getLast?≠some 48:=by
      rw[List.getLast?_eq_getElem?,hx];intro h;have h:=Option.some.inj h;have:=hB.2;rw[h] at this;simp at this
     have hall:=yiF d HC.out;have hv3:=ykE d hall (by omega);have hv:v=yad d:=by have:=HV.out;rw[yeB d hall] at this;omega
     subst hv;have HW:=Lib.hid (yhC (c:=46) ⟨rfl,by omega,by omega,hall,hq⟩);have hn3:d.length<=3:=by omega
     obtain⟨V,hV⟩:∃ V,yad d=V:=⟨_,rfl⟩
     rw[hV] at hv3 HW |-;clear hB hx hq hall HV HC hV
     go_loop [6,7] (fun x k=>∃ k' x':Nat,d.length<=k'/\k'<=3/\x'<=1000000/\k=.int .i64 k'/\x=.int .i64 x'/\x'=pad V d.length k') (fun _ k=>3-(intOf k).toNat)
     case atStart=>exact⟨d.length,V,Nat.le_refl _,hn3,by omega,rfl,rfl,(yle _ _).symm⟩
     case round =>
      obtain⟨k,x,hk1,hk2,hx,rfl,rfl,hp⟩:=hrel;have HP:=Lib.hid hp;clear hp
      by_cases hlt:k<3
      ·go_wp2
       go_round
       case rel=>exact⟨k+1,10*x,by omega,by omega,by have:=ysI V d.length (k+1) (by omega) (by omega);rw[yji _ _ _ hk1,<- HP.out] at this;exact this,by go_num,congrArg (Value.int .i64) (by omega),by rw[yji _ _ _ hk1,HP.out]⟩
       case measure=>simp[intOf];omega
      ·obtain rfl:k=3:=by omega
       go_wp2
       go_ret2
       refine⟨?_,rfl⟩;rw[HW.out,<- HP.out];rfl
theorem ylf (l:List UInt8):(∃ p:Nat,y9 l=some p/\p<=999/\yeE l=.tuple #[.int .i64 p,.bool true])\/(y9 l=none/\yeE l=.tuple #[.int .i64 0,.bool false]):=by
 cases l with
 | nil=>exact Or.inl ⟨0,rfl,by omega,rfl⟩
 | cons c d =>
  by_cases h:c=46/\1<=d.length/\d.length<=3/\d.all yL=true/\d.getLast?≠some 48
  ·refine Or.inl ⟨_,if_pos h,?_,yhC h⟩
   have h1:=ygB d h.2.2.2.1;have h2:pad (yad d) d.length 3<10 ^ d.length*10 ^ (3-d.length):=Nat.mul_lt_mul_of_pos_right h1 (Nat.pow_pos (by decide));rw[<- Nat.pow_add,show d.length+(3-d.length)=3 by omega] at h2;omega
  ·exact Or.inr ⟨if_neg h,ycR h⟩
theorem yhD (s:ByteArray)(w:World)(hs:s.size<=9223372036854775807) :
    Calls Tryz.prog 222 #[.string s] w fun e w'=>e=.returned (yeE s.data.toList)/\w=w':=by
 have hsz:s.data.toList.length=s.size:=by simp
 cases hl:s.data.toList with
 | nil=>exact yfG s w hl
 | cons c d =>
  have hd:d.length+1=s.size:=by rw[<- hsz,hl];rfl
  by_cases hc:c=46
  ·subst hc
   exact yfI s d w (by omega) hl
  ·rw[ycR (fun h=>hc h.1)]
   exact yfH s w (by omega) (by rw[hl];simp) (by rw[hl];simpa using hc)
theorem yc7 (s:ByteArray)(a b:Value)(w:World)(hs:s.size<=9223372036854775807)(hv:Hid (yeE s.data.toList=.tuple #[a,b])) :
    Calls Tryz.prog 222 #[.string s] w fun e w'=>e=.returned (.tuple #[a,b])/\w=w':=by
 have:=yhD s w hs;rw[hv.out] at this;exact this
def ynI:Value:=.tuple #[.int .i64 0,.int .i64 4]
def ysE:Value:=.tuple #[.int .i64 0,.int .i64 16]
def yaD (neg:Bool)(t:List UInt8):Value :=
 if (yD t).length=0\/(1<(yD t).length/\t.head?=some 48)\/(neg=true/\t=[48]) then ynI
 else match y9 (t.drop (yD t).length) with
  | none=>ynI
  | some p=>if 268435456<yad (yD t)*1000+p then ysE else .tuple #[.int .i64 (if neg then -((yad (yD t)*1000+p:Nat):Int) else ((yad (yD t)*1000+p:Nat):Int)),.int .i64 0]
def yas (l:List UInt8):Value:=if l.head?=some 45 then yaD true l.tail else yaD false l
theorem ybv {neg:Bool}{t:List UInt8}(h:(yD t).length=0\/(1<(yD t).length/\t.head?=some 48)\/(neg=true/\t=[48])):yaD neg t=ynI:=if_pos h
theorem yc8 {neg:Bool}{t:List UInt8}(h2:y9 (t.drop (yD t).length)=none):yaD neg t=ynI:=by
 unfold yaD;split
 ·rfl
 ·rw[h2]
theorem ybg {neg:Bool}{t:List UInt8}{p:Nat}(h:¬ ((yD t).length=0\/(1<(yD t).length/\t.head?=some 48)\/(neg=true/\t=[48])))(h2:y9 (t.drop (yD t).length)=some p) :
    yaD neg t=if 268435456<yad (yD t)*1000+p then ysE else .tuple #[.int .i64 (if neg then -((yad (yD t)*1000+p:Nat):Int) else ((yad (yD t)*1000+p:Nat):Int)),.int .i64 0]:=by
 unfold yaD;rw[if_neg h,h2]
theorem ynJ {V p v:Nat}(hv:min V 268436=v)(hp:p<=999):(268435456<v*1000+p)↔(268435456<V*1000+p):=by omega
theorem ynK {V p v:Nat}(hv:min V 268436=v)(h:¬ 268435456<V*1000+p):v=V:=by omega
theorem ya3 (s:ByteArray)(c:Nat):(s.extract c s.size).data.toList=s.data.toList.drop c:=by
 rw[Lib.extract_from]
theorem yhE (s:ByteArray)(c:Nat):(s.extract c s.size).size<=s.size:=by
 rw[Lib.extract_from,Lib.size_mk,List.length_drop];simp
theorem yeF (s tx:ByteArray)(neg:Bool)(w:World)(hsz:tx.size<=9223372036854775807)
    (HCUT:Hid (∀ w,Calls Tryz.prog 220 #[.string s,.string ⟨#[45]⟩] w fun e w'=>e=.returned (.tuple #[.string tx,.bool neg])/\w=w'))
    (v c:Nat) (hc0:c<=tx.size) (HV:Hid (min (yad (yD tx.data.toList)) 268436=v)) (HC:Hid ((yD tx.data.toList).length=c)) (HB:Hid (yaD neg tx.data.toList=ynI))
    (h0:0<tx.size) (hg:(1<c/\((tx[0].toNat:Int)==48)=true)\/(1<c/\((tx[0].toNat:Int)==48)=false/\(s.toList==[45,48])=true)\/(c=1/\(s.toList==[45,48])=true)) :
    Calls Tryz.prog 166 #[.string s] w fun e w'=>e=.returned (yaD neg tx.data.toList)/\w=w':=by
 rcases hg with ⟨hz,h48⟩ | ⟨hz,h48,hE⟩ | ⟨rfl,hE⟩
 ·go_enter func166,ntmps166
  go_wp2_with fail
  refine(HCUT.out _).mono ?_;rintro e w' ⟨rfl,rfl⟩;go_wp2_with fail
  refine(ybr tx v _ _ (by omega) HV HC).mono ?_;rintro e w' ⟨rfl,rfl⟩;go_wp2
  go_ret2
  refine⟨?_,rfl⟩;rw[HB.out];rfl
 ·go_enter func166,ntmps166
  go_wp2_with fail
  refine(HCUT.out _).mono ?_;rintro e w' ⟨rfl,rfl⟩;go_wp2_with fail
  refine(ybr tx v _ _ (by omega) HV HC).mono ?_;rintro e w' ⟨rfl,rfl⟩;go_wp2
  go_ret2
  refine⟨?_,rfl⟩;rw[HB.out];rfl
 ·go_enter func166,ntmps166
  go_wp2_with fail
  refine(HCUT.out _).mono ?_;rintro e w' ⟨rfl,rfl⟩;go_wp2_with fail
  refine(ybr tx v _ _ (by omega) HV HC).mono ?_;rintro e w' ⟨rfl,rfl⟩;go_wp2
  go_ret2
  refine⟨?_,rfl⟩;rw[HB.out];rfl
theorem ylg (s tx:ByteArray)(neg:Bool)(w:World)(hsz:tx.size<=9223372036854775807)
    (HCUT:Hid (∀ w,Calls Tryz.prog 220 #[.string s,.string ⟨#[45]⟩] w fun e w'=>e=.returned (.tuple #[.string tx,.bool neg])/\w=w'))
    (v:Nat) (HV:Hid (min (yad (yD tx.data.toList)) 268436=v)) (HC:Hid ((yD tx.data.toList).length=0)) (HB:Hid (yaD neg tx.data.toList=ynI)) :
    Calls Tryz.prog 166 #[.string s] w fun e w'=>e=.returned (yaD neg tx.data.toList)/\w=w':=by
 go_enter func166,ntmps166;go_wp2_with fail
 refine(HCUT.out _).mono ?_;rintro e w' ⟨rfl,rfl⟩;go_wp2_with fail
 refine(ybr tx v _ _ (by omega) HV HC).mono ?_;rintro e w' ⟨rfl,rfl⟩;go_wp2
 go_ret2
 refine⟨?_,rfl⟩;rw[HB.out];rfl
theorem yfS (s tx:ByteArray)(neg:Bool)(w:World)(hsz:tx.size<=9223372036854775807)
    (HCUT:Hid (∀ w,Calls Tryz.prog 220 #[.string s,.string ⟨#[45]⟩] w fun e w'=>e=.returned (.tuple #[.string tx,.bool neg])/\w=w'))
    (v c:Nat) (hc0:c<=tx.size) (hv1:v<=268436) (HV:Hid (min (yad (yD tx.data.toList)) 268436=v)) (HC:Hid ((yD tx.data.toList).length=c)) (HG:Hid (¬ ((yD tx.data.toList).length=0\/(1<(yD tx.data.toList).length/\tx.data.toList.head?=some 48)\/(neg=true/\tx.data.toList=[48]))))
    (h0:0<tx.size) (hE:(s.toList==[45,48])=false) (hg:(1<c/\((tx[0].toNat:Int)==48)=false)\/c=1) :
    Calls Tryz.prog 166 #[.string s] w fun e w'=>e=.returned (yaD neg tx.data.toList)/\w=w':=by
 have hdz:=yhE tx c
 rcases ylf (tx.data.toList.drop (yD tx.data.toList).length) with ⟨p,hf1,hp,hf2⟩ | ⟨hf1,hf2⟩
 ·have HP:=Lib.hid (ybg HG.out hf1)
  have HF:Hid (yeE (tx.extract c tx.size).data.toList=.tuple #[.int .i64 p,.bool true]):=Lib.hid (by rw[ya3,<- HC.out];exact hf2);have HO:=Lib.hid (ynJ (p:=p) HV.out hp);clear hf1 hf2
  by_cases ho:268435456<v*1000+p
  ·have HQ:=Lib.hid (HO.out.1 ho)
   rcases hg with ⟨hz,h48⟩ | rfl
   all_goals
    go_enter func166,ntmps166;go_wp2_with fail
    refine(HCUT.out _).mono ?_;rintro e w' ⟨rfl,rfl⟩;go_wp2_with fail
    refine(ybr tx v _ _ (by omega) HV HC).mono ?_;rintro e w' ⟨rfl,rfl⟩;go_wp2_with fail
    refine(yc7 _ _ _ _ (by omega) HF).mono ?_;rintro e w' ⟨rfl,rfl⟩;go_wp2
    go_ret2
    refine⟨?_,rfl⟩;rw[HP.out,if_pos HQ.out];rfl
  ·have HQ:=Lib.hid (fun h=>ho (HO.out.2 h))
   have HS:=Lib.hid (ynK HV.out HQ.out)
   rcases hg with ⟨hz,h48⟩ | rfl <;> cases neg
   all_goals
    go_enter func166,ntmps166;go_wp2_with fail
    refine(HCUT.out _).mono ?_;rintro e w' ⟨rfl,rfl⟩;go_wp2_with fail
    refine(ybr tx v _ _ (by omega) HV HC).mono ?_;rintro e w' ⟨rfl,rfl⟩;go_wp2_with fail
    refine(yc7 _ _ _ _ (by omega) HF).mono ?_;rintro e w' ⟨rfl,rfl⟩;go_wp2
    go_ret2
    refine⟨?_,rfl⟩;rw[HP.out,if_neg HQ.out,<- HS.out];rfl
 ·have HB:=Lib.hid (yc8 (neg:=neg) hf1)
  have HF:Hid (yeE (tx.extract c tx.size).data.toList=.tuple #[.int .i64 0,.bool false]):=Lib.hid (by rw[ya3,<- HC.out];exact hf2);clear hf1 hf2
  rcases hg with ⟨hz,h48⟩ | rfl
  all_goals
   go_enter func166,ntmps166;go_wp2_with fail
   refine(HCUT.out _).mono ?_;rintro e w' ⟨rfl,rfl⟩;go_wp2_with fail
   refine(ybr tx v _ _ (by omega) HV HC).mono ?_;rintro e w' ⟨rfl,rfl⟩;go_wp2_with fail
   refine(yc7 _ _ _ _ (by omega) HF).mono ?_;rintro e w' ⟨rfl,rfl⟩;go_wp2
   go_ret2
   refine⟨?_,rfl⟩;rw[HB.out];rfl
theorem yiG (tx:ByteArray)(h:0<tx.size):tx.data.toList.head?=some tx[0]:=by
 rw[List.head?_eq_getElem?,yfR tx 0 h]
theorem yfT (s tx:ByteArray)(neg:Bool)(w:World)(hsz:tx.size<=9223372036854775807)
    (HCUT:Hid (∀ w,Calls Tryz.prog 220 #[.string s,.string ⟨#[45]⟩] w fun e w'=>e=.returned (.tuple #[.string tx,.bool neg])/\w=w'))
    (hE:(s.toList==[45,48])=true↔(neg=true/\tx.data.toList=[48])) :
    Calls Tryz.prog 166 #[.string s] w fun e w'=>e=.returned (yaD neg tx.data.toList)/\w=w':=by
 obtain⟨v,hv⟩:∃ v:Nat,min (yad (yD tx.data.toList)) 268436=v:=⟨_,rfl⟩
 obtain⟨c,hc⟩:∃ v:Nat,(yD tx.data.toList).length=v:=⟨_,rfl⟩
 have hcs:c<=tx.size:=by rw[<- hc];have:=yce tx.data.toList;simpa using this
 have hv1:v<=268436:=by omega
 by_cases h0:c=0
 ·subst h0
  exact ylg s tx neg w hsz HCUT v (Lib.hid hv) (Lib.hid hc) (Lib.hid (ybv (Or.inl hc)))
 ·have hpos:0<tx.size:=by omega
  have hh:=yiG tx hpos
  have heq:∀ b:Bool,((tx[0].toNat:Int)==48)=b->(b=true↔tx.data.toList.head?=some 48):=by
   intro b hb;subst hb;rw[hh,beq_iff_eq]
   constructor
   ·intro h;exact congrArg some (UInt8.toNat_inj.1 (by rw[show (48:UInt8).toNat=48 from rfl];omega))
   ·intro h;rw[Option.some.inj h];rfl
  cases hb:((tx[0].toNat:Int)==48) with
  | true =>
   have h48:=(heq true hb).1 rfl
   by_cases hz:1<c
   ·exact yeF s tx neg w hsz HCUT v c hcs (Lib.hid hv) (Lib.hid hc) (Lib.hid (ybv (Or.inr (Or.inl ⟨by omega,h48⟩)))) hpos (Or.inl ⟨hz,hb⟩)
   ·cases hE2:(s.toList==[45,48]) with
    | true=>exact yeF s tx neg w hsz HCUT v c hcs (Lib.hid hv) (Lib.hid hc) (Lib.hid (ybv (Or.inr (Or.inr (hE.1 hE2))))) hpos (Or.inr (Or.inr ⟨by omega,hE2⟩))
    | false =>
     refine yfS s tx neg w hsz HCUT v c hcs hv1 (Lib.hid hv) (Lib.hid hc) (Lib.hid ?_) hpos hE2 (Or.inr (by omega));rintro (h | h | h)
     ·omega
     ·omega
     ·rw[hE.2 h] at hE2;cases hE2
  | false =>
   have h48:¬ tx.data.toList.head?=some 48:=fun h=>by have:=(heq false hb).2 h;cases this
   cases hE2:(s.toList==[45,48]) with
   | true =>
    refine yeF s tx neg w hsz HCUT v c hcs (Lib.hid hv) (Lib.hid hc) (Lib.hid (ybv (Or.inr (Or.inr (hE.1 hE2))))) hpos ?_
    by_cases hz:1<c
    ·exact Or.inr (Or.inl ⟨hz,hb,hE2⟩)
    ·exact Or.inr (Or.inr ⟨by omega,hE2⟩)
   | false =>
    refine yfS s tx neg w hsz HCUT v c hcs hv1 (Lib.hid hv) (Lib.hid hc) (Lib.hid ?_) hpos hE2 ?_
    ·rintro (h | h | h)
     ·omega
     ·exact h48 h.2
     ·rw[hE.2 h] at hE2;cases hE2
    ·by_cases hz:1<c
     ·exact Or.inl ⟨hz,hb⟩
     ·exact Or.inr (by omega)
theorem yaP (s:ByteArray)(w:World)(hs:s.size<=9223372036854775807) :
    Calls Tryz.prog 166 #[.string s] w fun e w'=>e=.returned (yas s.data.toList)/\w=w':=by
 have hsz:s.data.toList.length=s.size:=by simp
 by_cases h:s.data.toList.head?=some 45
 ·obtain⟨t,ht⟩:∃ t,s.data.toList=45::t:=by
    cases hl:s.data.toList with
    | nil=>rw[hl] at h;cases h
    | cons a t=>rw[hl] at h;obtain rfl:=Option.some.inj h;exact⟨t,rfl⟩
  have e:yas s.data.toList=yaD true (⟨t.toArray⟩:ByteArray).data.toList:=by rw[ht];rfl
  rw[e];refine yfT s ⟨t.toArray⟩ true w ?_ (Lib.hid fun w=>yeD s 45 t w (Lib.hid ht)) ?_
  ·rw[Lib.size_mk]
   have:t.length+1=s.size:=by rw[<- hsz,ht];rfl
   omega
  ·rw[ByteArray.toList_eq,ht]
   simp
 ·have e:yas s.data.toList=yaD false s.data.toList:=by unfold yas;rw[if_neg h]
  rw[e];refine yfT s s false w hs (Lib.hid fun w=>yqj s 45 w (Lib.hid h)) ?_;rw[ByteArray.toList_eq]
  constructor
  ·intro h2
   have h2:=eq_of_beq h2;rw[h2] at h;exact absurd rfl h
  ·rintro⟨h2,_⟩
   cases h2
end Go.Proofs.YtgmidodmmlmmeaaGreatDoor
