/-
  Contracts and plain facts of the layers below; conditions as each theorem states them.
-/
import Derived.Test.YtgmidodmmlmmeaaGreatDoorMad
import Derived.Test.YtgmidodmmlmmeaaGreatDoorChecked
import Derived.Lib.BufferRead
set_option maxHeartbeats 8000000
namespace Go.Proofs.YtgmidodmmlmmeaaGreatDoor
open Go.RowKit lex
theorem yry (n b0 b1 b2 b3:Nat)(h0:128<=b0)(hn:1<=n):128<=(Lib.decodeN n b0 b1 b2 b3).1/\1<=(Lib.decodeN n b0 b1 b2 b3).2/\(Lib.decodeN n b0 b1 b2 b3).2<=n /\
    (1<(Lib.decodeN n b0 b1 b2 b3).2->128<=b1)/\(2<(Lib.decodeN n b0 b1 b2 b3).2->128<=b2)/\(3<(Lib.decodeN n b0 b1 b2 b3).2->128<=b3)/\(Lib.decodeN n b0 b1 b2 b3).2<=4:=by
 unfold Lib.decodeN
 repeat' split
 all_goals (simp only;omega)
theorem yjU (s:ByteArray)(i:Nat)(h:i<s.size):s.get! i=s[i]:=by
 cases s with
 | mk d=>exact getElem!_pos d i h
theorem yqy (s:ByteArray)(i:Nat)(h:i<s.size)(hb:s[i].toNat<128):Utf8.decode s i=(s[i].toNat,1):=by
 rw[Lib.decode_at,yjU s i h];unfold Lib.decodeN;rw[if_pos hb]
theorem yqz (s:ByteArray)(i:Nat)(h:i<s.size)(hb:128<=s[i].toNat):128<=(Utf8.decode s i).1/\1<=(Utf8.decode s i).2/\i+(Utf8.decode s i).2<=s.size/\∀ j,j<(Utf8.decode s i).2->∀ c,s.data.toList[i+j]?=some c->128<=c.toNat:=by
 rw[Lib.decode_at];obtain⟨h1,h2,h3,h4,h5,h6,h7⟩:=yry (s.size-i) (s.get! i).toNat (s.get! (i+1)).toNat (s.get! (i+2)).toNat (s.get! (i+3)).toNat (by rw[yjU s i h];exact hb) (by omega);refine⟨h1,h2,by omega,fun j hj c hc=>?_⟩
 have hlt:i+j<s.size:=by
  have:=(List.getElem?_eq_some_iff.1 hc).1
  rwa [yp] at this
 rw[ycF s (i+j) hlt] at hc;obtain rfl:=Option.some.inj hc;rw[<- yjU s (i+j) hlt]
 match j,hj with
 | 0,_=>rw[Nat.add_zero,yjU s i h];exact hb
 | 1,hj=>exact h4 hj
 | 2,hj=>exact h5 hj
 | 3,hj=>exact h6 hj
 | (j+4),hj=>omega
theorem yrz (p:UInt8->Bool):∀ (k:Nat) (l:List UInt8),k<=l.length->(∀ j,j<k->∀ c,l[j]?=some c->p c=true)->(l.takeWhile p).length=k+((l.drop k).takeWhile p).length:=by
 intro k
 induction k with
 | zero=>intro l _ _;simp
 | succ k ih =>
  intro l hk h
  cases l with
  | nil=>simp at hk
  | cons a t =>
   have ha:p a=true:=h 0 (by omega) a rfl;rw[List.takeWhile_cons,ha]
   show (t.takeWhile p).length+1=_
   rw[ih t (by simpa using hk) (fun j hj c hc=>h (j+1) (by omega) c (by simpa using hc)),List.drop_succ_cons];omega
theorem ymo (p:UInt8->Bool)(l:List UInt8)(c:UInt8)(h:l.head?=some c)(hp:p c=false):(l.takeWhile p).length=0:=by
 cases l with
 | nil=>cases h
 | cons a t=>obtain rfl:=Option.some.inj h;rw[List.takeWhile_cons,hp];rfl
structure ByBytes (p:Nat->Bool)(q:UInt8->Bool):Prop where
 low:∀ b:UInt8,b.toNat<128->p b.toNat=q b
 high:∃ v,(∀ r,128<=r->p r=v)/\∀ b:UInt8,128<=b.toNat->q b=v
theorem yjV {p:Nat->Bool}{q:UInt8->Bool}(H:ByBytes p q)(s:ByteArray):∀ (f pos:Nat),s.size<=pos+f->pos<=s.size ->
    Lib.idxFuncFrom p false s f pos=if ((s.data.toList.drop pos).takeWhile q).length=s.size-pos then -1 else ((pos+((s.data.toList.drop pos).takeWhile q).length:Nat):Int):=by
 obtain⟨v,hv1,hv2⟩:=H.high;intro f
 induction f with
 | zero =>
  intro pos h1 h2;have e:pos=s.size:=by omega
  rw[Lib.idxFuncFrom_end p false s 0 pos (by omega),yjT (by omega),if_pos (by rw[e];simp)]
 | succ f ih =>
  intro pos h1 h2
  by_cases hlt:pos<s.size
  ·unfold Lib.idxFuncFrom
   rw[if_pos hlt];have hL:(s.data.toList.drop pos).length=s.size-pos:=by rw[List.length_drop,yp]
   have hh:(s.data.toList.drop pos).head?=some s[pos]:=by rw[List.head?_drop];exact ycF s pos hlt
   by_cases hb:s[pos].toNat<128
   ·rw[yqy s pos hlt hb]
    simp only;rw[H.low _ hb]
    by_cases hq:q s[pos]=false
    ·rw[if_pos hq,ymo q _ _ hh hq,if_neg (by omega)];rfl
    ·rw[if_neg hq]
     simp only[Bool.not_eq_false] at hq;rw[ih (pos+1) (by omega) (by omega),ymn hlt,List.takeWhile_cons,hq];have e:(if true=true then s[pos]::(List.drop (pos+1) s.data.toList).takeWhile q else []).length=((List.drop (pos+1) s.data.toList).takeWhile q).length+1:=rfl;rw[e];generalize ((List.drop (pos+1) s.data.toList).takeWhile q).length=n
     by_cases hn:n=s.size-(pos+1)
     ·rw[if_pos hn,if_pos (by omega)]
     ·rw[if_neg hn,if_neg (by omega)];congr 1;omega
   ·obtain⟨d1,d2,d3,d4⟩:=yqz s pos hlt (by omega)
    rw[hv1 _ d1];have hq:=hv2 s[pos] (by omega);cases v
    ·rw[if_pos rfl,ymo q _ _ hh hq,if_neg (by omega)];rfl
    ·rw[if_neg (by simp),ih _ (by omega) (by omega)]
     rw[yrz q (Utf8.decode s pos).2 (s.data.toList.drop pos) (by omega) (fun j hj c hc=>hv2 c (d4 j hj c (by rw[List.getElem?_drop] at hc;exact hc))),List.drop_drop];generalize ((List.drop (pos+(Utf8.decode s pos).2) s.data.toList).takeWhile q).length=n;generalize (Utf8.decode s pos).2=k at d2 d3 |-
     by_cases hn:n=s.size-(pos+k)
     ·rw[if_pos hn,if_pos (by omega)]
     ·rw[if_neg hn,if_neg (by omega)];congr 1;omega
  ·have e:pos=s.size:=by omega
   rw[Lib.idxFuncFrom_end p false s (f+1) pos (by omega),yjT (by omega),if_pos (by rw[e];simp)]
theorem ymp {p:Nat->Bool}{q:UInt8->Bool}(H:ByBytes p q)(s:ByteArray):(Lib.trimLeftF p s).size=s.size-(s.data.toList.takeWhile q).length:=by
 have h:=yjV H s s.size 0 (by omega) (Nat.zero_le _);rw[List.drop_zero] at h;have hle:=ybm q s.data.toList;rw[yp] at hle;unfold Lib.trimLeftF
 change Lib.idxFunc p false s=_ at h
 rw[h]
 by_cases hn:(s.data.toList.takeWhile q).length=s.size-0
 ·rw[if_pos hn,if_pos rfl];show 0=_;omega
 ·rw[if_neg hn,if_neg (by omega),<- yp,ya3,List.length_drop,yp]
  congr 1
  omega
def yrA (x:Nat):Bool:=decide (48<=x/\x<=57)
def wdN (x:Nat):Bool:=decide (97<=x/\x<=122)||decide (65<=x/\x<=90)||decide (x=95)||yrA x
def plN (x:Nat):Bool:=decide (32<=x/\x<=126)
def esN (x:Nat):Bool:=decide (x=34\/x=92)
theorem wd_by:ByBytes wdN ycP:=⟨fun b _=>rfl,false,fun r h=>by simp[wdN,yrA];omega,fun b h=>by simp[ycP,ybA,ycx];omega⟩
end Go.Proofs.YtgmidodmmlmmeaaGreatDoor
namespace Go.Proofs.YtgmidodmmlmmeaaGreatDoor
open Go.RowKit lex _root_.Go.Proofs.Tryz
theorem yiW (x:Nat)(w:World):Calls Tryz.prog 182 #[.int .i32 (x:Int)] w fun e w'=>e=.returned (.bool (yrA x))/\w=w':=by
 go_enter func182,ntmps182;go_wp2
 all_goals go_ret
 all_goals refine⟨yaf ?_,rfl⟩
 all_goals (unfold yrA;rw[Bool.eq_iff_iff];simp;omega)
theorem ydW (x:Nat)(v:Bool)(w:World)(h:Hid (yrA x=v)):Calls Tryz.prog 182 #[.int .i32 (x:Int)] w fun e w'=>e=.returned (.bool v)/\w=w':=by
 rw[<- h.out];exact yiW x w
theorem yfM (x:Nat)(w:World):Calls Tryz.prog 181 #[.int .i32 (x:Int)] w fun e w'=>e=.returned (.bool (wdN x))/\w=w':=by
 obtain⟨d,hd⟩:∃ v,yrA x=v:=⟨_,rfl⟩
 have HD:=Lh hd;unfold wdN;rw[hd];clear hd;go_enter func181,ntmps181
 go_wp2_with (go_at_call 182;refine(ydW _ _ _ HD).mono ?_;rintro e w' ⟨rfl,rfl⟩)
 all_goals go_ret
 all_goals refine⟨yaf ?_,rfl⟩
 all_goals (rw[Bool.eq_iff_iff];cases d <;> simp <;> omega)
theorem yfk (x:Nat)(w:World):Calls Tryz.prog 238 #[.int .i32 (x:Int)] w fun e w'=>e=.returned (.bool (plN x))/\w=w':=by
 go_enter func238,ntmps238;go_wp2
 all_goals go_ret
 all_goals refine⟨yaf ?_,rfl⟩
 all_goals (unfold plN;rw[Bool.eq_iff_iff];simp;omega)
theorem ybV (x:Nat)(v:Bool)(w:World)(h:Hid (plN x=v)):Calls Tryz.prog 238 #[.int .i32 (x:Int)] w fun e w'=>e=.returned (.bool v)/\w=w':=by
 rw[<- h.out];exact yfk x w
theorem yhb (x:Nat)(w:World):Calls Tryz.prog 239 #[.int .i32 (x:Int)] w fun e w'=>e=.returned (.bool (esN x))/\w=w':=by
 go_enter func239,ntmps239;go_wp2
 all_goals go_ret
 all_goals refine⟨yaf ?_,rfl⟩
 all_goals (unfold esN;rw[Bool.eq_iff_iff];simp;omega)
theorem yeb (x:Nat)(v:Bool)(w:World)(h:Hid (esN x=v)):Calls Tryz.prog 239 #[.int .i32 (x:Int)] w fun e w'=>e=.returned (.bool v)/\w=w':=by
 rw[<- h.out];exact yhb x w
theorem yjW {g:Nat}{p:Nat->Bool}(h:∀ (x:Nat) (w:World),Calls Tryz.prog g #[.int .i32 (x:Int)] w fun e w'=>e=.returned (.bool (p x))/\w=w')(w:World):PredAtRunes Tryz.prog g #[] p w :=
 fun W x _ _=>(h x W).mono fun _ _ ⟨he,hw⟩=>⟨he,0,hw.symm⟩
theorem ykT (g:Nat)(p:Nat->Bool)(q:UInt8->Bool)(H:ByBytes p q)(eg:∀ args w,(callFunc g args).run Tryz.prog w=.ok (.enter g args) w)(hp:∀ (x:Nat) (w:World),Calls Tryz.prog g #[.int .i32 (x:Int)] w fun e w'=>e=.returned (.bool (p x))/\w=w')
    (s:ByteArray) (n:Nat) (w:World) (hs:s.size<=maxLen) (hn:Hid ((s.data.toList.takeWhile q).length=n)) :
    Calls Tryz.prog 180 #[.string s,.func (.func g) #[] #[]] w fun e w'=>e=.returned (.string (s.extract 0 n))/\Below w.heap.size w w':=by
 unfold maxLen at hs;have hle:=ybm q s.data.toList;rw[yp,hn.out] at hle;have cT:=Lh (Tryz.strings_TrimLeftFunc_runes g #[] eg p s w (yjW hp w));have hz:=ymp H s;rw[hn.out] at hz;obtain⟨T,hT⟩:∃ T,Lib.trimLeftF p s=T:=⟨_,rfl⟩
 rw[hT] at cT hz;have hz2:T.size<=s.size:=by omega
 have hz3:n=s.size-T.size:=by omega
 have hzi:(s.size:Int)-(T.size:Int)=(n:Int):=by omega
 have HZ:=Lh hz3;clear hz hz3 hT;go_enter func180,ntmps180
 go_wp2_with (go_at_call 237;refine(cT.out).mono ?_;rintro e w1 ⟨rfl,hb1⟩)
 go_ret;exact⟨rfl,hb1⟩
theorem yiX (s:ByteArray)(n:Nat)(w:World)(hs:s.size<=maxLen)(hn:Hid ((s.data.toList.takeWhile ycP).length=n)) :
    Calls Tryz.prog 180 #[.string s,.func (.func 181) #[] #[]] w fun e w'=>e=.returned (.string (s.extract 0 n))/\Below w.heap.size w w' :=
 ykT _ _ _ wd_by (enters_of func181 (by kernel_rfl) rfl) yfM s n w hs hn
theorem yet (b:ByteArray)(k:Nat):(b.extract 0 k).data.toList=b.data.toList.take k:=by
 rw[ByteArray.data_extract,Array.toList_extract,List.extract_eq_take_drop,List.drop_zero,Nat.sub_zero]
theorem yiY (b:UInt8):wrap32 (b.toNat:Int)=(b.toNat:Int):=by have:=b.toNat_lt;unfold wrap32;omega
theorem yjX (s:ByteArray)(k:Nat)(h:k<=s.size):(s.extract 0 k).size=k:=by rw[<- yp,yet s k,List.length_take,yp];omega
theorem yrB (s X:ByteArray)(k:Nat)(hX:s.extract 0 k=X)(h0:0<k)(hz:0<X.size)(hs:0<s.size):X[0]=s[0]:=by
 subst hX;have a:=ycF (s.extract 0 k) 0 hz;rw[yet s k,List.getElem?_take_of_lt h0,ycF s 0 hs] at a;exact(Option.some.inj a).symm
theorem yjY (s:ByteArray):s.extract 0 0=ByteArray.empty:=yml (by rw[yet];rfl)
theorem ygl {s:ByteArray}(h:0<s.size):yaB s.data.toList=if ycx s[0]=true then 0 else (s.data.toList.takeWhile ycP).length:=by
 have e:=ymn (s:=s) (k:=0) h;rw[List.drop_zero] at e;rw[e,ybn,List.takeWhile_cons]
 by_cases hd:ycx s[0]=true
 ·rw[if_pos hd,ysH hd];rfl
 ·rw[if_neg hd]
  unfold ycP
  by_cases hl:ybA s[0]=true
  ·rw[hl];rfl
  ·simp only[Bool.not_eq_true] at hd hl;rw[hl,hd];rfl
theorem ymq {s:ByteArray}(h:s.size=0):yaB s.data.toList=0:=by rw[yek h];rfl
theorem yfN (s:ByteArray)(n:Nat)(w:World)(hs:s.size<=maxLen)(hn:Hid (yaB s.data.toList=n)) :
    Calls Tryz.prog 120 #[.string s] w fun e w'=>e=.returned (.string (s.extract 0 n))/\Below w.heap.size w w':=by
 obtain⟨k,hk⟩:∃ v,(s.data.toList.takeWhile ycP).length=v:=⟨_,rfl⟩
 have hle:=ybm ycP s.data.toList;rw[yp,hk] at hle;have HK:=Lh hk;have hz:=yjX s k hle;obtain⟨X,hX⟩:∃ X,s.extract 0 k=X:=⟨_,rfl⟩
 rw[hX] at hz
 have CL:Hid (∀ w,Calls Tryz.prog 180 #[.string s,.func (.func 181) #[] #[]] w fun e w'=>e=.returned (.string X)/\Below w.heap.size w w'):=Lh (fun w=>by
  rw[<- hX];exact yiX s k w hs HK)
 by_cases h0:k=0
 ·have hn0:n=0:=by
    rw[<- hn.out]
    by_cases h:s.size=0
    ·exact ymq h
    ·rw[ygl (by omega),hk,h0];split <;> rfl
  have hemp:(X.toList==[])=true:=yiM (by omega);have HE:=Lh (show s.extract 0 n=ByteArray.empty by rw[hn0];exact yjY s);clear hk hn hle hz hX HK h0 hn0 hs;go_enter func120,ntmps120
  go_wp2_with (go_at_call 180;refine(CL.out _).mono ?_;rintro e w1 ⟨rfl,hb1⟩)
  go_ret;exact⟨by rw[HE.out];rfl,hb1⟩
 ·have hz0:0<X.size:=by omega
  have hemp:(X.toList==[])=false:=ylt (by omega);have hs0:0<s.size:=by omega
  have hg:=yrB s X k hX (by omega) hz0 hs0;have hw:=ygl hs0;rw[hn.out,hk] at hw;obtain⟨d,hd⟩:∃ v,ycx s[0]=v:=⟨_,rfl⟩
  rw[hd] at hw;have HD:Hid (yrA X[0].toNat=d):=Lh (by rw[hg];exact hd);have HX:=Lh hX;have hw32:=yiY X[0];clear hk hn hg hd h0;cases d
  ·rw[if_neg (by decide)] at hw
   subst hw;clear hle hs0 hz hX HK;go_enter func120,ntmps120
   go_wp2_with (first | (go_at_call 180;refine(CL.out _).mono ?_;rintro e w1 ⟨rfl,hb1⟩) | (go_at_call 182;refine(ydW _ _ _ HD).mono ?_;rintro e w' ⟨rfl,rfl⟩))
   go_ret;exact⟨by rw[HX.out];rfl,hb1⟩
  ·rw[if_pos rfl] at hw
   subst hw;have HE:=Lh (yjY s);clear hle hs0 hz hX HK;go_enter func120,ntmps120
   go_wp2_with (first | (go_at_call 180;refine(CL.out _).mono ?_;rintro e w1 ⟨rfl,hb1⟩) | (go_at_call 182;refine(ydW _ _ _ HD).mono ?_;rintro e w' ⟨rfl,rfl⟩))
   go_ret;exact⟨by rw[HE.out];rfl,hb1⟩
theorem yoR (s:ByteArray)(w:World) :
    Calls Tryz.prog 121 #[.string s] w fun e w'=>e=.returned (.bool (yjf s.data.toList))/\w=w':=by
 go_enter func121,ntmps121;go_wp2
 all_goals go_ret
 all_goals refine⟨yaf ?_,rfl⟩
 all_goals (rw[<- ByteArray.toList_eq];unfold yjf kws;simp_all)
theorem ymr (s:ByteArray)(v:Bool)(w:World)(h:Hid (yjf s.data.toList=v)) :
    Calls Tryz.prog 121 #[.string s] w fun e w'=>e=.returned (.bool v)/\w=w':=by rw[<- h.out];exact yoR s w
theorem ykU (s:ByteArray)(w:World)(hs:s.size<=maxLen) :
    Calls Tryz.prog 60 #[.string s] w fun e w'=>e=.returned (.bool (yK s.data.toList))/\Below w.heap.size w w':=by
 obtain⟨n,hn⟩:∃ v:Nat,yaB s.data.toList=v:=⟨_,rfl⟩
 obtain⟨k,hk⟩:∃ v:Bool,yjf s.data.toList=v:=⟨_,rfl⟩
 have hle:=ykC s.data.toList;rw[yp,hn] at hle;have HN:=Lh hn;have HK:=Lh hk
 have HR:Hid (yK s.data.toList=(decide (0<s.size)&&decide (n=s.size)&&decide (s.size<=16) && !k)):=Lh (by
  unfold yK;rw[hn,hk,yp]
  congr 3
  by_cases h:s.size=0
  ·rw[yek h];simp[h]
  ·rw[decide_eq_true (by omega)]
   cases hl:s.data.toList with
   | nil=>exact absurd (by rw[<- yp,hl];rfl) h
   | cons a t=>rfl)
 rw[HR.out];have hz:=yjX s n hle;obtain⟨X,hX⟩:∃ X,s.extract 0 n=X:=⟨_,rfl⟩
 rw[hX] at hz
 have CL:Hid (∀ w,Calls Tryz.prog 120 #[.string s] w fun e w'=>e=.returned (.string X)/\Below w.heap.size w w'):=Lh (fun w=>by
  rw[<- hX];exact yfN s n w hs HN)
 have he:(X.toList==s.toList)=decide (n=s.size):=by
  rw[ByteArray.toList_eq,ByteArray.toList_eq,Bool.eq_iff_iff,beq_iff_eq,decide_eq_true_eq,<- hX,yet]
  constructor
  ·intro e
   have:=congrArg List.length e;rw[List.length_take,yp] at this;omega
  ·intro e
   rw[e,<- yp,List.take_length]
 have HM:=Lh hs;clear HR hn hk hX HN
 by_cases h0:s.size=0
 ·have hemp:(s.toList==[])=true:=yiM h0
  have hd:decide (0<s.size)=false:=by simp[h0]
  rw[hd];clear h0 hd he hz hle hs;go_enter func60,ntmps60;go_wp2;go_ret;exact⟨rfl,Below.refl _ _⟩
 ·have hemp:(s.toList==[])=false:=ylt h0
  have hd:decide (0<s.size)=true:=by simp;omega
  rw[hd];obtain⟨b,hb⟩:∃ v,decide (n=s.size)=v:=⟨_,rfl⟩
  rw[hb] at he |-;clear h0 hd hz hle hb hs;cases b
  ·go_enter func60,ntmps60
   go_wp2_with (go_at_call 120;refine(CL.out _).mono ?_;rintro e w1 ⟨rfl,hb1⟩)
   go_ret;exact⟨rfl,hb1⟩
  ·by_cases h16:s.size<=16
   ·have hi:(s.size:Int)<=16:=by omega
    have hd:decide (s.size<=16)=true:=by simp[h16]
    rw[hd];go_enter func60,ntmps60
    go_wp2_with (first | (go_at_call 120;refine(CL.out _).mono ?_;rintro e w1 ⟨rfl,hb1⟩) | (go_at_call 121;refine(ymr _ _ _ HK).mono ?_;rintro e w' ⟨rfl,rfl⟩))
    go_ret;exact⟨by cases k <;> rfl,hb1⟩
   ·have hi:¬ (s.size:Int)<=16:=by omega
    have hd:decide (s.size<=16)=false:=by simp[h16]
    rw[hd];go_enter func60,ntmps60
    go_wp2_with (first | (go_at_call 120;refine(CL.out _).mono ?_;rintro e w1 ⟨rfl,hb1⟩) | (go_at_call 121;refine(ymr _ _ _ HK).mono ?_;rintro e w' ⟨rfl,rfl⟩))
    go_ret;exact⟨rfl,hb1⟩
theorem yS (s:ByteArray)(v:Bool)(w:World)(hs:s.size<=maxLen)(h:Hid (yK s.data.toList=v)) :
    Calls Tryz.prog 60 #[.string s] w fun e w'=>e=.returned (.bool v)/\Below w.heap.size w w':=by rw[<- h.out];exact ykU s w hs
end Go.Proofs.YtgmidodmmlmmeaaGreatDoor
namespace Go.Proofs.YtgmidodmmlmmeaaGreatDoor
open Go.RowKit lex
theorem yrC:(Tryz.prog.info? 5).map (fun i=>(i.zero,i.size,i.bytes))=some (some (.int .u8 0),1,1):=by kernel_rfl
theorem yfl:∃ i,Tryz.prog.info? 5=some i/\i.zero=some (.int .u8 0)/\i.size=1/\i.bytes=1:=by
 have h:=yrC
 cases hq:Tryz.prog.info? 5 with
 | none=>rw[hq] at h;cases h
 | some i =>
  rw[hq] at h;simp only[Option.map_some,Option.some.injEq,Prod.mk.injEq] at h;exact⟨i,rfl,h.1,h.2.1,h.2.2⟩
def Byt (w:World)(B:Nat)(v:Value)(l:List UInt8):Prop:=w.ownsRow B 5 1 v l.length (Lib.byteCells l)
theorem Byt.nil (w:World)(B:Nat):Byt w B (.slice none 0 0) []:=World.ownsRow_nil _ _ _ _
theorem Byt.later {w w':World}{B:Nat}{v:Value}{l:List UInt8}(h:Byt w B v l)(hb:Below w.heap.size w w'):Byt w' B v l:=own_keep h hb
theorem Byt.conv {w:World}{B:Nat}{v:Value}{l:List UInt8}(h:Byt w B v l):(convert 147 9 v).run Tryz.prog w=.ok (.string (ba l)) w:=by
 have hs:Tryz.prog.underlying 147=some (.slice 5):=by kernel_rfl
 have he:Tryz.prog.underlying 5=some (.int .u8):=by kernel_rfl
 have hd:Tryz.prog.underlying 9=some .string:=by kernel_rfl
 rcases h.2 with ⟨rfl,hz⟩ | ⟨g,cap,cur,rfl,_,hg,hc,hcap,h3,h4⟩
 ·obtain rfl:l=[]:=List.eq_nil_of_length_eq_zero hz
  exact Lib.run_convert_nil_bytes w _ _ _ 0 hs he hd
 ·rw[Nat.mul_one] at h4
  exact run_convert_bytes_back w _ _ _ _ cap l hs he hd (Lib.bytes_of_row hg h4)
theorem Byt.len {w:World}{B:Nat}{v:Value}{l:List UInt8}(h:Byt w B v l):∃ a cap,v=.slice a l.length cap/\l.length<=cap/\cap<=maxLen:=by
 rcases h.2 with ⟨rfl,hz⟩ | ⟨g,cap,cur,rfl,_,hg,hc,hm,_⟩
 ·exact⟨none,0,by rw[hz],by omega,by decide⟩
 ·exact⟨_,cap,rfl,hc,hm⟩
theorem yjZ (l:List UInt8)(b:UInt8):Lib.byteCells (l++[b])=Lib.byteCells l++[.int .u8 (b.toNat:Int)]:=by simp[Lib.byteCells]
theorem yfm (w:World)(v:Value)(t:TypeId):∀ j u,[v][j]?=some u->(w.alloc (.cells #[v] t)).cell? ((⟨w.heap.size,0,none⟩:Addr).add j)=some u:=by
 intro j u hj
 match j,hj with
 | 0,hj=>simp at hj;subst hj;simp[Addr.add]
 | (j+1),hj=>simp at hj
theorem yrD (s:ByteArray)(p:Nat)(h:p<s.size):plN (Utf8.decode s p).1=yar s[p]/\((Utf8.decode s p).1=10↔s[p].toNat=10)/\(yar s[p]=true->(Utf8.decode s p).1=s[p].toNat/\(Utf8.decode s p).2=1)/\(Utf8.decode s p).1<=1114111/\1<=(Utf8.decode s p).2:=by
 have hle:=Lib.rune_le s p
 by_cases hb:s[p].toNat<128
 ·rw[yqy s p h hb]
  exact⟨rfl,Iff.rfl,fun _=>⟨rfl,rfl⟩,by simp only;omega,Nat.le_refl _⟩
 ·obtain⟨d1,d2,_,_⟩:=yqz s p h (by omega)
  have hp:yar s[p]=false:=by simp[yar];omega
  rw[hp];exact⟨by simp[plN];omega,by omega,fun e=>absurd e (by decide),hle,d2⟩
end Go.Proofs.YtgmidodmmlmmeaaGreatDoor
namespace Go.Proofs.YtgmidodmmlmmeaaGreatDoor
open Go.RowKit lex _root_.Go.Proofs.Tryz
theorem yms {w:World}{B k p:Nat}{v:Value}{l:List UInt8}{s:ByteArray}(h:Byt w B v l)(hk:w.heap[k]?=some (.stringIter s p)):v.ownBlock≠some k:=by
 rcases h.2 with ⟨rfl,_⟩ | ⟨g,cap,cur,rfl,_,hg,_⟩
 ·intro e;cases e
 ·intro e
  have e2:g=k:=Option.some.inj e;rw[e2,hk] at hg;cases hg
theorem Byt.iter2 {w:World}{B k p:Nat}{v:Value}{l:List UInt8}{s:ByteArray}(h:Byt w B v l)(hk:w.heap[k]?=some (.stringIter s p))(q:Nat):Byt (w.iterAt k s q) B v l :=
 World.ownsRow.kept (row:=some k) h ⟨rfl,rfl,rfl,by rw[Lib.iterAt_size];exact Nat.le_refl _,fun j _ hj=>Lib.iterAt_other w k j s q (fun e=>hj (by rw[e]))⟩ (Or.inr (yms h hk))
theorem ydX {w w':World}{B k p:Nat}{v:Value}{l:List UInt8}{s:ByteArray}(h:Byt w B v l)(hg:w.grownBy w' v.ownBlock)(hk:w.heap[k]?=some (.stringIter s p)):w'.heap[k]?=some (.stringIter s p):=by
 rw[hg.block k (Array.getElem?_eq_some_iff.1 hk).1 (fun e=>yms h hk e.symm)];exact hk
theorem yeu {w:World}{ops:Array Oper}{rest:List Oper}{o:Oper}{a:Act}{Q:Exit->Act->World->Prop}(hg:o.guard=none)(x y:Operand)(ho:o.op=.call { callee:=.builtin .append,args:=#[x,y],argTypes:=#[147,147] })
    (B:Nat) (v:Value) (l:List UInt8) (c:UInt8) (b:Int) (hs:a.eval x=v) (hx:a.eval y=.slice (some ⟨w.heap.size,0,none⟩) 1 1) (h:Hid (Byt w B v l)) (hb:Hid (b=(c.toNat:Int))) (hl:l.length<=1000000) (hB:B<=w.heap.size)
    (hK:∀ v' w',Byt w' B v' (l++[c])->w.grownBy w' v.ownBlock->wpList Tryz.prog ops Q rest (a.put o.dst v') w'):wpList Tryz.prog ops Q (o::rest) a (w.alloc (.cells #[.int .u8 b] 5)):=by
 obtain⟨i0,hi,hz0,hz1,hz2⟩:=yfl;refine wpList_append_own _ hg x y 147 ho B 5 i0 (.int .u8 0) 1 1 underlying147 hi hz0 hz1 hz2 rfl (by decide) v l.length _ hs (World.ownsRow.alloc h.out _) ⟨w.heap.size,0,none⟩ 1 1 [.int .u8 b] hx rfl (yfm _ _ _) (by simp[Value.oneCell']) (by unfold maxLen;omega) (by omega) (by simp;omega) ?_;intro v' w' hown hgrow _;refine hK v' w' ?_ ?_
 ·unfold Byt;rw[yjZ,List.length_append,<- hb.out];exact hown
 ·refine⟨hgrow.os,hgrow.tape,hgrow.output,Nat.le_trans (by simp) hgrow.size,fun k hk hne=>?_⟩
  rw[hgrow.block k (by simp;omega) hne,heap_alloc_old w _ hk]
theorem ykV (s:ByteArray)(q:List UInt8)(e0:Int)(w:World)(hs:s.size<=32)(h:Hid (ykS s.data.toList=(q,e0))) :
    Calls Tryz.prog 185 #[.string s] w fun e w'=>e=.returned (.tuple #[.string (ba q),.int .i64 e0])/\Below w.heap.size w w':=by
 have hq:=h.out;unfold ykS at hq;rw[yp,if_neg (by omega)] at hq;have HQ:=Lh hq;have hsi:¬ (32:Int)<(s.size:Int):=by omega
 clear h hq;go_enter func185,ntmps185;go_wp2_with fail
 go_loopg [4] s.size (fun gf out wx=>∃ (p:Nat) (o:List UInt8),p<=s.size/\s.size<=p+gf/\o=34::yla (s.data.toList.take p)/\(s.data.toList.take p).all yar=true /\
  wx.heap[w.heap.size+1]?=some (.stringIter s p)/\Byt wx w.heap.size out o/\Below w.heap.size w wx)
 case atStart =>
  refine⟨0,[34],Nat.zero_le _,by omega,rfl,rfl,?_,?_,(al1 ..).alloc (by simp) _⟩
  ·simpa using World.iter_heap (w.alloc (.cells #[.int .u8 34] 5)) s 0
  ·exact(World.ownsRow_lit w #[.int .u8 34] 1 (Nat.le_refl _) (by decide) rfl).alloc _
 case round =>
  obtain⟨p,o,hp,hfu,ho,hall,hit,hby,hB⟩:=hrel;have HO:=Lh ho;have HALL:=Lh hall
  have hol:o.length<=100:=by
   rw[ho,List.length_cons];have:=ymm (s.data.toList.take p);rw[List.length_take] at this;omega
  have hsw:w.heap.size+1<wr.heap.size:=(Array.getElem?_eq_some_iff.1 hit).1;clear ho hall
  by_cases hps:p<s.size
  ·obtain⟨g',rfl⟩:∃ g',gk=g'+1:=⟨gk-1,by omega⟩
   have hnx:∀ ty,(Instr.next (.pointer (some ⟨w.heap.size+1,0,none⟩)) true ty).run Tryz.prog wr=_:=fun ty=>Lib.run_next_any_at wr (w.heap.size+1) s p ty hit hps
   obtain⟨r1,r2,r3,r4,r5⟩:=yrD s p hps;have HET:=Lh (yoQ hps);obtain⟨R,hR⟩:∃ R,(Utf8.decode s p).1=R:=⟨_,rfl⟩
   obtain⟨K,hK⟩:∃ K,(Utf8.decode s p).2=K:=⟨_,rfl⟩
   rw[hR,hK] at hnx r3;rw[hR] at r1 r2 r4;have hit2:=Lib.iterAt_heap wr (w.heap.size+1) s p (p+K) hit;have hby2:=hby.iter2 hit (p+K);have hB2:=Lib.below_iterAt hB (k:=w.heap.size+1) (by omega) s (p+K);have hs2:w.heap.size+1<(wr.iterAt (w.heap.size+1) s (p+K)).heap.size:=by rw[Lib.iterAt_size];exact hsw
   obtain⟨W,hW⟩:∃ W,wr.iterAt (w.heap.size+1) s (p+K)=W:=⟨_,rfl⟩
   rw[hW] at hnx hit2 hby2 hB2 hs2;clear hit hby hB hW hR hK hsw r2 r5;cases hpl:yar s[p]
   ·have HN:Hid (q=[]/\e0=1):=Lh (by
      have:=HQ.out;rw[yeX hps hpl,if_neg (by decide)] at this;obtain⟨a,b⟩:=Prod.mk.inj this
      exact⟨a.symm,b.symm⟩)
    obtain⟨rfl,rfl⟩:=HN.out;have HP:Hid (plN R=false):=Lh (by rw[r1,hpl]);clear r1 r3 hpl HN HET
    go_wp2_with (go_at_call 238;refine(ybV _ _ _ HP).mono ?_;rintro e w' ⟨rfl,rfl⟩)
    go_ret2
    exact⟨rfl,hB2⟩
   ·obtain⟨rb,rfl⟩:=r3 hpl
    have HP:Hid (plN R=true):=Lh (by rw[r1,hpl]);have HA2:=Lh (yf2 HALL.out hps hpl);obtain⟨x,hx⟩:∃ x,esN R=x:=⟨_,rfl⟩
    have HX:=Lh hx;have hx2:x=decide (s[p].toNat=34\/s[p].toNat=92):=by rw[<- hx,<- rb];rfl
    have hR255:R<=255:=by have:=s[p].toNat_lt;omega
    have HRB:Hid ((R:Int)=(s[p].toNat:Int)):=Lh (by omega);have HBY:=Lh hby2;cases x
    ·have HN:Hid (o++[s[p]]=34::yla (s.data.toList.take (p+1))):=Lh (by rw[HO.out,HET.out,if_neg (of_decide_eq_false hx2.symm)];rfl)
     clear r1 r3 hpl hx hx2 rb HET HO hby2
     go_wp2_with (first | (go_at_call 238;refine(ybV _ _ _ HP).mono ?_;rintro e w' ⟨rfl,rfl⟩) | (go_at_call 239;refine(yeb _ _ _ HX).mono ?_;rintro e w' ⟨rfl,rfl⟩) | (at_builtin;refine yeu rfl (.tmp 24) (.tmp 27) rfl w.heap.size _ o s[p] _ rfl rfl HBY HRB (by omega) (by omega) ?_;intro v3 w3 hby3 hgrow3;have hit3:=ydX HBY.out hgrow3 hit2;have hB3:=hB2.grown hgrow3 (by omega) (fun q hq=>(World.ownsRow.lt HBY.out q hq).1);clear hgrow3))
     go_roundg g'
     case measure=>omega
     case rel=>exact⟨p+1,_,by omega,by omega,HN.out,HA2.out,hit3,hby3,hB3⟩
    ·have HN:Hid (o++[92]++[s[p]]=34::yla (s.data.toList.take (p+1))):=Lh (by rw[HO.out,HET.out,if_pos (of_decide_eq_true hx2.symm)];simp)
     clear r1 r3 hpl hx hx2 rb HET HO hby2
     go_wp2_with (first | (go_at_call 238;refine(ybV _ _ _ HP).mono ?_;rintro e w' ⟨rfl,rfl⟩) | (go_at_call 239;refine(yeb _ _ _ HX).mono ?_;rintro e w' ⟨rfl,rfl⟩) | (at_builtin;refine yeu rfl (.tmp 21) (.tmp 22) rfl w.heap.size _ o 92 _ rfl rfl HBY (Lh rfl) (by omega) (by omega) ?_;intro v3 w3 hby3 hgrow3;have hit3:=ydX HBY.out hgrow3 hit2;have hB3:=hB2.grown hgrow3 (by omega) (fun q hq=>(World.ownsRow.lt HBY.out q hq).1);have hs3:=hB3.size;have hw3:w.heap.size+1<w3.heap.size:=(Array.getElem?_eq_some_iff.1 hit3).1;have HBY3:=Lh hby3;clear hgrow3 hby3) | (at_builtin;refine yeu rfl (.tmp 24) (.tmp 27) rfl w.heap.size _ (o++[92]) s[p] _ rfl rfl HBY3 HRB (by simp;omega) (by omega) ?_;intro v4 w4 hby4 hgrow4;have hit4:=ydX HBY3.out hgrow4 hit3;have hB4:=hB3.grown hgrow4 (by omega) (fun q hq=>(World.ownsRow.lt HBY3.out q hq).1);clear hgrow4))
     go_roundg g'
     case measure=>omega
     case rel=>exact⟨p+1,_,by omega,by omega,HN.out,HA2.out,hit4,hby4,hB4⟩
  ·obtain rfl:p=s.size:=by omega
   have hnx:∀ ty,(Instr.next (.pointer (some ⟨w.heap.size+1,0,none⟩)) true ty).run Tryz.prog wr=_:=fun ty=>Lib.run_next_end_at wr (w.heap.size+1) s s.size ty hit hps
   have HL:Hid (s.data.toList.take s.size=s.data.toList):=Lh (by rw[<- yp,List.take_length])
   have HN:Hid (q=o++[34]/\e0=0):=Lh (by
    have:=HQ.out;rw[<- HL.out,HALL.out,if_pos rfl,HL.out] at this;obtain⟨a,b⟩:=Prod.mk.inj this;refine⟨?_,b.symm⟩
    rw[<- a,HO.out,HL.out];rfl)
   obtain⟨rfl,rfl⟩:=HN.out;have HBY:=Lh hby;clear HN HO HQ hby
   go_wp2_with (at_builtin;refine yeu rfl (.tmp 29) (.tmp 30) rfl w.heap.size _ o 34 _ rfl rfl HBY (Lh rfl) (by omega) (by omega) ?_;intro v3 w3 hby3 hgrow3;have hcv:=hby3.conv;have hB3:=hB.grown hgrow3 (by omega) (fun q hq=>(World.ownsRow.lt HBY.out q hq).1);clear hgrow3 hby3)
   go_ret2
   exact⟨rfl,hB3⟩
theorem ydB (s:ByteArray)(q:List UInt8)(e0:Int)(w:World)(_:s.size<=maxLen)(h:Hid (ykS s.data.toList=(q,e0))) :
    Calls Tryz.prog 185 #[.string s] w fun e w'=>e=.returned (.tuple #[.string (ba q),.int .i64 e0])/\Below w.heap.size w w':=by
 by_cases hz:32<s.size
 ·have hr:=h.out
  unfold ykS at hr;rw[yp,if_pos hz] at hr;obtain⟨rfl,rfl⟩:=Prod.mk.inj hr;have hzi:(32:Int)<(s.size:Int):=by omega
  clear hr h hz;go_enter func185,ntmps185;go_wp2
  go_ret2
  exact⟨rfl,Below.refl _ _⟩
 ·exact ykV s q e0 w (by omega) h
end Go.Proofs.YtgmidodmmlmmeaaGreatDoor
namespace Go.Proofs.YtgmidodmmlmmeaaGreatDoor
open Go.RowKit lex
end Go.Proofs.YtgmidodmmlmmeaaGreatDoor
