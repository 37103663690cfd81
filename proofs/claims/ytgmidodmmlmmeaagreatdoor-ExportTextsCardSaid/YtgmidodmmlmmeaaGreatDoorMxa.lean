/-
  Plain facts on runes and bytes: how far the bytes of a kind reach at the beginning of a text, read by runes or by bytes. No function of the program is named here; no condition.
  What the lexer's functions on runes return, and leading: the longest beginning of a text that consists of such bytes. Conditions: none but a text's length.
  What leadingWord, leadingNumber and leadingMark of the lexer return, and IsKeyword and IsName. Condition: a text's length.
-/
import Derived.Test.YtgmidodmmlmmeaaGreatDoorMag
import Derived.Test.YtgmidodmmlmmeaaGreatDoorChecked
namespace Go.Proofs.YtgmidodmmlmmeaaGreatDoor
open Go.RowKit lex
theorem decN_hi (n b0 b1 b2 b3:Nat)(h0:128≤b0)(hn:1≤n):128≤(Lib.decodeN n b0 b1 b2 b3).1∧1≤(Lib.decodeN n b0 b1 b2 b3).2∧(Lib.decodeN n b0 b1 b2 b3).2≤n ∧
    (1 < (Lib.decodeN n b0 b1 b2 b3).2→128≤b1)∧(2 < (Lib.decodeN n b0 b1 b2 b3).2→128≤b2)∧(3 < (Lib.decodeN n b0 b1 b2 b3).2→128≤b3)∧(Lib.decodeN n b0 b1 b2 b3).2≤4:=by
 unfold Lib.decodeN
 repeat' split
 all_goals (simp only;omega)
theorem get_at (s:ByteArray)(i:Nat)(h:i < s.size):s.get! i=s[i]:=by
 cases s with
 | mk d=>exact getElem!_pos d i h
theorem dec_lo (s:ByteArray)(i:Nat)(h:i < s.size)(hb:s[i].toNat < 128):Utf8.decode s i=(s[i].toNat,1):=by
 rw [Lib.decode_at,get_at s i h];unfold Lib.decodeN;rw [if_pos hb]
theorem dec_hi (s:ByteArray)(i:Nat)(h:i < s.size)(hb:128≤s[i].toNat):128≤(Utf8.decode s i).1∧1≤(Utf8.decode s i).2∧i+(Utf8.decode s i).2≤s.size∧∀ j,j < (Utf8.decode s i).2→∀ c,s.data.toList[i+j]?=some c→128≤c.toNat:=by
 rw [Lib.decode_at]
 obtain ⟨h1,h2,h3,h4,h5,h6,h7⟩:=decN_hi (s.size - i) (s.get! i).toNat (s.get! (i+1)).toNat (s.get! (i+2)).toNat (s.get! (i+3)).toNat (by rw [get_at s i h];exact hb) (by omega)
 refine ⟨h1,h2,by omega,fun j hj c hc=>?_⟩
 have hlt:i+j < s.size:=by
  have:=(List.getElem?_eq_some_iff.1 hc).1
  rwa [size_list] at this
 rw [dig_at' s (i+j) hlt] at hc
 obtain rfl:=Option.some.inj hc
 rw [← get_at s (i+j) hlt]
 match j,hj with
 | 0,_=>rw [Nat.add_zero,get_at s i h];exact hb
 | 1,hj=>exact h4 hj
 | 2,hj=>exact h5 hj
 | 3,hj=>exact h6 hj
 | (j+4),hj=>omega
theorem tw_skip (p:UInt8→Bool):∀ (k:Nat) (l:List UInt8),k≤l.length→(∀ j,j < k→∀ c,l[j]?=some c→p c=true)→(l.takeWhile p).length=k+((l.drop k).takeWhile p).length:=by
 intro k
 induction k with
 | zero=>intro l _ _;simp
 | succ k ih =>
  intro l hk h
  cases l with
  | nil=>simp at hk
  | cons a t =>
   have ha:p a=true:=h 0 (by omega) a rfl
   rw [List.takeWhile_cons,ha]
   show (t.takeWhile p).length+1=_
   rw [ih t (by simpa using hk) (fun j hj c hc=>h (j+1) (by omega) c (by simpa using hc)),List.drop_succ_cons]
   omega
theorem tw_zero (p:UInt8→Bool)(l:List UInt8)(c:UInt8)(h:l.head?=some c)(hp:p c=false):(l.takeWhile p).length=0:=by
 cases l with
 | nil=>cases h
 | cons a t=>obtain rfl:=Option.some.inj h;rw [List.takeWhile_cons,hp];rfl
structure ByBytes (p:Nat→Bool)(q:UInt8→Bool):Prop where
 low:∀ b:UInt8,b.toNat < 128→p b.toNat=q b
 high:∃ v,(∀ r,128≤r→p r=v)∧∀ b:UInt8,128≤b.toNat→q b=v
theorem idx_from {p:Nat→Bool}{q:UInt8→Bool}(H:ByBytes p q)(s:ByteArray):∀ (f pos:Nat),s.size≤pos+f→pos≤s.size →
    Lib.idxFuncFrom p false s f pos=if ((s.data.toList.drop pos).takeWhile q).length=s.size - pos then -1 else ((pos+((s.data.toList.drop pos).takeWhile q).length:Nat):Int):=by
 obtain ⟨v,hv1,hv2⟩:=H.high
 intro f
 induction f with
 | zero =>
  intro pos h1 h2
  have e:pos=s.size:=by omega
  rw [Lib.idxFuncFrom_end p false s 0 pos (by omega),drop_end (by omega),if_pos (by rw [e];simp)]
 | succ f ih =>
  intro pos h1 h2
  by_cases hlt:pos < s.size
  ·unfold Lib.idxFuncFrom
   rw [if_pos hlt]
   have hL:(s.data.toList.drop pos).length=s.size - pos:=by rw [List.length_drop,size_list]
   have hh:(s.data.toList.drop pos).head?=some s[pos]:=by rw [List.head?_drop];exact dig_at' s pos hlt
   by_cases hb:s[pos].toNat < 128
   ·rw [dec_lo s pos hlt hb]
    simp only
    rw [H.low _ hb]
    by_cases hq:q s[pos]=false
    ·rw [if_pos hq,tw_zero q _ _ hh hq,if_neg (by omega)];rfl
    ·rw [if_neg hq]
     simp only [Bool.not_eq_false] at hq
     rw [ih (pos+1) (by omega) (by omega),drop_at hlt,List.takeWhile_cons,hq]
     have e:(if true=true then s[pos] :: (List.drop (pos+1) s.data.toList).takeWhile q else []).length=((List.drop (pos+1) s.data.toList).takeWhile q).length+1:=rfl
     rw [e]
     generalize ((List.drop (pos+1) s.data.toList).takeWhile q).length=n
     by_cases hn:n=s.size - (pos+1)
     ·rw [if_pos hn,if_pos (by omega)]
     ·rw [if_neg hn,if_neg (by omega)];congr 1;omega
   ·obtain ⟨d1,d2,d3,d4⟩:=dec_hi s pos hlt (by omega)
    rw [hv1 _ d1]
    have hq:=hv2 s[pos] (by omega)
    cases v
    ·rw [if_pos rfl,tw_zero q _ _ hh hq,if_neg (by omega)];rfl
    ·rw [if_neg (by simp),ih _ (by omega) (by omega)]
     rw [tw_skip q (Utf8.decode s pos).2 (s.data.toList.drop pos) (by omega) (fun j hj c hc=>hv2 c (d4 j hj c (by rw [List.getElem?_drop] at hc;exact hc))),List.drop_drop]
     generalize ((List.drop (pos+(Utf8.decode s pos).2) s.data.toList).takeWhile q).length=n
     generalize (Utf8.decode s pos).2=k at d2 d3 ⊢
     by_cases hn:n=s.size - (pos+k)
     ·rw [if_pos hn,if_pos (by omega)]
     ·rw [if_neg hn,if_neg (by omega)];congr 1;omega
  ·have e:pos=s.size:=by omega
   rw [Lib.idxFuncFrom_end p false s (f+1) pos (by omega),drop_end (by omega),if_pos (by rw [e];simp)]
theorem trim_left {p:Nat→Bool}{q:UInt8→Bool}(H:ByBytes p q)(s:ByteArray):(Lib.trimLeftF p s).size=s.size - (s.data.toList.takeWhile q).length:=by
 have h:=idx_from H s s.size 0 (by omega) (Nat.zero_le _)
 rw [List.drop_zero] at h
 have hle:=takeWhile_le q s.data.toList
 rw [size_list] at hle
 unfold Lib.trimLeftF
 change Lib.idxFunc p false s=_ at h
 rw [h]
 by_cases hn:(s.data.toList.takeWhile q).length=s.size - 0
 ·rw [if_pos hn,if_pos rfl];show 0=_;omega
 ·rw [if_neg hn,if_neg (by omega),← size_list,drop_extract,List.length_drop,size_list]
  congr 1
  omega
def digN (x:Nat):Bool:=decide (48≤x∧x≤57)
def wdN (x:Nat):Bool:=decide (97≤x∧x≤122) || decide (65≤x∧x≤90) || decide (x=95) || digN x
def plN (x:Nat):Bool:=decide (32≤x∧x≤126)
def esN (x:Nat):Bool:=decide (x=34∨x=92)
theorem wd_by:ByBytes wdN isWd:=⟨fun b _=>rfl,false,fun r h=>by simp [wdN,digN];omega,fun b h=>by simp [isWd,isLet,isDgt];omega⟩
theorem isDigit_any (x:Nat)(w:World):Calls Tryz.prog 182 #[.int .i32 (x:Int)] w fun e w'=>e=.returned (.bool (digN x))∧w=w':=by
 go_enter Tryz.func182,Tryz.ntmps182
 go_wp2
 all_goals go_ret
 all_goals refine ⟨ret_bool ?_,rfl⟩
 all_goals (unfold digN;rw [Bool.eq_iff_iff];simp;omega)
theorem isDigit_of (x:Nat)(v:Bool)(w:World)(h:Hid (digN x=v)):Calls Tryz.prog 182 #[.int .i32 (x:Int)] w fun e w'=>e=.returned (.bool v)∧w=w':=by
 rw [← h.out];exact isDigit_any x w
set_option maxHeartbeats 1000000 in
theorem isWordPart_any (x:Nat)(w:World):Calls Tryz.prog 181 #[.int .i32 (x:Int)] w fun e w'=>e=.returned (.bool (wdN x))∧w=w':=by
 obtain ⟨d,hd⟩:∃ v,digN x=v:=⟨_,rfl⟩
 have HD:=Lh hd
 unfold wdN
 rw [hd]
 clear hd
 go_enter Tryz.func181,Tryz.ntmps181
 go_wp2_with (go_at_call 182;refine (isDigit_of _ _ _ HD).mono ?_;rintro e w' ⟨rfl,rfl⟩)
 all_goals go_ret
 all_goals refine ⟨ret_bool ?_,rfl⟩
 all_goals (rw [Bool.eq_iff_iff];cases d <;> simp <;> omega)
theorem isPrintable_any (x:Nat)(w:World):Calls Tryz.prog 238 #[.int .i32 (x:Int)] w fun e w'=>e=.returned (.bool (plN x))∧w=w':=by
 go_enter Tryz.func238,Tryz.ntmps238
 go_wp2
 all_goals go_ret
 all_goals refine ⟨ret_bool ?_,rfl⟩
 all_goals (unfold plN;rw [Bool.eq_iff_iff];simp;omega)
theorem isPrintable_of (x:Nat)(v:Bool)(w:World)(h:Hid (plN x=v)):Calls Tryz.prog 238 #[.int .i32 (x:Int)] w fun e w'=>e=.returned (.bool v)∧w=w':=by
 rw [← h.out];exact isPrintable_any x w
theorem isEscaped_any (x:Nat)(w:World):Calls Tryz.prog 239 #[.int .i32 (x:Int)] w fun e w'=>e=.returned (.bool (esN x))∧w=w':=by
 go_enter Tryz.func239,Tryz.ntmps239
 go_wp2
 all_goals go_ret
 all_goals refine ⟨ret_bool ?_,rfl⟩
 all_goals (unfold esN;rw [Bool.eq_iff_iff];simp;omega)
theorem isEscaped_of (x:Nat)(v:Bool)(w:World)(h:Hid (esN x=v)):Calls Tryz.prog 239 #[.int .i32 (x:Int)] w fun e w'=>e=.returned (.bool v)∧w=w':=by
 rw [← h.out];exact isEscaped_any x w
theorem runes_of {g:Nat}{p:Nat→Bool}(h:∀ (x:Nat) (w:World),Calls Tryz.prog g #[.int .i32 (x:Int)] w fun e w'=>e=.returned (.bool (p x))∧w=w')(w:World):PredAtRunes Tryz.prog g #[] p w :=
 fun W x _ _=>(h x W).mono fun _ _ ⟨he,hw⟩=>⟨he,0,hw.symm⟩
theorem leading_of (g:Nat)(p:Nat→Bool)(q:UInt8→Bool)(H:ByBytes p q)(eg:∀ args w,(callFunc g args).run Tryz.prog w=.ok (.enter g args) w)(hp:∀ (x:Nat) (w:World),Calls Tryz.prog g #[.int .i32 (x:Int)] w fun e w'=>e=.returned (.bool (p x))∧w=w')
    (s:ByteArray) (n:Nat) (w:World) (hs:s.size≤maxLen) (hn:Hid ((s.data.toList.takeWhile q).length=n)) :
    Calls Tryz.prog 180 #[.string s,.func (.func g) #[] #[]] w fun e w'=>e=.returned (.string (s.extract 0 n))∧Below w.heap.size w w':=by
 unfold maxLen at hs
 have hle:=takeWhile_le q s.data.toList
 rw [size_list,hn.out] at hle
 have cT:=Lh (Tryz.strings_TrimLeftFunc_runes g #[] eg p s w (runes_of hp w))
 have hz:=trim_left H s
 rw [hn.out] at hz
 obtain ⟨T,hT⟩:∃ T,Lib.trimLeftF p s=T:=⟨_,rfl⟩
 rw [hT] at cT hz
 have hz2:T.size≤s.size:=by omega
 have hz3:n=s.size - T.size:=by omega
 have hzi:(s.size:Int) - (T.size:Int)=(n:Int):=by omega
 have HZ:=Lh hz3
 clear hz hz3 hT
 go_enter Tryz.func180,Tryz.ntmps180
 go_wp2_with (go_at_call 237;refine (cT.out).mono ?_;rintro e w1 ⟨rfl,hb1⟩)
 go_ret
 exact ⟨rfl,hb1⟩
theorem leadWord_of (s:ByteArray)(n:Nat)(w:World)(hs:s.size≤maxLen)(hn:Hid ((s.data.toList.takeWhile isWd).length=n)) :
    Calls Tryz.prog 180 #[.string s,.func (.func 181) #[] #[]] w fun e w'=>e=.returned (.string (s.extract 0 n))∧Below w.heap.size w w' :=
 leading_of _ _ _ wd_by (enters_of Tryz.func181 (by kernel_rfl) rfl) isWordPart_any s n w hs hn
theorem ext_take (b:ByteArray)(k:Nat):(b.extract 0 k).data.toList=b.data.toList.take k:=by
 rw [ByteArray.data_extract,Array.toList_extract,List.extract_eq_take_drop,List.drop_zero,Nat.sub_zero]
theorem wrap32_byte (b:UInt8):wrap32 (b.toNat:Int)=(b.toNat:Int):=by have:=b.toNat_lt;unfold wrap32;omega
theorem ext_size (s:ByteArray)(k:Nat)(h:k≤s.size):(s.extract 0 k).size=k:=by rw [← size_list,ext_take s k,List.length_take,size_list];omega
theorem ext_get (s X:ByteArray)(k:Nat)(hX:s.extract 0 k=X)(h0:0 < k)(hz:0 < X.size)(hs:0 < s.size):X[0]=s[0]:=by
 subst hX
 have a:=dig_at' (s.extract 0 k) 0 hz
 rw [ext_take s k,List.getElem?_take_of_lt h0,dig_at' s 0 hs] at a
 exact (Option.some.inj a).symm
theorem ext_none (s:ByteArray):s.extract 0 0=ByteArray.empty:=ba_ext (by rw [ext_take];rfl)
theorem word_first {s:ByteArray}(h:0 < s.size):wordLen s.data.toList=if isDgt s[0]=true then 0 else (s.data.toList.takeWhile isWd).length:=by
 have e:=drop_at (s:=s) (k:=0) h
 rw [List.drop_zero] at e
 rw [e,wordLen_cons,List.takeWhile_cons]
 by_cases hd:isDgt s[0]=true
 ·rw [if_pos hd,let_nd hd];rfl
 ·rw [if_neg hd]
  unfold isWd
  by_cases hl:isLet s[0]=true
  ·rw [hl];rfl
  ·simp only [Bool.not_eq_true] at hd hl;rw [hl,hd];rfl
theorem word_none {s:ByteArray}(h:s.size=0):wordLen s.data.toList=0:=by rw [list_nil h];rfl
set_option maxHeartbeats 1000000 in
theorem leadingWord_of (s:ByteArray)(n:Nat)(w:World)(hs:s.size≤maxLen)(hn:Hid (wordLen s.data.toList=n)) :
    Calls Tryz.prog 120 #[.string s] w fun e w'=>e=.returned (.string (s.extract 0 n))∧Below w.heap.size w w':=by
 obtain ⟨k,hk⟩:∃ v,(s.data.toList.takeWhile isWd).length=v:=⟨_,rfl⟩
 have hle:=takeWhile_le isWd s.data.toList
 rw [size_list,hk] at hle
 have HK:=Lh hk
 have hz:=ext_size s k hle
 obtain ⟨X,hX⟩:∃ X,s.extract 0 k=X:=⟨_,rfl⟩
 rw [hX] at hz
 have CL:Hid (∀ w,Calls Tryz.prog 180 #[.string s,.func (.func 181) #[] #[]] w fun e w'=>e=.returned (.string X)∧Below w.heap.size w w'):=Lh (fun w=>by
  rw [← hX];exact leadWord_of s k w hs HK)
 by_cases h0:k=0
 ·have hn0:n=0:=by
    rw [← hn.out]
    by_cases h:s.size=0
    ·exact word_none h
    ·rw [word_first (by omega),hk,h0];split <;> rfl
  have hemp:(X.toList == [])=true:=nil_yes (by omega)
  have HE:=Lh (show s.extract 0 n=ByteArray.empty by rw [hn0];exact ext_none s)
  clear hk hn hle hz hX HK h0 hn0 hs
  go_enter Tryz.func120,Tryz.ntmps120
  go_wp2_with (go_at_call 180;refine (CL.out _).mono ?_;rintro e w1 ⟨rfl,hb1⟩)
  go_ret
  exact ⟨by rw [HE.out];rfl,hb1⟩
 ·have hz0:0 < X.size:=by omega
  have hemp:(X.toList == [])=false:=nil_no (by omega)
  have hs0:0 < s.size:=by omega
  have hg:=ext_get s X k hX (by omega) hz0 hs0
  have hw:=word_first hs0
  rw [hn.out,hk] at hw
  obtain ⟨d,hd⟩:∃ v,isDgt s[0]=v:=⟨_,rfl⟩
  rw [hd] at hw
  have HD:Hid (digN X[0].toNat=d):=Lh (by rw [hg];exact hd)
  have HX:=Lh hX
  have hw32:=wrap32_byte X[0]
  clear hk hn hg hd h0
  cases d
  ·rw [if_neg (by decide)] at hw
   subst hw
   clear hle hs0 hz hX HK
   go_enter Tryz.func120,Tryz.ntmps120
   go_wp2_with (first | (go_at_call 180;refine (CL.out _).mono ?_;rintro e w1 ⟨rfl,hb1⟩) | (go_at_call 182;refine (isDigit_of _ _ _ HD).mono ?_;rintro e w' ⟨rfl,rfl⟩))
   go_ret
   exact ⟨by rw [HX.out];rfl,hb1⟩
  ·rw [if_pos rfl] at hw
   subst hw
   have HE:=Lh (ext_none s)
   clear hle hs0 hz hX HK
   go_enter Tryz.func120,Tryz.ntmps120
   go_wp2_with (first | (go_at_call 180;refine (CL.out _).mono ?_;rintro e w1 ⟨rfl,hb1⟩) | (go_at_call 182;refine (isDigit_of _ _ _ HD).mono ?_;rintro e w' ⟨rfl,rfl⟩))
   go_ret
   exact ⟨by rw [HE.out];rfl,hb1⟩
theorem iskw_any (s:ByteArray)(w:World) :
    Calls Tryz.prog 121 #[.string s] w fun e w'=>e=.returned (.bool (isKw s.data.toList))∧w=w':=by
 go_enter Tryz.func121,Tryz.ntmps121
 go_wp2
 all_goals go_ret
 all_goals refine ⟨ret_bool ?_,rfl⟩
 all_goals (rw [← ByteArray.toList_eq];unfold isKw kws;simp_all)
theorem iskw_of (s:ByteArray)(v:Bool)(w:World)(h:Hid (isKw s.data.toList=v)) :
    Calls Tryz.prog 121 #[.string s] w fun e w'=>e=.returned (.bool v)∧w=w':=by rw [← h.out];exact iskw_any s w
set_option maxHeartbeats 1000000 in
theorem isname_any (s:ByteArray)(w:World)(hs:s.size≤maxLen) :
    Calls Tryz.prog 60 #[.string s] w fun e w'=>e=.returned (.bool (isNm s.data.toList))∧Below w.heap.size w w':=by
 obtain ⟨n,hn⟩:∃ v:Nat,wordLen s.data.toList=v:=⟨_,rfl⟩
 obtain ⟨k,hk⟩:∃ v:Bool,isKw s.data.toList=v:=⟨_,rfl⟩
 have hle:=wordLen_le s.data.toList
 rw [size_list,hn] at hle
 have HN:=Lh hn
 have HK:=Lh hk
 have HR:Hid (isNm s.data.toList=(decide (0 < s.size) && decide (n=s.size) && decide (s.size≤16) && !k)):=Lh (by
  unfold isNm
  rw [hn,hk,size_list]
  congr 3
  by_cases h:s.size=0
  ·rw [list_nil h];simp [h]
  ·rw [decide_eq_true (by omega)]
   cases hl:s.data.toList with
   | nil=>exact absurd (by rw [← size_list,hl];rfl) h
   | cons a t=>rfl)
 rw [HR.out]
 have hz:=ext_size s n hle
 obtain ⟨X,hX⟩:∃ X,s.extract 0 n=X:=⟨_,rfl⟩
 rw [hX] at hz
 have CL:Hid (∀ w,Calls Tryz.prog 120 #[.string s] w fun e w'=>e=.returned (.string X)∧Below w.heap.size w w'):=Lh (fun w=>by
  rw [← hX];exact leadingWord_of s n w hs HN)
 have he:(X.toList == s.toList)=decide (n=s.size):=by
  rw [ByteArray.toList_eq,ByteArray.toList_eq,Bool.eq_iff_iff,beq_iff_eq,decide_eq_true_eq,← hX,ext_take]
  constructor
  ·intro e
   have:=congrArg List.length e
   rw [List.length_take,size_list] at this
   omega
  ·intro e
   rw [e,← size_list,List.take_length]
 have HM:=Lh hs
 clear HR hn hk hX HN
 by_cases h0:s.size=0
 ·have hemp:(s.toList == [])=true:=nil_yes h0
  have hd:decide (0 < s.size)=false:=by simp [h0]
  rw [hd]
  clear h0 hd he hz hle hs
  go_enter Tryz.func60,Tryz.ntmps60
  go_wp2
  go_ret
  exact ⟨rfl,Below.refl _ _⟩
 ·have hemp:(s.toList == [])=false:=nil_no h0
  have hd:decide (0 < s.size)=true:=by simp;omega
  rw [hd]
  obtain ⟨b,hb⟩:∃ v,decide (n=s.size)=v:=⟨_,rfl⟩
  rw [hb] at he ⊢
  clear h0 hd hz hle hb hs
  cases b
  ·go_enter Tryz.func60,Tryz.ntmps60
   go_wp2_with (go_at_call 120;refine (CL.out _).mono ?_;rintro e w1 ⟨rfl,hb1⟩)
   go_ret
   exact ⟨rfl,hb1⟩
  ·by_cases h16:s.size≤16
   ·have hi:(s.size:Int)≤16:=by omega
    have hd:decide (s.size≤16)=true:=by simp [h16]
    rw [hd]
    go_enter Tryz.func60,Tryz.ntmps60
    go_wp2_with (first | (go_at_call 120;refine (CL.out _).mono ?_;rintro e w1 ⟨rfl,hb1⟩) | (go_at_call 121;refine (iskw_of _ _ _ HK).mono ?_;rintro e w' ⟨rfl,rfl⟩))
    go_ret
    exact ⟨by cases k <;> rfl,hb1⟩
   ·have hi:¬ (s.size:Int)≤16:=by omega
    have hd:decide (s.size≤16)=false:=by simp [h16]
    rw [hd]
    go_enter Tryz.func60,Tryz.ntmps60
    go_wp2_with (first | (go_at_call 120;refine (CL.out _).mono ?_;rintro e w1 ⟨rfl,hb1⟩) | (go_at_call 121;refine (iskw_of _ _ _ HK).mono ?_;rintro e w' ⟨rfl,rfl⟩))
    go_ret
    exact ⟨rfl,hb1⟩
theorem isname_of (s:ByteArray)(v:Bool)(w:World)(hs:s.size≤maxLen)(h:Hid (isNm s.data.toList=v)) :
    Calls Tryz.prog 60 #[.string s] w fun e w'=>e=.returned (.bool v)∧Below w.heap.size w w':=by rw [← h.out];exact isname_any s w hs
end Go.Proofs.YtgmidodmmlmmeaaGreatDoor
