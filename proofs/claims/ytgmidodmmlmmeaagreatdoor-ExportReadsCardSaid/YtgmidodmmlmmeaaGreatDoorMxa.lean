/-
  Plain facts on runes and bytes: how far the bytes of a kind reach at the beginning of a text, read by runes or by bytes. No function of the program is named here; no condition.
  What the lexer's functions on runes return, and leading: the longest beginning of a text that consists of such bytes. Conditions: none but a text's length.
  What leadingWord, leadingNumber and leadingMark of the lexer return, and IsKeyword and IsName. Condition: a text's length.
  What leadingMark of the lexer returns. No condition.
  What skipBlanks of the lexer returns: a rest whose tokens are the text's, later by the lines that ended. Condition: a text's length.
-/
import Derived.Test.YtgmidodmmlmmeaaGreatDoorMag
import Derived.Test.YtgmidodmmlmmeaaGreatDoorChecked
namespace Go.Proofs.YtgmidodmmlmmeaaGreatDoor
open Go.RowKit lex
theorem decN_hi (n b0 b1 b2 b3:Nat)(h0:128≤b0)(hn:1≤n):128≤(Lib.decodeN n b0 b1 b2 b3).1∧1≤(Lib.decodeN n b0 b1 b2 b3).2∧(Lib.decodeN n b0 b1 b2 b3).2≤n ∧
    (1 < (Lib.decodeN n b0 b1 b2 b3).2→128≤b1)∧(2 < (Lib.decodeN n b0 b1 b2 b3).2→128≤b2)∧(3 < (Lib.decodeN n b0 b1 b2 b3).2→128≤b3)∧(Lib.decodeN n b0 b1 b2 b3).2≤4:=by
 unfold Lib.decodeN
 repeat' split
 all_goals (simp only;omega)
theorem get_at (s:ByteArray)(i:Nat)(h:i < s.size):s.get! i=s[i]:=by
 cases s with
 | mk d=>exact getElem!_pos d i h
theorem dec_lo (s:ByteArray)(i:Nat)(h:i < s.size)(hb:s[i].toNat < 128):Utf8.decode s i=(s[i].toNat,1):=by
 rw [Lib.decode_at,get_at s i h];unfold Lib.decodeN;rw [if_pos hb]
theorem dec_hi (s:ByteArray)(i:Nat)(h:i < s.size)(hb:128≤s[i].toNat):128≤(Utf8.decode s i).1∧1≤(Utf8.decode s i).2∧i+(Utf8.decode s i).2≤s.size∧∀ j,j < (Utf8.decode s i).2→∀ c,s.data.toList[i+j]?=some c→128≤c.toNat:=by
 rw [Lib.decode_at]
 obtain ⟨h1,h2,h3,h4,h5,h6,h7⟩:=decN_hi (s.size - i) (s.get! i).toNat (s.get! (i+1)).toNat (s.get! (i+2)).toNat (s.get! (i+3)).toNat (by rw [get_at s i h];exact hb) (by omega)
 refine ⟨h1,h2,by omega,fun j hj c hc=>?_⟩
 have hlt:i+j < s.size:=by
  have:=(List.getElem?_eq_some_iff.1 hc).1
  rwa [size_list] at this
 rw [dig_at' s (i+j) hlt] at hc
 obtain rfl:=Option.some.inj hc
 rw [← get_at s (i+j) hlt]
 match j,hj with
 | 0,_=>rw [Nat.add_zero,get_at s i h];exact hb
 | 1,hj=>exact h4 hj
 | 2,hj=>exact h5 hj
 | 3,hj=>exact h6 hj
 | (j+4),hj=>omega
theorem tw_skip (p:UInt8→Bool):∀ (k:Nat) (l:List UInt8),k≤l.length→(∀ j,j < k→∀ c,l[j]?=some c→p c=true)→(l.takeWhile p).length=k+((l.drop k).takeWhile p).length:=by
 intro k
 induction k with
 | zero=>intro l _ _;simp
 | succ k ih =>
  intro l hk h
  cases l with
  | nil=>simp at hk
  | cons a t =>
   have ha:p a=true:=h 0 (by omega) a rfl
   rw [List.takeWhile_cons,ha]
   show (t.takeWhile p).length+1=_
   rw [ih t (by simpa using hk) (fun j hj c hc=>h (j+1) (by omega) c (by simpa using hc)),List.drop_succ_cons]
   omega
theorem tw_zero (p:UInt8→Bool)(l:List UInt8)(c:UInt8)(h:l.head?=some c)(hp:p c=false):(l.takeWhile p).length=0:=by
 cases l with
 | nil=>cases h
 | cons a t=>obtain rfl:=Option.some.inj h;rw [List.takeWhile_cons,hp];rfl
structure ByBytes (p:Nat→Bool)(q:UInt8→Bool):Prop where
 low:∀ b:UInt8,b.toNat < 128→p b.toNat=q b
 high:∃ v,(∀ r,128≤r→p r=v)∧∀ b:UInt8,128≤b.toNat→q b=v
theorem idx_from {p:Nat→Bool}{q:UInt8→Bool}(H:ByBytes p q)(s:ByteArray):∀ (f pos:Nat),s.size≤pos+f→pos≤s.size →
    Lib.idxFuncFrom p false s f pos=if ((s.data.toList.drop pos).takeWhile q).length=s.size - pos then -1 else ((pos+((s.data.toList.drop pos).takeWhile q).length:Nat):Int):=by
 obtain ⟨v,hv1,hv2⟩:=H.high
 intro f
 induction f with
 | zero =>
  intro pos h1 h2
  have e:pos=s.size:=by omega
  rw [Lib.idxFuncFrom_end p false s 0 pos (by omega),drop_end (by omega),if_pos (by rw [e];simp)]
 | succ f ih =>
  intro pos h1 h2
  by_cases hlt:pos < s.size
  ·unfold Lib.idxFuncFrom
   rw [if_pos hlt]
   have hL:(s.data.toList.drop pos).length=s.size - pos:=by rw [List.length_drop,size_list]
   have hh:(s.data.toList.drop pos).head?=some s[pos]:=by rw [List.head?_drop];exact dig_at' s pos hlt
   by_cases hb:s[pos].toNat < 128
   ·rw [dec_lo s pos hlt hb]
    simp only
    rw [H.low _ hb]
    by_cases hq:q s[pos]=false
    ·rw [if_pos hq,tw_zero q _ _ hh hq,if_neg (by omega)];rfl
    ·rw [if_neg hq]
     simp only [Bool.not_eq_false] at hq
     rw [ih (pos+1) (by omega) (by omega),drop_at hlt,List.takeWhile_cons,hq]
     have e:(if true=true then s[pos] :: (List.drop (pos+1) s.data.toList).takeWhile q else []).length=((List.drop (pos+1) s.data.toList).takeWhile q).length+1:=rfl
     rw [e]
     generalize ((List.drop (pos+1) s.data.toList).takeWhile q).length=n
     by_cases hn:n=s.size - (pos+1)
     ·rw [if_pos hn,if_pos (by omega)]
     ·rw [if_neg hn,if_neg (by omega)];congr 1;omega
   ·obtain ⟨d1,d2,d3,d4⟩:=dec_hi s pos hlt (by omega)
    rw [hv1 _ d1]
    have hq:=hv2 s[pos] (by omega)
    cases v
    ·rw [if_pos rfl,tw_zero q _ _ hh hq,if_neg (by omega)];rfl
    ·rw [if_neg (by simp),ih _ (by omega) (by omega)]
     rw [tw_skip q (Utf8.decode s pos).2 (s.data.toList.drop pos) (by omega) (fun j hj c hc=>hv2 c (d4 j hj c (by rw [List.getElem?_drop] at hc;exact hc))),List.drop_drop]
     generalize ((List.drop (pos+(Utf8.decode s pos).2) s.data.toList).takeWhile q).length=n
     generalize (Utf8.decode s pos).2=k at d2 d3 ⊢
     by_cases hn:n=s.size - (pos+k)
     ·rw [if_pos hn,if_pos (by omega)]
     ·rw [if_neg hn,if_neg (by omega)];congr 1;omega
  ·have e:pos=s.size:=by omega
   rw [Lib.idxFuncFrom_end p false s (f+1) pos (by omega),drop_end (by omega),if_pos (by rw [e];simp)]
theorem trim_left {p:Nat→Bool}{q:UInt8→Bool}(H:ByBytes p q)(s:ByteArray):(Lib.trimLeftF p s).size=s.size - (s.data.toList.takeWhile q).length:=by
 have h:=idx_from H s s.size 0 (by omega) (Nat.zero_le _)
 rw [List.drop_zero] at h
 have hle:=takeWhile_le q s.data.toList
 rw [size_list] at hle
 unfold Lib.trimLeftF
 change Lib.idxFunc p false s=_ at h
 rw [h]
 by_cases hn:(s.data.toList.takeWhile q).length=s.size - 0
 ·rw [if_pos hn,if_pos rfl];show 0=_;omega
 ·rw [if_neg hn,if_neg (by omega),← size_list,drop_extract,List.length_drop,size_list]
  congr 1
  omega
def digN (x:Nat):Bool:=decide (48≤x∧x≤57)
def wdN (x:Nat):Bool:=decide (97≤x∧x≤122) || decide (65≤x∧x≤90) || decide (x=95) || digN x
def nbN (x:Nat):Bool:=wdN x || decide (x=46)
def plN (x:Nat):Bool:=decide (32≤x∧x≤126)
def esN (x:Nat):Bool:=decide (x=34∨x=92)
def nlN (x:Nat):Bool:=decide (x≠10)
def isNl (c:UInt8):Bool:=decide (c.toNat≠10)
theorem wd_by:ByBytes wdN isWd:=⟨fun b _=>rfl,false,fun r h=>by simp [wdN,digN];omega,fun b h=>by simp [isWd,isLet,isDgt];omega⟩
theorem nb_by:ByBytes nbN isNb:=⟨fun b _=>rfl,false,fun r h=>by simp [nbN,wdN,digN];omega,fun b h=>by simp [isNb,isWd,isLet,isDgt];omega⟩
theorem nl_by:ByBytes nlN isNl:=⟨fun b _=>rfl,true,fun r h=>by simp [nlN];omega,fun b h=>by simp [isNl];omega⟩
theorem isDigit_any (x:Nat)(w:World):Calls Tryz.prog 182 #[.int .i32 (x:Int)] w fun e w'=>e=.returned (.bool (digN x))∧w=w':=by
 go_enter Tryz.func182,Tryz.ntmps182
 go_wp2
 all_goals go_ret
 all_goals refine ⟨ret_bool ?_,rfl⟩
 all_goals (unfold digN;rw [Bool.eq_iff_iff];simp;omega)
theorem isDigit_of (x:Nat)(v:Bool)(w:World)(h:Hid (digN x=v)):Calls Tryz.prog 182 #[.int .i32 (x:Int)] w fun e w'=>e=.returned (.bool v)∧w=w':=by
 rw [← h.out];exact isDigit_any x w
set_option maxHeartbeats 1000000 in
theorem isWordPart_any (x:Nat)(w:World):Calls Tryz.prog 181 #[.int .i32 (x:Int)] w fun e w'=>e=.returned (.bool (wdN x))∧w=w':=by
 obtain ⟨d,hd⟩:∃ v,digN x=v:=⟨_,rfl⟩
 have HD:=Lh hd
 unfold wdN
 rw [hd]
 clear hd
 go_enter Tryz.func181,Tryz.ntmps181
 go_wp2_with (go_at_call 182;refine (isDigit_of _ _ _ HD).mono ?_;rintro e w' ⟨rfl,rfl⟩)
 all_goals go_ret
 all_goals refine ⟨ret_bool ?_,rfl⟩
 all_goals (rw [Bool.eq_iff_iff];cases d <;> simp <;> omega)
theorem isWordPart_of (x:Nat)(v:Bool)(w:World)(h:Hid (wdN x=v)):Calls Tryz.prog 181 #[.int .i32 (x:Int)] w fun e w'=>e=.returned (.bool v)∧w=w':=by
 rw [← h.out];exact isWordPart_any x w
theorem isNumberPart_any (x:Nat)(w:World):Calls Tryz.prog 266 #[.int .i32 (x:Int)] w fun e w'=>e=.returned (.bool (nbN x))∧w=w':=by
 obtain ⟨d,hd⟩:∃ v,wdN x=v:=⟨_,rfl⟩
 have HD:=Lh hd
 unfold nbN
 rw [hd]
 clear hd
 go_enter Tryz.func266,Tryz.ntmps266
 go_wp2_with (go_at_call 181;refine (isWordPart_of _ _ _ HD).mono ?_;rintro e w' ⟨rfl,rfl⟩)
 all_goals go_ret
 all_goals refine ⟨ret_bool ?_,rfl⟩
 all_goals (rw [Bool.eq_iff_iff];cases d <;> simp_all <;> omega)
theorem isPrintable_any (x:Nat)(w:World):Calls Tryz.prog 238 #[.int .i32 (x:Int)] w fun e w'=>e=.returned (.bool (plN x))∧w=w':=by
 go_enter Tryz.func238,Tryz.ntmps238
 go_wp2
 all_goals go_ret
 all_goals refine ⟨ret_bool ?_,rfl⟩
 all_goals (unfold plN;rw [Bool.eq_iff_iff];simp;omega)
theorem isPrintable_of (x:Nat)(v:Bool)(w:World)(h:Hid (plN x=v)):Calls Tryz.prog 238 #[.int .i32 (x:Int)] w fun e w'=>e=.returned (.bool v)∧w=w':=by
 rw [← h.out];exact isPrintable_any x w
theorem isEscaped_any (x:Nat)(w:World):Calls Tryz.prog 239 #[.int .i32 (x:Int)] w fun e w'=>e=.returned (.bool (esN x))∧w=w':=by
 go_enter Tryz.func239,Tryz.ntmps239
 go_wp2
 all_goals go_ret
 all_goals refine ⟨ret_bool ?_,rfl⟩
 all_goals (unfold esN;rw [Bool.eq_iff_iff];simp;omega)
theorem isEscaped_of (x:Nat)(v:Bool)(w:World)(h:Hid (esN x=v)):Calls Tryz.prog 239 #[.int .i32 (x:Int)] w fun e w'=>e=.returned (.bool v)∧w=w':=by
 rw [← h.out];exact isEscaped_any x w
theorem isNoLineFeed_any (x:Nat)(w:World):Calls Tryz.prog 227 #[.int .i32 (x:Int)] w fun e w'=>e=.returned (.bool (nlN x))∧w=w':=by
 go_enter Tryz.func227,Tryz.ntmps227
 go_wp2
 all_goals go_ret
 all_goals refine ⟨ret_bool ?_,rfl⟩
 all_goals (unfold nlN;rw [Bool.eq_iff_iff];simp;omega)
theorem runes_of {g:Nat}{p:Nat→Bool}(h:∀ (x:Nat) (w:World),Calls Tryz.prog g #[.int .i32 (x:Int)] w fun e w'=>e=.returned (.bool (p x))∧w=w')(w:World):PredAtRunes Tryz.prog g #[] p w :=
 fun W x _ _=>(h x W).mono fun _ _ ⟨he,hw⟩=>⟨he,0,hw.symm⟩
theorem leading_of (g:Nat)(p:Nat→Bool)(q:UInt8→Bool)(H:ByBytes p q)(eg:∀ args w,(callFunc g args).run Tryz.prog w=.ok (.enter g args) w)(hp:∀ (x:Nat) (w:World),Calls Tryz.prog g #[.int .i32 (x:Int)] w fun e w'=>e=.returned (.bool (p x))∧w=w')
    (s:ByteArray) (n:Nat) (w:World) (hs:s.size≤maxLen) (hn:Hid ((s.data.toList.takeWhile q).length=n)) :
    Calls Tryz.prog 180 #[.string s,.func (.func g) #[] #[]] w fun e w'=>e=.returned (.string (s.extract 0 n))∧Below w.heap.size w w':=by
 unfold maxLen at hs
 have hle:=takeWhile_le q s.data.toList
 rw [size_list,hn.out] at hle
 have cT:=Lh (Tryz.strings_TrimLeftFunc_runes g #[] eg p s w (runes_of hp w))
 have hz:=trim_left H s
 rw [hn.out] at hz
 obtain ⟨T,hT⟩:∃ T,Lib.trimLeftF p s=T:=⟨_,rfl⟩
 rw [hT] at cT hz
 have hz2:T.size≤s.size:=by omega
 have hz3:n=s.size - T.size:=by omega
 have hzi:(s.size:Int) - (T.size:Int)=(n:Int):=by omega
 have HZ:=Lh hz3
 clear hz hz3 hT
 go_enter Tryz.func180,Tryz.ntmps180
 go_wp2_with (go_at_call 237;refine (cT.out).mono ?_;rintro e w1 ⟨rfl,hb1⟩)
 go_ret
 exact ⟨rfl,hb1⟩
theorem leadWord_of (s:ByteArray)(n:Nat)(w:World)(hs:s.size≤maxLen)(hn:Hid ((s.data.toList.takeWhile isWd).length=n)) :
    Calls Tryz.prog 180 #[.string s,.func (.func 181) #[] #[]] w fun e w'=>e=.returned (.string (s.extract 0 n))∧Below w.heap.size w w' :=
 leading_of _ _ _ wd_by (enters_of Tryz.func181 (by kernel_rfl) rfl) isWordPart_any s n w hs hn
theorem leadNum_of (s:ByteArray)(n:Nat)(w:World)(hs:s.size≤maxLen)(hn:Hid ((s.data.toList.takeWhile isNb).length=n)) :
    Calls Tryz.prog 180 #[.string s,.func (.func 266) #[] #[]] w fun e w'=>e=.returned (.string (s.extract 0 n))∧Below w.heap.size w w' :=
 leading_of _ _ _ nb_by (enters_of Tryz.func266 (by kernel_rfl) rfl) isNumberPart_any s n w hs hn
theorem leadLine_of (s:ByteArray)(n:Nat)(w:World)(hs:s.size≤maxLen)(hn:Hid ((s.data.toList.takeWhile isNl).length=n)) :
    Calls Tryz.prog 180 #[.string s,.func (.func 227) #[] #[]] w fun e w'=>e=.returned (.string (s.extract 0 n))∧Below w.heap.size w w' :=
 leading_of _ _ _ nl_by (enters_of Tryz.func227 (by kernel_rfl) rfl) isNoLineFeed_any s n w hs hn
theorem ext_take (b:ByteArray)(k:Nat):(b.extract 0 k).data.toList=b.data.toList.take k:=by
 rw [ByteArray.data_extract,Array.toList_extract,List.extract_eq_take_drop,List.drop_zero,Nat.sub_zero]
theorem wrap32_byte (b:UInt8):wrap32 (b.toNat:Int)=(b.toNat:Int):=by have:=b.toNat_lt;unfold wrap32;omega
theorem ext_size (s:ByteArray)(k:Nat)(h:k≤s.size):(s.extract 0 k).size=k:=by rw [← size_list,ext_take s k,List.length_take,size_list];omega
theorem ext_get (s X:ByteArray)(k:Nat)(hX:s.extract 0 k=X)(h0:0 < k)(hz:0 < X.size)(hs:0 < s.size):X[0]=s[0]:=by
 subst hX
 have a:=dig_at' (s.extract 0 k) 0 hz
 rw [ext_take s k,List.getElem?_take_of_lt h0,dig_at' s 0 hs] at a
 exact (Option.some.inj a).symm
theorem ext_none (s:ByteArray):s.extract 0 0=ByteArray.empty:=ba_ext (by rw [ext_take];rfl)
theorem word_first {s:ByteArray}(h:0 < s.size):wordLen s.data.toList=if isDgt s[0]=true then 0 else (s.data.toList.takeWhile isWd).length:=by
 have e:=drop_at (s:=s) (k:=0) h
 rw [List.drop_zero] at e
 rw [e,wordLen_cons,List.takeWhile_cons]
 by_cases hd:isDgt s[0]=true
 ·rw [if_pos hd,let_nd hd];rfl
 ·rw [if_neg hd]
  unfold isWd
  by_cases hl:isLet s[0]=true
  ·rw [hl];rfl
  ·simp only [Bool.not_eq_true] at hd hl;rw [hl,hd];rfl
theorem word_none {s:ByteArray}(h:s.size=0):wordLen s.data.toList=0:=by rw [list_nil h];rfl
set_option maxHeartbeats 1000000 in
theorem leadingWord_of (s:ByteArray)(n:Nat)(w:World)(hs:s.size≤maxLen)(hn:Hid (wordLen s.data.toList=n)) :
    Calls Tryz.prog 120 #[.string s] w fun e w'=>e=.returned (.string (s.extract 0 n))∧Below w.heap.size w w':=by
 obtain ⟨k,hk⟩:∃ v,(s.data.toList.takeWhile isWd).length=v:=⟨_,rfl⟩
 have hle:=takeWhile_le isWd s.data.toList
 rw [size_list,hk] at hle
 have HK:=Lh hk
 have hz:=ext_size s k hle
 obtain ⟨X,hX⟩:∃ X,s.extract 0 k=X:=⟨_,rfl⟩
 rw [hX] at hz
 have CL:Hid (∀ w,Calls Tryz.prog 180 #[.string s,.func (.func 181) #[] #[]] w fun e w'=>e=.returned (.string X)∧Below w.heap.size w w'):=Lh (fun w=>by
  rw [← hX];exact leadWord_of s k w hs HK)
 by_cases h0:k=0
 ·have hn0:n=0:=by
    rw [← hn.out]
    by_cases h:s.size=0
    ·exact word_none h
    ·rw [word_first (by omega),hk,h0];split <;> rfl
  have hemp:(X.toList == [])=true:=nil_yes (by omega)
  have HE:=Lh (show s.extract 0 n=ByteArray.empty by rw [hn0];exact ext_none s)
  clear hk hn hle hz hX HK h0 hn0 hs
  go_enter Tryz.func120,Tryz.ntmps120
  go_wp2_with (go_at_call 180;refine (CL.out _).mono ?_;rintro e w1 ⟨rfl,hb1⟩)
  go_ret
  exact ⟨by rw [HE.out];rfl,hb1⟩
 ·have hz0:0 < X.size:=by omega
  have hemp:(X.toList == [])=false:=nil_no (by omega)
  have hs0:0 < s.size:=by omega
  have hg:=ext_get s X k hX (by omega) hz0 hs0
  have hw:=word_first hs0
  rw [hn.out,hk] at hw
  obtain ⟨d,hd⟩:∃ v,isDgt s[0]=v:=⟨_,rfl⟩
  rw [hd] at hw
  have HD:Hid (digN X[0].toNat=d):=Lh (by rw [hg];exact hd)
  have HX:=Lh hX
  have hw32:=wrap32_byte X[0]
  clear hk hn hg hd h0
  cases d
  ·rw [if_neg (by decide)] at hw
   subst hw
   clear hle hs0 hz hX HK
   go_enter Tryz.func120,Tryz.ntmps120
   go_wp2_with (first | (go_at_call 180;refine (CL.out _).mono ?_;rintro e w1 ⟨rfl,hb1⟩) | (go_at_call 182;refine (isDigit_of _ _ _ HD).mono ?_;rintro e w' ⟨rfl,rfl⟩))
   go_ret
   exact ⟨by rw [HX.out];rfl,hb1⟩
  ·rw [if_pos rfl] at hw
   subst hw
   have HE:=Lh (ext_none s)
   clear hle hs0 hz hX HK
   go_enter Tryz.func120,Tryz.ntmps120
   go_wp2_with (first | (go_at_call 180;refine (CL.out _).mono ?_;rintro e w1 ⟨rfl,hb1⟩) | (go_at_call 182;refine (isDigit_of _ _ _ HD).mono ?_;rintro e w' ⟨rfl,rfl⟩))
   go_ret
   exact ⟨by rw [HE.out];rfl,hb1⟩
theorem iskw_any (s:ByteArray)(w:World) :
    Calls Tryz.prog 121 #[.string s] w fun e w'=>e=.returned (.bool (isKw s.data.toList))∧w=w':=by
 go_enter Tryz.func121,Tryz.ntmps121
 go_wp2
 all_goals go_ret
 all_goals refine ⟨ret_bool ?_,rfl⟩
 all_goals (rw [← ByteArray.toList_eq];unfold isKw kws;simp_all)
theorem iskw_of (s:ByteArray)(v:Bool)(w:World)(h:Hid (isKw s.data.toList=v)) :
    Calls Tryz.prog 121 #[.string s] w fun e w'=>e=.returned (.bool v)∧w=w':=by rw [← h.out];exact iskw_any s w
set_option maxHeartbeats 1000000 in
theorem isname_any (s:ByteArray)(w:World)(hs:s.size≤maxLen) :
    Calls Tryz.prog 60 #[.string s] w fun e w'=>e=.returned (.bool (isNm s.data.toList))∧Below w.heap.size w w':=by
 obtain ⟨n,hn⟩:∃ v:Nat,wordLen s.data.toList=v:=⟨_,rfl⟩
 obtain ⟨k,hk⟩:∃ v:Bool,isKw s.data.toList=v:=⟨_,rfl⟩
 have hle:=wordLen_le s.data.toList
 rw [size_list,hn] at hle
 have HN:=Lh hn
 have HK:=Lh hk
 have HR:Hid (isNm s.data.toList=(decide (0 < s.size) && decide (n=s.size) && decide (s.size≤16) && !k)):=Lh (by
  unfold isNm
  rw [hn,hk,size_list]
  congr 3
  by_cases h:s.size=0
  ·rw [list_nil h];simp [h]
  ·rw [decide_eq_true (by omega)]
   cases hl:s.data.toList with
   | nil=>exact absurd (by rw [← size_list,hl];rfl) h
   | cons a t=>rfl)
 rw [HR.out]
 have hz:=ext_size s n hle
 obtain ⟨X,hX⟩:∃ X,s.extract 0 n=X:=⟨_,rfl⟩
 rw [hX] at hz
 have CL:Hid (∀ w,Calls Tryz.prog 120 #[.string s] w fun e w'=>e=.returned (.string X)∧Below w.heap.size w w'):=Lh (fun w=>by
  rw [← hX];exact leadingWord_of s n w hs HN)
 have he:(X.toList == s.toList)=decide (n=s.size):=by
  rw [ByteArray.toList_eq,ByteArray.toList_eq,Bool.eq_iff_iff,beq_iff_eq,decide_eq_true_eq,← hX,ext_take]
  constructor
  ·intro e
   have:=congrArg List.length e
   rw [List.length_take,size_list] at this
   omega
  ·intro e
   rw [e,← size_list,List.take_length]
 have HM:=Lh hs
 clear HR hn hk hX HN
 by_cases h0:s.size=0
 ·have hemp:(s.toList == [])=true:=nil_yes h0
  have hd:decide (0 < s.size)=false:=by simp [h0]
  rw [hd]
  clear h0 hd he hz hle hs
  go_enter Tryz.func60,Tryz.ntmps60
  go_wp2
  go_ret
  exact ⟨rfl,Below.refl _ _⟩
 ·have hemp:(s.toList == [])=false:=nil_no h0
  have hd:decide (0 < s.size)=true:=by simp;omega
  rw [hd]
  obtain ⟨b,hb⟩:∃ v,decide (n=s.size)=v:=⟨_,rfl⟩
  rw [hb] at he ⊢
  clear h0 hd hz hle hb hs
  cases b
  ·go_enter Tryz.func60,Tryz.ntmps60
   go_wp2_with (go_at_call 120;refine (CL.out _).mono ?_;rintro e w1 ⟨rfl,hb1⟩)
   go_ret
   exact ⟨rfl,hb1⟩
  ·by_cases h16:s.size≤16
   ·have hi:(s.size:Int)≤16:=by omega
    have hd:decide (s.size≤16)=true:=by simp [h16]
    rw [hd]
    go_enter Tryz.func60,Tryz.ntmps60
    go_wp2_with (first | (go_at_call 120;refine (CL.out _).mono ?_;rintro e w1 ⟨rfl,hb1⟩) | (go_at_call 121;refine (iskw_of _ _ _ HK).mono ?_;rintro e w' ⟨rfl,rfl⟩))
    go_ret
    exact ⟨by cases k <;> rfl,hb1⟩
   ·have hi:¬ (s.size:Int)≤16:=by omega
    have hd:decide (s.size≤16)=false:=by simp [h16]
    rw [hd]
    go_enter Tryz.func60,Tryz.ntmps60
    go_wp2_with (first | (go_at_call 120;refine (CL.out _).mono ?_;rintro e w1 ⟨rfl,hb1⟩) | (go_at_call 121;refine (iskw_of _ _ _ HK).mono ?_;rintro e w' ⟨rfl,rfl⟩))
    go_ret
    exact ⟨rfl,hb1⟩
theorem isname_of (s:ByteArray)(v:Bool)(w:World)(hs:s.size≤maxLen)(h:Hid (isNm s.data.toList=v)) :
    Calls Tryz.prog 60 #[.string s] w fun e w'=>e=.returned (.bool v)∧Below w.heap.size w w':=by rw [← h.out];exact isname_any s w hs
theorem num_cut (s:ByteArray):∃ (D:ByteArray) (sg:Nat) (b:Bool),D.size+sg=s.size∧(∀ w,Calls Tryz.prog 220 #[.string s,.string ⟨#[45]⟩] w fun e w'=>e=.returned (.tuple #[.string D,.bool b])∧w=w') ∧
    numLen s.data.toList=if (D.data.toList.head?.map isDgt)=some true then sg+(D.data.toList.takeWhile isNb).length else 0:=by
 by_cases h:s.data.toList.head?=some 45
 ·obtain ⟨t,ht⟩:∃ t,s.data.toList=45 :: t:=by
    cases hl:s.data.toList with
    | nil=>rw [hl] at h;cases h
    | cons a t=>rw [hl] at h;obtain rfl:=Option.some.inj h;exact ⟨t,rfl⟩
  refine ⟨⟨t.toArray⟩,1,true,?_,fun w=>cut_yes s 45 t w (Lh ht),?_⟩
  ·rw [Lib.size_mk,← size_list,ht];rfl
  ·rw [ht,numLen_cons,if_neg (by decide),show (⟨t.toArray⟩:ByteArray).data.toList=t from ba_list t]
   by_cases hd:(t.head?.map isDgt)=some true
   ·rw [if_pos ⟨by decide,hd⟩,if_pos hd];omega
   ·rw [if_neg (fun e=>hd e.2),if_neg hd]
 ·refine ⟨s,0,false,rfl,fun w=>cut_no s 45 w (Lh h),?_⟩
  cases hl:s.data.toList with
  | nil=>rfl
  | cons a t =>
   rw [hl] at h
   have h45:a.toNat≠45:=fun e=>h (by rw [show a=45 from UInt8.toNat_inj.1 e];rfl)
   rw [numLen_cons]
   by_cases hd:isDgt a=true
   ·have hn:isNb a=true:=by simp [isNb,isWd,hd]
    rw [if_pos hd,if_pos (by simp [hd]),List.takeWhile_cons,hn]
    show _=0+((t.takeWhile isNb).length+1)
    omega
   ·rw [if_neg hd,if_neg (fun e=>h45 e.1),if_neg (by simp [hd])]
set_option maxHeartbeats 1000000 in
theorem leadingNumber_of (s:ByteArray)(n:Nat)(w:World)(hs:s.size≤maxLen)(hn:Hid (numLen s.data.toList=n)) :
    Calls Tryz.prog 229 #[.string s] w fun e w'=>e=.returned (.string (s.extract 0 n))∧Below w.heap.size w w':=by
 obtain ⟨D,sg,b,hsz,hcut,hnum⟩:=num_cut s
 rw [hn.out] at hnum
 have HC:=Lh hcut
 clear hcut hn
 obtain ⟨k,hk⟩:∃ v,(D.data.toList.takeWhile isNb).length=v:=⟨_,rfl⟩
 rw [hk] at hnum
 have hle:=takeWhile_le isNb D.data.toList
 rw [size_list,hk] at hle
 have HK:=Lh hk
 have hz:=ext_size D k hle
 obtain ⟨X,hX⟩:∃ X,D.extract 0 k=X:=⟨_,rfl⟩
 rw [hX] at hz
 have hm:D.size≤maxLen:=by omega
 have CL:Hid (∀ w,Calls Tryz.prog 180 #[.string D,.func (.func 266) #[] #[]] w fun e w'=>e=.returned (.string X)∧Below w.heap.size w w'):=Lh (fun w=>by
  rw [← hX];exact leadNum_of D k w hm HK)
 by_cases h0:D.size=0
 ·have hemp:(D.toList == [])=true:=nil_yes h0
  rw [list_nil h0,if_neg (by simp)] at hnum
  have HE:=Lh (show s.extract 0 n=ByteArray.empty by rw [hnum];exact ext_none s)
  clear hsz hle hk hz hX hm h0 hs hnum
  go_enter Tryz.func229,Tryz.ntmps229
  go_wp2_with (go_at_call 220;refine (HC.out _).mono ?_;rintro e w' ⟨rfl,rfl⟩)
  go_ret
  exact ⟨by rw [HE.out];rfl,Below.refl _ _⟩
 ·have hemp:(D.toList == [])=false:=nil_no h0
  have hz0:0 < D.size:=by omega
  have hw32:=wrap32_byte D[0]
  obtain ⟨d,hd⟩:∃ v,isDgt D[0]=v:=⟨_,rfl⟩
  have HD:Hid (digN D[0].toNat=d):=Lh hd
  have hh:(D.data.toList.head?.map isDgt)=some d:=by rw [List.head?_eq_getElem?,dig_at' D 0 hz0,Option.map_some,hd]
  rw [hh] at hnum
  cases d
  ·rw [if_neg (by decide)] at hnum
   have HE:=Lh (show s.extract 0 n=ByteArray.empty by rw [hnum];exact ext_none s)
   clear hsz hle hk hz hX hm h0 hs hnum hd hh
   go_enter Tryz.func229,Tryz.ntmps229
   go_wp2_with (first | (go_at_call 220;refine (HC.out _).mono ?_;rintro e w' ⟨rfl,rfl⟩) | (go_at_call 182;refine (isDigit_of _ _ _ HD).mono ?_;rintro e w' ⟨rfl,rfl⟩))
   go_ret
   exact ⟨by rw [HE.out];rfl,Below.refl _ _⟩
  ·rw [if_pos rfl] at hnum
   have hsi:(s.size:Int) - (D.size:Int)=(sg:Int):=by omega
   have hni:(sg:Int)+(X.size:Int)=(n:Int):=by omega
   have hns:n≤s.size:=by omega
   have hd2:D.size≤s.size:=by omega
   have hx2:X.size≤s.size:=by omega
   have hsg:sg≤s.size:=by omega
   unfold maxLen at hs
   clear hsz hle hk hz hX hm h0 hnum hd hh
   go_enter Tryz.func229,Tryz.ntmps229
   go_wp2_with (first | (go_at_call 220;refine (HC.out _).mono ?_;rintro e w' ⟨rfl,rfl⟩) | (go_at_call 182;refine (isDigit_of _ _ _ HD).mono ?_;rintro e w' ⟨rfl,rfl⟩) | (go_at_call 180;refine (CL.out _).mono ?_;rintro e w1 ⟨rfl,hb1⟩))
   go_ret
   exact ⟨rfl,hb1⟩
def markL (l:List UInt8):List UInt8:=if 1 < l.length∧isMk (l.take 2)=true then l.take 2 else if isMk (l.take 1) then l.take 1 else []
def mkAt (k:Nat):List UInt8:=mks.getD k []
theorem mark_pre (l:List UInt8)(k:Nat)(hk:k < 10)(h:Lib.hasPrefix l (mkAt k)=true):markL l=mkAt k:=by
 unfold Lib.hasPrefix at h
 obtain ⟨t,rfl⟩:=List.isPrefixOf_iff_prefix.1 h
 have two:∀ c d:UInt8,c≠45→isMk [c,d]=false:=by
  intro c d hc
  simp [isMk,mks,hc]
 have one:∀ c:UInt8,c≠45→isMk [c]=true→markL (c :: t)=[c]:=by
  intro c hc h1
  unfold markL
  rw [if_neg,show (c :: t).take 1=[c] from rfl,if_pos h1]
  rintro ⟨_,h2⟩
  cases t with
  | nil=>rename_i hl;simp at hl
  | cons d t=>rw [show (c :: d :: t).take 2=[c,d] from rfl,two c d hc] at h2;cases h2
 match k,hk with
 | 0,_=>exact one 123 (by decide) (by decide)
 | 1,_=>exact one 125 (by decide) (by decide)
 | 2,_=>exact one 91 (by decide) (by decide)
 | 3,_=>exact one 93 (by decide) (by decide)
 | 4,_=>exact one 59 (by decide) (by decide)
 | 5,_=>exact one 44 (by decide) (by decide)
 | 6,_=>exact one 61 (by decide) (by decide)
 | 7,_=>exact one 58 (by decide) (by decide)
 | 8,_=>show markL (45 :: 62 :: t)=_;unfold markL;rw [if_pos ⟨by simp,by simp [isMk,mks]⟩];rfl
 | 9,_=>show markL (45 :: 45 :: t)=_;unfold markL;rw [if_pos ⟨by simp,by simp [isMk,mks]⟩];rfl
 | (k+10),hk=>omega
theorem mark_none (l:List UInt8)(h:∀ k,k < 10→Lib.hasPrefix l (mkAt k)=false):markL l=[]:=by
 have key:∀ n,isMk (l.take n)=true→False:=by
  intro n hn
  obtain ⟨k,hk,e⟩:∃ k,k < 10∧mkAt k=l.take n:=by
   unfold isMk at hn
   rw [List.contains_iff_mem] at hn
   obtain ⟨k,hk,e⟩:=List.mem_iff_getElem.1 hn
   exact ⟨k,hk,by unfold mkAt;rw [List.getD_eq_getElem?_getD,List.getElem?_eq_getElem hk,e];rfl⟩
  have:=h k hk
  rw [e] at this
  unfold Lib.hasPrefix at this
  rw [List.isPrefixOf_iff_prefix.2 (List.take_prefix n l)] at this
  cases this
 unfold markL
 rw [if_neg (fun e=>key 2 e.2),if_neg (key 1)]
theorem pre_next {l:List UInt8}{k:Nat}(h:∀ j,j < k→Lib.hasPrefix l (mkAt j)=false)(hk:Lib.hasPrefix l (mkAt k)=false):∀ j,j < k+1→Lib.hasPrefix l (mkAt j)=false:=by
 intro j hj
 rcases Nat.lt_or_ge j k with h1 | h1
 ·exact h j h1
 ·obtain rfl:j=k:=by omega
  exact hk
theorem hasPrefix_of (s:ByteArray)(l:List UInt8)(v:Bool)(w:World)(h:Hid (Lib.hasPrefix s.data.toList l=v)) :
    Calls Tryz.prog 267 #[.string s,.string ⟨l.toArray⟩] w fun e w'=>e=.returned (.bool v)∧w=w':=by
 have c:=Tryz.strings_HasPrefix s ⟨l.toArray⟩ w
 rw [show (⟨l.toArray⟩:ByteArray).data.toList=l from ba_list l,h.out] at c
 exact c.mono fun _ _ h=>⟨h.1,h.2.symm⟩
abbrev mkArr:Value:=.agg #[.string ⟨#[123]⟩,.string ⟨#[125]⟩,.string ⟨#[91]⟩,.string ⟨#[93]⟩,.string ⟨#[59]⟩,.string ⟨#[44]⟩,.string ⟨#[61]⟩,.string ⟨#[58]⟩,.string ⟨#[45,62]⟩,.string ⟨#[45,45]⟩]
set_option maxRecDepth 100000 in
theorem mk_index (k:Nat)(hk:k < 10)(W:World):(Instr.index 306 mkArr (.int .i64 (k:Int))).run Tryz.prog W=.ok (.string ⟨(mkAt k).toArray⟩) W:=by
 match k,hk with
 | 0,_=>rfl
 | 1,_=>rfl
 | 2,_=>rfl
 | 3,_=>rfl
 | 4,_=>rfl
 | 5,_=>rfl
 | 6,_=>rfl
 | 7,_=>rfl
 | 8,_=>rfl
 | 9,_=>rfl
 | (k+10),hk=>omega
set_option maxHeartbeats 4000000 in
theorem leadingMark_of (s:ByteArray)(m:List UInt8)(w:World)(hm:Hid (markL s.data.toList=m)) :
    Calls Tryz.prog 232 #[.string s] w fun e w'=>e=.returned (.string (ba m))∧w=w':=by
 go_enter Tryz.func232,Tryz.ntmps232
 go_wp2_with fail
 go_loop [6] (fun i=>∃ k:Nat,k≤10∧i=.int .i64 k∧∀ j,j < k→Lib.hasPrefix s.data.toList (mkAt j)=false) (fun i=>10 - (intOf i).toNat)
 case atStart=>exact ⟨0,by omega,rfl,fun j hj=>absurd hj (by omega)⟩
 case round =>
  obtain ⟨k,hk,rfl,hp⟩:=hrel
  have HP:=Lh hp
  clear hp
  by_cases hlt:k < 10
  ·obtain ⟨v,hv⟩:∃ v,Lib.hasPrefix s.data.toList (mkAt k)=v:=⟨_,rfl⟩
   have HV:=Lh hv
   have hix:=mk_index k hlt
   have HC:Hid (∀ w,Calls Tryz.prog 267 #[.string s,.string ⟨(mkAt k).toArray⟩] w fun e w'=>e=.returned (.bool v)∧w=w'):=Lh (fun w=>hasPrefix_of s (mkAt k) v w HV)
   have HT:Hid (v=true→m=mkAt k):=Lh (fun e=>by rw [← hm.out];exact mark_pre _ k hlt (by rw [hv];exact e))
   have HN:Hid (v=false→∀ j,j < k+1→Lib.hasPrefix s.data.toList (mkAt j)=false):=Lh (fun e=>pre_next HP.out (by rw [hv];exact e))
   clear hv HV hm HP
   generalize mkAt k=x at hix HC HT
   cases v
   ·have HQ:=Lh (HN.out rfl)
    clear HN HT
    go_wp2_with (go_at_call 267;refine (HC.out _).mono ?_;rintro e w' ⟨rfl,rfl⟩)
    go_round
    case rel=>exact ⟨k+1,by omega,by go_num,HQ.out⟩
    case measure=>simp [intOf];omega
   ·have HQ:=Lh (HT.out rfl)
    clear HN HT
    go_wp2_with (go_at_call 267;refine (HC.out _).mono ?_;rintro e w' ⟨rfl,rfl⟩)
    go_ret
    exact ⟨by rw [HQ.out];rfl,rfl⟩
  ·obtain rfl:k=10:=by omega
   have HQ:Hid (m=[]):=Lh (by rw [← hm.out];exact mark_none _ HP.out)
   clear HP
   go_wp2
   go_ret
   exact ⟨by rw [HQ.out];rfl,rfl⟩
theorem tkz_com (pr:List UInt8→Int × Int):∀ (l:List UInt8) (line:Int),tkz pr l line true=tkz pr (l.drop (l.takeWhile isNl).length) line false:=by
 intro l
 induction l with
 | nil=>intro line;rw [tkz_nil];exact (tkz_nil pr line false).symm
 | cons c t ih =>
  intro line
  by_cases h:c.toNat=10
  ·have hn:isNl c=false:=by simp [isNl,h]
   rw [List.takeWhile_cons,hn]
   show _=tkz pr (c :: t) line false
   rw [tkz_lf pr c t line true h,tkz_lf pr c t line false h]
  ·have hn:isNl c=true:=by simp [isNl,h]
   rw [List.takeWhile_cons,hn,tkz_skip pr c t line true h rfl]
   exact ih line
def lenOf:Value→Nat
 | .string s=>s.size
 | _=>0
def Skip (l:List UInt8)(k n:Nat):Prop:=∀ line,tkz prL l line false=tkz prL (l.drop k) (line+(n:Int)) false
theorem Skip.zero (l:List UInt8):Skip l 0 0:=fun line=>by simp
theorem Skip.lf {l t:List UInt8}{k n:Nat}{c:UInt8}(h:Skip l k n)(hd:l.drop k=c :: t)(hc:c.toNat=10):Skip l (k+1) (n+1):=by
 intro line
 rw [h line,← List.drop_drop,hd,tkz_lf prL c t _ _ hc,List.drop_succ_cons,List.drop_zero]
 congr 1
 omega
theorem Skip.bl {l t:List UInt8}{k n:Nat}{c:UInt8}(h:Skip l k n)(hd:l.drop k=c :: t)(hc:c.toNat=32∨c.toNat=9):Skip l (k+1) n:=by
 intro line
 rw [h line,← List.drop_drop,hd,tkz_skip prL c t _ _ (by omega) (by rcases hc with e | e <;> simp [isBl,e]),List.drop_succ_cons,List.drop_zero]
 have:decide (c.toNat=35)=false:=by simp;omega
 rw [this];rfl
theorem Skip.com {l t:List UInt8}{k n m:Nat}{c:UInt8}(h:Skip l k n)(hd:l.drop k=c :: t)(hc:c.toNat=35)(hm:((c :: t).takeWhile isNl).length=m):Skip l (k+m) n:=by
 intro line
 have e:isNl c=true:=by simp [isNl,hc]
 rw [List.takeWhile_cons,e] at hm
 simp only [if_true,List.length_cons] at hm
 rw [h line,← List.drop_drop,hd,tkz_skip prL c t _ _ (by omega) (by simp [isBl,hc])]
 have:decide (c.toNat=35)=true:=by simp [hc]
 rw [this,Bool.false_or,tkz_com,← hm,List.drop_succ_cons]
def SkipOut (l:List UInt8)(w:World)(e:Ending)(w':World):Prop:=∃ (T:ByteArray) (k n:Nat),e=.returned (.tuple #[.string T,.int .i64 (n:Int)])∧T.data.toList=l.drop k∧k≤l.length∧n≤k∧Skip l k n ∧
 (∀ c,T.data.toList.head?=some c→c.toNat≠10∧isBl c=false)∧Below w.heap.size w w'
theorem rest_drop {T:ByteArray}{l:List UInt8}{k:Nat}(m:Nat)(h:T.data.toList=l.drop k):(T.extract m T.size).data.toList=l.drop (k+m):=by
 rw [drop_extract,h,List.drop_drop]
set_option maxHeartbeats 4000000 in
theorem skipBlanks_any (s:ByteArray)(w:World)(hs:s.size≤maxLen) :
    Calls Tryz.prog 174 #[.string s] w (SkipOut s.data.toList w):=by
 unfold maxLen at hs
 go_enter Tryz.func174,Tryz.ntmps174
 go_wp2_with fail
 go_loopw [0,3] (fun v ln wr=>∃ (T:ByteArray) (k n:Nat),v=.string T∧ln=.int .i64 (n:Int)∧T.data.toList=s.data.toList.drop k∧T.size+k=s.size∧n≤k∧Skip s.data.toList k n∧Below w.heap.size w wr) (fun v _ _=>lenOf v)
 case atStart=>exact ⟨s,0,0,rfl,rfl,rfl,rfl,Nat.le_refl _,Skip.zero _,Below.refl _ _⟩
 case round =>
  obtain ⟨T,k,n,rfl,rfl,hT,hsz,hnk,hS,hB⟩:=hrel
  rename World=>wr
  have HT:=Lh hT
  have HS:=Lh hS
  clear hT hS
  have hkl:k≤s.data.toList.length:=by rw [size_list];omega
  have HKL:=Lh hkl
  clear hkl
  by_cases h0:T.size=0
  ·have hemp:T.toList.isEmpty=true:=by rw [ByteArray.toList_eq,list_nil h0];rfl
   have HE:Hid (ByteArray.empty.data.toList=s.data.toList.drop k):=Lh (by rw [← HT.out,list_nil h0];rfl)
   clear h0
   go_wp2
   go_ret2
   exact ⟨_,k,n,rfl,HE.out,HKL.out,hnk,HS.out,(by intro c hc;simp at hc),hB⟩
  ·have hemp:T.toList.isEmpty=false:=by
     rw [ByteArray.toList_eq,Bool.eq_false_iff];intro e;exact h0 (by rw [← size_list,List.isEmpty_iff.1 e];rfl)
   have hz0:0 < T.size:=by omega
   have hD:s.data.toList.drop k=T[0] :: (s.data.toList.drop k).tail:=by
    have e:=drop_at (s:=T) (k:=0) hz0
    rw [List.drop_zero,HT.out] at e
    rw [e];rfl
   have HD:=Lh hD
   have hH:T.data.toList.head?=some T[0]:=by rw [List.head?_eq_getElem?];exact dig_at' T 0 hz0
   have HH:=Lh hH
   have hz1:(T.extract 1 T.size).size+(k+1)=s.size:=by rw [← size_list,rest_drop 1 HT.out,List.length_drop,size_list];omega
   have HZ:=Lh hz1
   clear h0 hD hH hz1
   by_cases c10:T[0].toNat=10
   ·have b1:((T[0].toNat:Int) == 10)=true:=by rw [beq_iff_eq];omega
    have HN:=Lh (HS.out.lf HD.out c10)
    clear c10
    go_wp2
    go_roundw
    case rel=>exact ⟨_,k+1,n+1,rfl,by go_num,rest_drop 1 HT.out,HZ.out,by omega,HN.out,hB⟩
    case measure=>have:=HZ.out;simp only [lenOf];omega
   ·have b1:((T[0].toNat:Int) == 10)=false:=by rw [beq_eq_false_iff_ne];omega
    by_cases c32:T[0].toNat=32
    ·have b2:((T[0].toNat:Int) == 32)=true:=by rw [beq_iff_eq];omega
     have HN:=Lh (HS.out.bl HD.out (Or.inl c32))
     clear c10 c32
     go_wp2
     go_roundw
     case rel=>exact ⟨_,k+1,n,rfl,rfl,rest_drop 1 HT.out,HZ.out,by omega,HN.out,hB⟩
     case measure=>have:=HZ.out;simp only [lenOf];omega
    ·have b2:((T[0].toNat:Int) == 32)=false:=by rw [beq_eq_false_iff_ne];omega
     by_cases c9:T[0].toNat=9
     ·have b3:((T[0].toNat:Int) == 9)=true:=by rw [beq_iff_eq];omega
      have HN:=Lh (HS.out.bl HD.out (Or.inr c9))
      clear c10 c32 c9
      go_wp2
      go_roundw
      case rel=>exact ⟨_,k+1,n,rfl,rfl,rest_drop 1 HT.out,HZ.out,by omega,HN.out,hB⟩
      case measure=>have:=HZ.out;simp only [lenOf];omega
     ·have b3:((T[0].toNat:Int) == 9)=false:=by rw [beq_eq_false_iff_ne];omega
      by_cases c35:T[0].toNat=35
      ·have b4:((T[0].toNat:Int) == 35)=true:=by rw [beq_iff_eq];omega
       obtain ⟨m,hm⟩:∃ m,(T.data.toList.takeWhile isNl).length=m:=⟨_,rfl⟩
       have hle:=takeWhile_le isNl T.data.toList
       rw [size_list,hm] at hle
       have HN:=Lh (HS.out.com (m:=m) HD.out c35 (by rw [← HD.out,← HT.out];exact hm))
       have hm1:1≤m:=by
        rw [← hm,HT.out,HD.out,List.takeWhile_cons,show isNl T[0]=true by simp [isNl,c35]]
        simp
       have HM:=Lh hm
       have hx:=ext_size T m hle
       have hTm:T.size≤maxLen:=by unfold maxLen;omega
       have CL:Hid (∀ w,Calls Tryz.prog 180 #[.string T,.func (.func 227) #[] #[]] w fun e w'=>∃ X:ByteArray,X.size=m∧e=.returned (.string X)∧Below w.heap.size w w'):=Lh (fun w =>
        (leadLine_of T m w hTm HM).mono fun e w' h=>⟨_,hx,h.1,h.2⟩)
       have hzm:(T.extract m T.size).size+(k+m)=s.size:=by rw [← size_list,rest_drop m HT.out,List.length_drop,size_list];omega
       have HZM:=Lh hzm
       clear c10 c32 c9 c35 hm hx hzm
       go_wp2_with (go_at_call 180;refine (CL.out _).mono ?_;rintro e w1 ⟨X,hX,rfl,hb1⟩)
       go_roundw
       case rel=>exact ⟨_,k+m,n,rfl,rfl,rest_drop m HT.out,HZM.out,by omega,HN.out,below_keep hb1 hB⟩
       case measure=>have:=HZM.out;simp only [lenOf];omega
      ·have b4:((T[0].toNat:Int) == 35)=false:=by rw [beq_eq_false_iff_ne];omega
       have HC:Hid (∀ c,T.data.toList.head?=some c→c.toNat≠10∧isBl c=false):=Lh (fun c hc=>by
        rw [HH.out] at hc;obtain rfl:=Option.some.inj hc;exact ⟨c10,by simp [isBl,c32,c9,c35]⟩)
       clear c10 c32 c9 c35
       go_wp2
       go_ret2
       exact ⟨T,k,n,rfl,HT.out,HKL.out,hnk,HS.out,HC.out,hB⟩
end Go.Proofs.YtgmidodmmlmmeaaGreatDoor
