/-
  What the small functions of the reference of layer 6 return: bytes, words, keywords, marks, names, plain contents, Quote. Conditions: none but a string's length.
  What Quote, text and number of the reference of layer 6 return. Conditions: a string's length; of number, that there is a byte.
  Slices of tokens of layer 6 in memory: as a row that a loop appends to, and as they are read. No condition.
  Valid tokens, how they are written and joined: plain facts. No function of the program is named here; no condition.
  What the exported functions of layer 6 answer, as plain functions, and what the chapter's example comes to. No function of the program is named here; no condition.
-/
import Derived.Test.YtcdoicgbjoikkaaGreatDoorMad
namespace Go.Proofs.YtcdoicgbjoikkaaGreatDoor
open Go.RowKit lex
theorem dig_at' (s:ByteArray)(k:Nat)(h:k < s.size):s.data.toList[k]?=some s[k]:=by
 rw [List.getElem?_eq_getElem (by simpa using h)];rfl
theorem size_list (s:ByteArray):s.data.toList.length=s.size:=by simp
theorem list_nil {s:ByteArray}(h:s.size=0):s.data.toList=[]:=List.length_eq_zero_iff.1 (by rw [size_list];exact h)
theorem nil_yes {s:ByteArray}(h:s.size=0):(s.toList == [])=true:=by rw [ByteArray.toList_eq,list_nil h];rfl
theorem nil_no {s:ByteArray}(h:s.size≠0):(s.toList == [])=false:=by
 rw [ByteArray.toList_eq,beq_eq_false_iff_ne];intro e;exact h (by rw [← size_list,e];rfl)
theorem rletter_any (c:UInt8)(w:World) :
    Calls Tryz.prog 126 #[.int .u8 (c.toNat:Int)] w fun e w'=>e=.returned (.bool (isLet c))∧w=w':=by
 go_enter Tryz.func126,Tryz.ntmps126
 go_wp2
 all_goals go_ret
 all_goals refine ⟨ret_bool ?_,rfl⟩
 all_goals (unfold isLet;rw [Bool.eq_iff_iff];simp;omega)
theorem rdigit_any (c:UInt8)(w:World) :
    Calls Tryz.prog 127 #[.int .u8 (c.toNat:Int)] w fun e w'=>e=.returned (.bool (isDgt c))∧w=w':=by
 go_enter Tryz.func127,Tryz.ntmps127
 go_wp2
 all_goals go_ret
 all_goals refine ⟨ret_bool ?_,rfl⟩
 all_goals (unfold isDgt;rw [Bool.eq_iff_iff];simp;omega)
theorem rletter_of (c:UInt8)(v:Bool)(w:World)(h:Hid (isLet c=v)) :
    Calls Tryz.prog 126 #[.int .u8 (c.toNat:Int)] w fun e w'=>e=.returned (.bool v)∧w=w':=by rw [← h.out];exact rletter_any c w
theorem rdigit_of (c:UInt8)(v:Bool)(w:World)(h:Hid (isDgt c=v)) :
    Calls Tryz.prog 127 #[.int .u8 (c.toNat:Int)] w fun e w'=>e=.returned (.bool v)∧w=w':=by rw [← h.out];exact rdigit_any c w
set_option maxHeartbeats 1000000 in
theorem rword_any (s:ByteArray)(w:World)(hs:s.size≤maxLen) :
    Calls Tryz.prog 84 #[.string s] w fun e w'=>e=.returned (.int .i64 (wordLen s.data.toList:Int))∧w=w':=by
 unfold maxLen at hs
 obtain ⟨n,hn⟩:∃ v:Nat,wordLen s.data.toList=v:=⟨_,rfl⟩
 rw [hn]
 have HN:=Lh hn
 clear hn
 go_enter Tryz.func84,Tryz.ntmps84
 go_wp2
 go_loop [3] (fun v=>∃ k:Nat,k≤s.size∧v=.int .i64 k∧WordTo s.data.toList k) (fun v=>s.size - (intOf v).toNat)
 case atStart=>exact ⟨0,Nat.zero_le _,rfl,WordTo.zero _⟩
 case round =>
  obtain ⟨k,hk,rfl,hw⟩:=hrel
  have HW:=Lh hw
  clear hw
  by_cases hlt:k < s.size
  ·have HD:=Lh (dig_at' s k hlt)
   obtain ⟨a,ha⟩:∃ v,isLet s[k]=v:=⟨_,rfl⟩
   obtain ⟨b,hb⟩:∃ v,isDgt s[k]=v:=⟨_,rfl⟩
   have HA:=Lh ha
   have HB:=Lh hb
   clear ha hb
   have stop:okAt k s[k]=false→n=k:=fun e=>by
    rw [← HN.out]
    exact HW.out.stop (by rw [size_list];omega) (fun c hc=>by rw [HD.out] at hc;obtain rfl:=Option.some.inj hc;exact e)
   have STOP:=Lh stop
   clear stop
   cases a
   ·by_cases hk0:k=0
    ·obtain rfl:n=k:=STOP.out (by unfold okAt;rw [if_pos hk0];exact HA.out)
     have hd0:decide (0 < n)=false:=by simp;omega
     clear hk0
     go_wp2_with (go_at_call 126;refine (rletter_of _ _ _ HA).mono ?_;rintro e w' ⟨rfl,rfl⟩)
     go_ret
     exact ⟨rfl,rfl⟩
    ·have hk1:0 < k:=by omega
     have hd1:decide (0 < k)=true:=by simp;omega
     clear hk0
     cases b
     ·obtain rfl:n=k:=STOP.out (by unfold okAt isWd;rw [if_neg (by omega),HA.out,HB.out];rfl)
      go_wp2_with (first | (go_at_call 126;refine (rletter_of _ _ _ HA).mono ?_;rintro e w' ⟨rfl,rfl⟩) | (go_at_call 127;refine (rdigit_of _ _ _ HB).mono ?_;rintro e w' ⟨rfl,rfl⟩))
      go_ret
      exact ⟨rfl,rfl⟩
     ·have HK:=Lh (show okAt k s[k]=true by unfold okAt isWd;rw [if_neg (by omega),HA.out,HB.out];rfl)
      go_wp2_with (first | (go_at_call 126;refine (rletter_of _ _ _ HA).mono ?_;rintro e w' ⟨rfl,rfl⟩) | (go_at_call 127;refine (rdigit_of _ _ _ HB).mono ?_;rintro e w' ⟨rfl,rfl⟩))
      go_round
      case rel=>exact ⟨k+1,by omega,by go_num,HW.out.next HD.out HK.out⟩
      case measure=>simp [intOf];omega
   ·have HK:=Lh (show okAt k s[k]=true by unfold okAt isWd;rw [HA.out];simp)
    go_wp2_with (go_at_call 126;refine (rletter_of _ _ _ HA).mono ?_;rintro e w' ⟨rfl,rfl⟩)
    go_round
    case rel=>exact ⟨k+1,by omega,by go_num,HW.out.next HD.out HK.out⟩
    case measure=>simp [intOf];omega
  ·obtain rfl:k=s.size:=by omega
   obtain rfl:n=s.size:=by
    rw [← HN.out]
    exact HW.out.stop (by rw [size_list];omega) (fun c hc=>by rw [List.getElem?_eq_none (by rw [size_list];omega)] at hc;cases hc)
   go_wp2
   go_ret
   exact ⟨rfl,rfl⟩
theorem rkw_any (s:ByteArray)(w:World) :
    Calls Tryz.prog 85 #[.string s] w fun e w'=>e=.returned (.bool (isKw s.data.toList))∧w=w':=by
 go_enter Tryz.func85,Tryz.ntmps85
 go_wp2
 all_goals go_ret
 all_goals refine ⟨ret_bool ?_,rfl⟩
 all_goals (rw [← ByteArray.toList_eq];unfold isKw kws;simp_all)
theorem rkw_of (s:ByteArray)(v:Bool)(w:World)(h:Hid (isKw s.data.toList=v)) :
    Calls Tryz.prog 85 #[.string s] w fun e w'=>e=.returned (.bool v)∧w=w':=by rw [← h.out];exact rkw_any s w
theorem rword_of (s:ByteArray)(n:Nat)(w:World)(hs:s.size≤maxLen)(h:Hid (wordLen s.data.toList=n)) :
    Calls Tryz.prog 84 #[.string s] w fun e w'=>e=.returned (.int .i64 (n:Int))∧w=w':=by rw [← h.out];exact rword_any s w hs
set_option maxHeartbeats 1000000 in
theorem rname_any (s:ByteArray)(w:World)(hs:s.size≤maxLen) :
    Calls Tryz.prog 43 #[.string s] w fun e w'=>e=.returned (.bool (isNm s.data.toList))∧w=w':=by
 have hm:=hs
 unfold maxLen at hs
 obtain ⟨n,hn⟩:∃ v:Nat,wordLen s.data.toList=v:=⟨_,rfl⟩
 obtain ⟨k,hk⟩:∃ v:Bool,isKw s.data.toList=v:=⟨_,rfl⟩
 have HN:=Lh hn
 have HK:=Lh hk
 have HR:Hid (isNm s.data.toList=(decide (0 < s.size) && decide (n=s.size) && decide (s.size≤16) && !k)):=Lh (by
  unfold isNm
  rw [hn,hk,size_list]
  congr 3
  by_cases h:s.size=0
  ·rw [list_nil h];simp [h]
  ·rw [decide_eq_true (by omega)]
   cases hl:s.data.toList with
   | nil=>exact absurd (by rw [← size_list,hl];rfl) h
   | cons a t=>rfl)
 rw [HR.out]
 clear HR hn hk
 by_cases h0:s.size=0
 ·have hemp:(s.toList == [])=true:=nil_yes h0
  have hd:decide (0 < s.size)=false:=by simp [h0]
  rw [hd]
  clear h0 hd
  go_enter Tryz.func43,Tryz.ntmps43
  go_wp2
  go_ret
  exact ⟨rfl,rfl⟩
 ·have hemp:(s.toList == [])=false:=nil_no h0
  have hd:decide (0 < s.size)=true:=by simp;omega
  rw [hd]
  clear h0 hd
  go_enter Tryz.func43,Tryz.ntmps43
  go_wp2_with (first | (go_at_call 84;refine (rword_of _ _ _ hm HN).mono ?_;rintro e w' ⟨rfl,rfl⟩) | (go_at_call 85;refine (rkw_of _ _ _ HK).mono ?_;rintro e w' ⟨rfl,rfl⟩))
  all_goals go_ret
  all_goals refine ⟨ret_bool ?_,rfl⟩
  all_goals (cases k <;> simp <;> omega)
theorem rname_of (s:ByteArray)(v:Bool)(w:World)(hs:s.size≤maxLen)(h:Hid (isNm s.data.toList=v)) :
    Calls Tryz.prog 43 #[.string s] w fun e w'=>e=.returned (.bool v)∧w=w':=by rw [← h.out];exact rname_any s w hs
theorem plain_next {s:ByteArray}{k:Nat}(h:(s.data.toList.take k).all isPl=true)(hlt:k < s.size)(hp:isPl s[k]=true):(s.data.toList.take (k+1)).all isPl=true:=by
 rw [List.take_add_one,dig_at' s k hlt,List.all_append,h]
 simp [hp]
theorem plain_bad {s:ByteArray}{k:Nat}(hlt:k < s.size)(hp:isPl s[k]=false):s.data.toList.all isPl=false:=by
 rw [List.all_eq_false]
 exact ⟨s[k],List.mem_of_getElem? (dig_at' s k hlt),by simp [hp]⟩
abbrev ba (l:List UInt8):ByteArray:=⟨l.toArray⟩
theorem ba_ext {a b:ByteArray}(h:a.data.toList=b.data.toList):a=b:=by
 cases a;cases b;simp at h;subst h;rfl
theorem esc_take {s:ByteArray}{k:Nat}(hlt:k < s.size):escL (s.data.toList.take (k+1))=escL (s.data.toList.take k) ++ (if s[k].toNat=34∨s[k].toNat=92 then [92,s[k]] else [s[k]]):=by
 rw [List.take_add_one,dig_at' s k hlt]
 simp [escL]
theorem esc_len (l:List UInt8):(escL l).length≤2*l.length:=by
 induction l with
 | nil=>simp [escL]
 | cons a l ih =>
  have e:escL (a :: l)=(if a.toNat=34∨a.toNat=92 then [92,a] else [a]) ++ escL l:=by simp [escL]
  rw [e,List.length_append,List.length_cons]
  split <;> simp <;> omega
def quoE (l:List UInt8):List UInt8 × Int:=if 32 < l.length then ([],2) else if l.all isPl then (quoL l,0) else ([],1)
theorem drop_at {s:ByteArray}{k:Nat}(h:k < s.size):s.data.toList.drop k=s[k] :: s.data.toList.drop (k+1):=by
 rw [List.drop_eq_getElem_cons (by rw [size_list];exact h)];rfl
theorem drop_end {s:ByteArray}{k:Nat}(h:s.size≤k):s.data.toList.drop k=[]:=List.drop_eq_nil_of_le (by rw [size_list];exact h)
theorem take_ne {l:List Tok}{j:Nat}(h:0 < j)(hl:0 < l.length):¬ (l.take j).isEmpty=true:=by
 have h5:0 < (l.take j).length:=by rw [List.length_take];omega
 cases e:l.take j with
 | nil=>rw [e] at h5;simp at h5
 | cons a r=>simp
end Go.Proofs.YtcdoicgbjoikkaaGreatDoor
