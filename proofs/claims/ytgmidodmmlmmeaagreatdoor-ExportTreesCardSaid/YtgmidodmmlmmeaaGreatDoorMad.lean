/-
  Numbers as tokens: the text of n thousandths has the form of a number and is read back; what Parse answers, as a pair. No function of the program is named here; no condition.
  Small facts on memory, walks and regions that the texts of every layer use. No function of the program is named here; no condition.
  What the small functions of the reference of layer 6 return: bytes, words, keywords, marks, names, plain contents, Quote. Conditions: none but a string's length.
-/
import Derived.Test.YtgmidodmmlmmeaaGreatDoorMac
import Derived.Lib.SmallJoins
import Derived.StillTailTactics
import Derived.Deep.RegionHeld3
import Derived.Deep.DeepCutAuto
import Derived.Deep.CutBlock
namespace Go.Proofs.YtgmidodmmlmmeaaGreatDoor.lex
open Go.RowKit
theorem lead_app (w f:List UInt8)(hw:w.all isDig=true)(hf:f=[]∨f.head?=some 46):lead (w ++ f)=w:=by
 have h:=lead_take (w ++ f) w.length (by simp) (by rw [List.take_left'];exact hw;rfl) (fun c hc=>by
  rw [List.getElem?_append_right (Nat.le_refl _),Nat.sub_self] at hc
  rcases hf with rfl | hf
  ·cases hc
  ·rw [← List.head?_eq_getElem?,hf] at hc
   rw [← Option.some.inj hc];rfl)
 rw [h,List.take_left' rfl]
theorem fmt_parse (n:Int):parseV (fmtL n)=if 268435456 < n.natAbs then ovfV else .tuple #[.int .i64 n,.int .i64 0]:=by
 obtain ⟨V,hV⟩:∃ V,n.natAbs / 1000=V:=⟨_,rfl⟩
 obtain ⟨p,hp⟩:∃ p,n.natAbs % 1000=p:=⟨_,rfl⟩
 have hm:n.natAbs=V*1000+p:=by omega
 have hp9:p≤999:=by omega
 rw [fmtL_eq n V p hm hp9]
 obtain ⟨f,hf⟩:∃ f,(if p=0 then [] else 46 :: Lib.trimRightB ((Lib.decDigits (1000+p)).drop 1) 48:List UInt8)=f:=⟨_,rfl⟩
 rw [hf]
 have hs:=dec_spec V
 have hfr:fracOf f=some p:=by
  rw [← hf]
  split
  ·rename_i h;rw [h];rfl
  ·rename_i h;exact frac_back p (by omega) hp9
 have hfh:f=[]∨f.head?=some 46:=by
  rw [← hf]
  split
  ·exact Or.inl rfl
  ·exact Or.inr rfl
 have hfn:f=[]→p=0:=by
  intro h
  rw [h] at hfr
  exact (Option.some.inj hfr).symm
 obtain ⟨w,hw⟩:∃ w,Lib.decDigits V=w:=⟨_,rfl⟩
 rw [hw] at hs ⊢
 obtain ⟨h1,h2,h3,h4⟩:=hs
 have hL:=lead_app w f h2 hfh
 have hD:(w ++ f).drop (lead (w ++ f)).length=f:=by rw [hL];exact List.drop_left' rfl
 have hhead:(w ++ f).head?=w.head?:=by
  cases w with
  | nil=>exact absurd rfl h3
  | cons a l=>rfl
 have hdig:∀ c,(w ++ f).head?=some c→isDig c=true:=by
  intro c hc
  rw [hhead] at hc
  cases w with
  | nil=>cases hc
  | cons a l =>
   rw [List.all_cons,Bool.and_eq_true] at h2
   rw [← Option.some.inj hc]
   exact h2.1
 have hgood:∀ neg:Bool,(neg=true→n < 0)→¬ ((lead (w ++ f)).length=0∨(1 < (lead (w ++ f)).length∧(w ++ f).head?=some 48)∨(neg=true∧w ++ f=[48])):=by
  rintro neg hn (h | h | h)
  ·rw [hL] at h;exact h3 (List.length_eq_zero_iff.1 h)
  ·rw [hL,hhead] at h;exact h4 h.1 h.2
  ·have hneg:=hn h.1
   have hwf:=h.2
   cases w with
   | nil=>exact h3 rfl
   | cons a l =>
    rw [List.cons_append,List.cons.injEq] at hwf
    have hlf:=List.append_eq_nil_iff.1 hwf.2
    have hp0:=hfn hlf.2
    have hv0:V=0:=by rw [← h1,hwf.1,hlf.1];rfl
    omega
 by_cases hn:n < 0
 ·rw [if_pos hn,List.append_assoc]
  have e:parseV ([45] ++ (w ++ f))=parseT true (w ++ f):=rfl
  rw [e,parseT_some (hgood true (fun _=>hn)) (by rw [hD];exact hfr),hL,h1,← hm]
  split
  ·rfl
  ·simp only [if_true]
   rw [show -((n.natAbs:Nat):Int)=n by omega]
 ·rw [if_neg hn,List.nil_append]
  have e:parseV (w ++ f)=parseT false (w ++ f):=by
   unfold parseV
   rw [if_neg]
   intro h
   have:=hdig 45 h
   cases this
  rw [e,parseT_some (hgood false (fun h=>by cases h)) (by rw [hD];exact hfr),hL,h1,← hm]
  split
  ·rfl
  ·simp only [Bool.false_eq_true,if_false]
   rw [show ((n.natAbs:Nat):Int)=n by omega]
theorem fmtL_le (n:Int)(h0:-9223372036854775808≤n)(h1:n≤9223372036854775807):(fmtL n).length≤100:=by
 rw [fmtL_eq n (n.natAbs / 1000) (n.natAbs % 1000) (by omega) (by omega),List.length_append,List.length_append]
 have g1:=dec_len (n.natAbs / 1000) (by omega)
 have g2:=dec_len (1000+n.natAbs % 1000) (by omega)
 have g3:(if n < 0 then [45] else ([]:List UInt8)).length≤1:=by split <;> simp
 have g4:(if n.natAbs % 1000=0 then [] else 46 :: Lib.trimRightB ((Lib.decDigits (1000+n.natAbs % 1000)).drop 1) 48:List UInt8).length≤21:=by
  split
  ·simp
  ·rw [List.length_cons]
   have:=trim_le ((Lib.decDigits (1000+n.natAbs % 1000)).drop 1) 48
   rw [List.length_drop] at this
   omega
 omega
def numAt:Option Value→Int
 | some (.int _ n)=>n
 | _=>0
def prL (l:List UInt8):Int × Int:=match parseV l with
 | .tuple vs=>(numAt vs[0]?,numAt vs[1]?)
 | _=>(0,4)
theorem prL_of {l:List UInt8}{n e:Int}(h:parseV l=.tuple #[.int .i64 n,.int .i64 e]):prL l=(n,e):=by unfold prL;rw [h];rfl
theorem parseV_pr (l:List UInt8):parseV l=.tuple #[.int .i64 (prL l).1,.int .i64 (prL l).2]:=by
 rcases parseV_ways l with h | h | ⟨n,h,_⟩
 ·rw [prL_of (n:=0) (e:=4) h];exact h
 ·rw [prL_of (n:=0) (e:=16) h];exact h
 ·rw [prL_of h];exact h
theorem prL_fmt (n:Int)(h0:-268435456≤n)(h1:n≤268435456):prL (fmtL n)=(n,0) :=
 prL_of (by rw [fmt_parse,if_neg (by omega)])
theorem prL_range (l:List UInt8)(h:(prL l).2=0):-268435456≤(prL l).1∧(prL l).1≤268435456:=by
 rcases parseV_ways l with e | e | ⟨n,e,h1,h2,_⟩
 ·rw [prL_of (n:=0) (e:=4) e] at h;cases h
 ·rw [prL_of (n:=0) (e:=16) e] at h;cases h
 ·rw [prL_of e];exact ⟨h1,h2⟩
end Go.Proofs.YtgmidodmmlmmeaaGreatDoor.lex
namespace Go.Proofs.YtgmidodmmlmmeaaGreatDoor
open Go.RowKit
theorem ret_bool {a b:Bool}(h:a=b):Ending.returned (.bool a)=.returned (.bool b):=by rw [h]
theorem ret_int {a b:Int}(h:a=b):Ending.returned (.int .i64 a)=.returned (.int .i64 b):=by rw [h]
theorem below_keep {W w1 w2:World}(h2:Below w1.heap.size w1 w2)(h1:Below W.heap.size W w1):Below W.heap.size W w2:=h1.trans (h2.mono h1.size)
theorem cell_keep {w1 w2:World}{b o:Nat}{v:Value}(h2:Below w1.heap.size w1 w2)(h1:w1.cell? ⟨b,o,none⟩=some v):w2.cell? ⟨b,o,none⟩=some v:=by
 rw [h2.cell (p:=⟨b,o,none⟩) (World.block_lt_of_cell? w1 _ h1)];exact h1
theorem al1 (w:World)(a:Obj):Below w.heap.size w (w.alloc a):=(Below.refl _ _).alloc (Nat.le_refl _) _
theorem al2 (w:World)(a b:Obj):Below w.heap.size w ((w.alloc a).alloc b):=(al1 w a).alloc (by simp) _
theorem al3 (w:World)(a b c:Obj):Below w.heap.size w (((w.alloc a).alloc b).alloc c):=(al2 w a b).alloc (by simp;omega) _
theorem fr_keep {w1 w2:World}{b o:Nat}{v:Value}(h2:Below w1.heap.size w1 w2)(h1:w1.cell? ⟨b,o,none⟩=some v)(h:w1.frozen? ⟨b,o,none⟩=false):w2.frozen? ⟨b,o,none⟩=false:=by
 rw [h2.frozen (p:=⟨b,o,none⟩) (World.block_lt_of_cell? w1 _ h1)];exact h
theorem set2 {B:Nat}{a w:World}{b:Nat}{v0 v1:Value}(h:Below B a w)(hb:B≤b):Below B a ((w.setCell ⟨b,0,none⟩ v0).setCell ⟨b,1,none⟩ v1) :=
 (h.setCell hb _).setCell hb _
theorem cell_later' {w1 w2:World}{a:Addr}{v:Value}(h2:Below w1.heap.size w1 w2)(h1:w1.cell? a=some v):w2.cell? a=some v:=by
 rw [h2.cell (World.block_lt_of_cell? w1 _ h1)];exact h1
theorem add_one_of (A:Addr)(j:Nat)(h:0 < j):A.add j=⟨A.block,A.off+j,none⟩:=by
 unfold Addr.add;rw [if_neg (by omega)]
theorem own_keep {W W':World}{B e size n:Nat}{v:Value}{xs:List Value}(h:W.ownsRow B e size v n xs)(hb:Below W.heap.size W W'):W'.ownsRow B e size v n xs:=by
 obtain ⟨h1,h2⟩:=h
 refine ⟨h1,h2.imp id ?_⟩
 rintro ⟨g,cap,cur,rfl,hg,hc,h3⟩
 have hlt:g < W.heap.size:=by
  rcases Nat.lt_or_ge g W.heap.size with h | h
  ·exact h
  ·rw [Array.getElem?_eq_none (by omega)] at hc;cases hc
 exact ⟨g,cap,cur,rfl,hg,by rw [hb.block g hlt];exact hc,h3⟩
theorem laidOut:laidOutB Tryz.prog=true:=by kernel_rfl
theorem Lh {p:Prop}(h:p):RowKit.Hid p:=Lib.hid h
theorem sA {α:Type _}{l:List α}{i:Nat}{a:α}:l.toArray.setIfInBounds i a=(l.set i a).toArray:=List.setIfInBounds_toArray ..
theorem sB {α:Type _}{x:α}{xs:List α}{a:α}:(x :: xs).set 0 a=a :: xs:=List.set_cons_zero ..
theorem sC {α:Type _}{x:α}{xs:List α}{n:Nat}{a:α}:(x :: xs).set (n+1) a=x :: xs.set n a:=List.set_cons_succ ..
end Go.Proofs.YtgmidodmmlmmeaaGreatDoor
namespace Go.Proofs.YtgmidodmmlmmeaaGreatDoor
open Go.RowKit lex
theorem dig_at' (s:ByteArray)(k:Nat)(h:k < s.size):s.data.toList[k]?=some s[k]:=by
 rw [List.getElem?_eq_getElem (by simpa using h)];rfl
theorem size_list (s:ByteArray):s.data.toList.length=s.size:=by simp
theorem list_nil {s:ByteArray}(h:s.size=0):s.data.toList=[]:=List.length_eq_zero_iff.1 (by rw [size_list];exact h)
theorem nil_yes {s:ByteArray}(h:s.size=0):(s.toList == [])=true:=by rw [ByteArray.toList_eq,list_nil h];rfl
theorem nil_no {s:ByteArray}(h:s.size≠0):(s.toList == [])=false:=by
 rw [ByteArray.toList_eq,beq_eq_false_iff_ne];intro e;exact h (by rw [← size_list,e];rfl)
theorem rletter_any (c:UInt8)(w:World) :
    Calls Tryz.prog 198 #[.int .u8 (c.toNat:Int)] w fun e w'=>e=.returned (.bool (isLet c))∧w=w':=by
 go_enter Tryz.func198,Tryz.ntmps198
 go_wp2
 all_goals go_ret
 all_goals refine ⟨ret_bool ?_,rfl⟩
 all_goals (unfold isLet;rw [Bool.eq_iff_iff];simp;omega)
theorem rdigit_any (c:UInt8)(w:World) :
    Calls Tryz.prog 199 #[.int .u8 (c.toNat:Int)] w fun e w'=>e=.returned (.bool (isDgt c))∧w=w':=by
 go_enter Tryz.func199,Tryz.ntmps199
 go_wp2
 all_goals go_ret
 all_goals refine ⟨ret_bool ?_,rfl⟩
 all_goals (unfold isDgt;rw [Bool.eq_iff_iff];simp;omega)
theorem rletter_of (c:UInt8)(v:Bool)(w:World)(h:Hid (isLet c=v)) :
    Calls Tryz.prog 198 #[.int .u8 (c.toNat:Int)] w fun e w'=>e=.returned (.bool v)∧w=w':=by rw [← h.out];exact rletter_any c w
theorem rdigit_of (c:UInt8)(v:Bool)(w:World)(h:Hid (isDgt c=v)) :
    Calls Tryz.prog 199 #[.int .u8 (c.toNat:Int)] w fun e w'=>e=.returned (.bool v)∧w=w':=by rw [← h.out];exact rdigit_any c w
set_option maxHeartbeats 1000000 in
theorem rword_any (s:ByteArray)(w:World)(hs:s.size≤maxLen) :
    Calls Tryz.prog 141 #[.string s] w fun e w'=>e=.returned (.int .i64 (wordLen s.data.toList:Int))∧w=w':=by
 unfold maxLen at hs
 obtain ⟨n,hn⟩:∃ v:Nat,wordLen s.data.toList=v:=⟨_,rfl⟩
 rw [hn]
 have HN:=Lh hn
 clear hn
 go_enter Tryz.func141,Tryz.ntmps141
 go_wp2
 go_loop [3] (fun v=>∃ k:Nat,k≤s.size∧v=.int .i64 k∧WordTo s.data.toList k) (fun v=>s.size - (intOf v).toNat)
 case atStart=>exact ⟨0,Nat.zero_le _,rfl,WordTo.zero _⟩
 case round =>
  obtain ⟨k,hk,rfl,hw⟩:=hrel
  have HW:=Lh hw
  clear hw
  by_cases hlt:k < s.size
  ·have HD:=Lh (dig_at' s k hlt)
   obtain ⟨a,ha⟩:∃ v,isLet s[k]=v:=⟨_,rfl⟩
   obtain ⟨b,hb⟩:∃ v,isDgt s[k]=v:=⟨_,rfl⟩
   have HA:=Lh ha
   have HB:=Lh hb
   clear ha hb
   have stop:okAt k s[k]=false→n=k:=fun e=>by
    rw [← HN.out]
    exact HW.out.stop (by rw [size_list];omega) (fun c hc=>by rw [HD.out] at hc;obtain rfl:=Option.some.inj hc;exact e)
   have STOP:=Lh stop
   clear stop
   cases a
   ·by_cases hk0:k=0
    ·obtain rfl:n=k:=STOP.out (by unfold okAt;rw [if_pos hk0];exact HA.out)
     have hd0:decide (0 < n)=false:=by simp;omega
     clear hk0
     go_wp2_with (go_at_call 198;refine (rletter_of _ _ _ HA).mono ?_;rintro e w' ⟨rfl,rfl⟩)
     go_ret
     exact ⟨rfl,rfl⟩
    ·have hk1:0 < k:=by omega
     have hd1:decide (0 < k)=true:=by simp;omega
     clear hk0
     cases b
     ·obtain rfl:n=k:=STOP.out (by unfold okAt isWd;rw [if_neg (by omega),HA.out,HB.out];rfl)
      go_wp2_with (first | (go_at_call 198;refine (rletter_of _ _ _ HA).mono ?_;rintro e w' ⟨rfl,rfl⟩) | (go_at_call 199;refine (rdigit_of _ _ _ HB).mono ?_;rintro e w' ⟨rfl,rfl⟩))
      go_ret
      exact ⟨rfl,rfl⟩
     ·have HK:=Lh (show okAt k s[k]=true by unfold okAt isWd;rw [if_neg (by omega),HA.out,HB.out];rfl)
      go_wp2_with (first | (go_at_call 198;refine (rletter_of _ _ _ HA).mono ?_;rintro e w' ⟨rfl,rfl⟩) | (go_at_call 199;refine (rdigit_of _ _ _ HB).mono ?_;rintro e w' ⟨rfl,rfl⟩))
      go_round
      case rel=>exact ⟨k+1,by omega,by go_num,HW.out.next HD.out HK.out⟩
      case measure=>simp [intOf];omega
   ·have HK:=Lh (show okAt k s[k]=true by unfold okAt isWd;rw [HA.out];simp)
    go_wp2_with (go_at_call 198;refine (rletter_of _ _ _ HA).mono ?_;rintro e w' ⟨rfl,rfl⟩)
    go_round
    case rel=>exact ⟨k+1,by omega,by go_num,HW.out.next HD.out HK.out⟩
    case measure=>simp [intOf];omega
  ·obtain rfl:k=s.size:=by omega
   obtain rfl:n=s.size:=by
    rw [← HN.out]
    exact HW.out.stop (by rw [size_list];omega) (fun c hc=>by rw [List.getElem?_eq_none (by rw [size_list];omega)] at hc;cases hc)
   go_wp2
   go_ret
   exact ⟨rfl,rfl⟩
theorem rkw_any (s:ByteArray)(w:World) :
    Calls Tryz.prog 142 #[.string s] w fun e w'=>e=.returned (.bool (isKw s.data.toList))∧w=w':=by
 go_enter Tryz.func142,Tryz.ntmps142
 go_wp2
 all_goals go_ret
 all_goals refine ⟨ret_bool ?_,rfl⟩
 all_goals (rw [← ByteArray.toList_eq];unfold isKw kws;simp_all)
theorem rkw_of (s:ByteArray)(v:Bool)(w:World)(h:Hid (isKw s.data.toList=v)) :
    Calls Tryz.prog 142 #[.string s] w fun e w'=>e=.returned (.bool v)∧w=w':=by rw [← h.out];exact rkw_any s w
theorem rword_of (s:ByteArray)(n:Nat)(w:World)(hs:s.size≤maxLen)(h:Hid (wordLen s.data.toList=n)) :
    Calls Tryz.prog 141 #[.string s] w fun e w'=>e=.returned (.int .i64 (n:Int))∧w=w':=by rw [← h.out];exact rword_any s w hs
set_option maxHeartbeats 1000000 in
theorem rname_any (s:ByteArray)(w:World)(hs:s.size≤maxLen) :
    Calls Tryz.prog 77 #[.string s] w fun e w'=>e=.returned (.bool (isNm s.data.toList))∧w=w':=by
 have hm:=hs
 unfold maxLen at hs
 obtain ⟨n,hn⟩:∃ v:Nat,wordLen s.data.toList=v:=⟨_,rfl⟩
 obtain ⟨k,hk⟩:∃ v:Bool,isKw s.data.toList=v:=⟨_,rfl⟩
 have HN:=Lh hn
 have HK:=Lh hk
 have HR:Hid (isNm s.data.toList=(decide (0 < s.size) && decide (n=s.size) && decide (s.size≤16) && !k)):=Lh (by
  unfold isNm
  rw [hn,hk,size_list]
  congr 3
  by_cases h:s.size=0
  ·rw [list_nil h];simp [h]
  ·rw [decide_eq_true (by omega)]
   cases hl:s.data.toList with
   | nil=>exact absurd (by rw [← size_list,hl];rfl) h
   | cons a t=>rfl)
 rw [HR.out]
 clear HR hn hk
 by_cases h0:s.size=0
 ·have hemp:(s.toList == [])=true:=nil_yes h0
  have hd:decide (0 < s.size)=false:=by simp [h0]
  rw [hd]
  clear h0 hd
  go_enter Tryz.func77,Tryz.ntmps77
  go_wp2
  go_ret
  exact ⟨rfl,rfl⟩
 ·have hemp:(s.toList == [])=false:=nil_no h0
  have hd:decide (0 < s.size)=true:=by simp;omega
  rw [hd]
  clear h0 hd
  go_enter Tryz.func77,Tryz.ntmps77
  go_wp2_with (first | (go_at_call 141;refine (rword_of _ _ _ hm HN).mono ?_;rintro e w' ⟨rfl,rfl⟩) | (go_at_call 142;refine (rkw_of _ _ _ HK).mono ?_;rintro e w' ⟨rfl,rfl⟩))
  all_goals go_ret
  all_goals refine ⟨ret_bool ?_,rfl⟩
  all_goals (cases k <;> simp <;> omega)
theorem rname_of (s:ByteArray)(v:Bool)(w:World)(hs:s.size≤maxLen)(h:Hid (isNm s.data.toList=v)) :
    Calls Tryz.prog 77 #[.string s] w fun e w'=>e=.returned (.bool v)∧w=w':=by rw [← h.out];exact rname_any s w hs
theorem plain_next {s:ByteArray}{k:Nat}(h:(s.data.toList.take k).all isPl=true)(hlt:k < s.size)(hp:isPl s[k]=true):(s.data.toList.take (k+1)).all isPl=true:=by
 rw [List.take_add_one,dig_at' s k hlt,List.all_append,h]
 simp [hp]
theorem plain_bad {s:ByteArray}{k:Nat}(hlt:k < s.size)(hp:isPl s[k]=false):s.data.toList.all isPl=false:=by
 rw [List.all_eq_false]
 exact ⟨s[k],List.mem_of_getElem? (dig_at' s k hlt),by simp [hp]⟩
set_option maxHeartbeats 1000000 in
theorem rplain_any (s:ByteArray)(w:World)(hs:s.size≤maxLen) :
    Calls Tryz.prog 282 #[.string s] w fun e w'=>e=.returned (.bool (s.data.toList.all isPl))∧w=w':=by
 unfold maxLen at hs
 obtain ⟨v,hv⟩:∃ v:Bool,s.data.toList.all isPl=v:=⟨_,rfl⟩
 rw [hv]
 have HV:=Lh hv
 clear hv
 go_enter Tryz.func282,Tryz.ntmps282
 go_wp2
 go_loop [3] (fun v=>∃ k:Nat,k≤s.size∧v=.int .i64 k∧(s.data.toList.take k).all isPl=true) (fun v=>s.size - (intOf v).toNat)
 case atStart=>exact ⟨0,Nat.zero_le _,rfl,rfl⟩
 case round =>
  obtain ⟨k,hk,rfl,hw⟩:=hrel
  have HW:=Lh hw
  clear hw
  by_cases hlt:k < s.size
  ·by_cases h1:(s[k].toNat:Int) < 32
   ·have HP:=Lh (plain_bad hlt (by unfold isPl;simp;omega))
    go_wp2
    go_ret
    exact ⟨ret_bool (by rw [← HV.out,HP.out]),rfl⟩
   ·by_cases h2:126 < (s[k].toNat:Int)
    ·have HP:=Lh (plain_bad hlt (by unfold isPl;simp;omega))
     go_wp2
     go_ret
     exact ⟨ret_bool (by rw [← HV.out,HP.out]),rfl⟩
    ·have HP:=Lh (plain_next HW.out hlt (by unfold isPl;simp;omega))
     go_wp2
     go_round
     case rel=>exact ⟨k+1,by omega,by go_num,HP.out⟩
     case measure=>simp [intOf];omega
  ·obtain rfl:k=s.size:=by omega
   have HP:Hid (s.data.toList.all isPl=true):=Lh (by have:=HW.out;rw [List.take_of_length_le (by rw [size_list];omega)] at this;exact this)
   go_wp2
   go_ret
   exact ⟨ret_bool (by rw [← HV.out,HP.out]),rfl⟩
theorem rplain_of (s:ByteArray)(v:Bool)(w:World)(hs:s.size≤maxLen)(h:Hid (s.data.toList.all isPl=v)) :
    Calls Tryz.prog 282 #[.string s] w fun e w'=>e=.returned (.bool v)∧w=w':=by rw [← h.out];exact rplain_any s w hs
end Go.Proofs.YtgmidodmmlmmeaaGreatDoor
