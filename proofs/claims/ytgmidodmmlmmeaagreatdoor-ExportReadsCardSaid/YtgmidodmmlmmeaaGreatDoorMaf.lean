/-
  Numbers as tokens: the text of n thousandths has the form of a number and is read back; what Parse answers, as a pair. No function of the program is named here; no condition.
  Small facts on memory, walks and regions that the texts of every layer use. No function of the program is named here; no condition.
-/
import Derived.Test.YtgmidodmmlmmeaaGreatDoorMae
import Derived.Test.YtgmidodmmlmmeaaGreatDoorLexPlain
import Derived.Lib.SmallJoins
import Derived.StillTailTactics
import Derived.Deep.RegionHeld3
import Derived.Deep.DeepCutAuto
import Derived.Deep.CutBlock
namespace Go.Proofs.YtgmidodmmlmmeaaGreatDoor.lex
open Go.RowKit
theorem lead_app (w f:List UInt8)(hw:w.all isDig=true)(hf:f=[]∨f.head?=some 46):lead (w ++ f)=w:=by
 have h:=lead_take (w ++ f) w.length (by simp) (by rw [List.take_left'];exact hw;rfl) (fun c hc=>by
  rw [List.getElem?_append_right (Nat.le_refl _),Nat.sub_self] at hc
  rcases hf with rfl | hf
  ·cases hc
  ·rw [← List.head?_eq_getElem?,hf] at hc
   rw [← Option.some.inj hc];rfl)
 rw [h,List.take_left' rfl]
theorem fmt_parse (n:Int):parseV (fmtL n)=if 268435456 < n.natAbs then ovfV else .tuple #[.int .i64 n,.int .i64 0]:=by
 obtain ⟨V,hV⟩:∃ V,n.natAbs / 1000=V:=⟨_,rfl⟩
 obtain ⟨p,hp⟩:∃ p,n.natAbs % 1000=p:=⟨_,rfl⟩
 have hm:n.natAbs=V*1000+p:=by omega
 have hp9:p≤999:=by omega
 rw [fmtL_eq n V p hm hp9]
 obtain ⟨f,hf⟩:∃ f,(if p=0 then [] else 46 :: Lib.trimRightB ((Lib.decDigits (1000+p)).drop 1) 48:List UInt8)=f:=⟨_,rfl⟩
 rw [hf]
 have hs:=dec_spec V
 have hfr:fracOf f=some p:=by
  rw [← hf]
  split
  ·rename_i h;rw [h];rfl
  ·rename_i h;exact frac_back p (by omega) hp9
 have hfh:f=[]∨f.head?=some 46:=by
  rw [← hf]
  split
  ·exact Or.inl rfl
  ·exact Or.inr rfl
 have hfn:f=[]→p=0:=by
  intro h
  rw [h] at hfr
  exact (Option.some.inj hfr).symm
 obtain ⟨w,hw⟩:∃ w,Lib.decDigits V=w:=⟨_,rfl⟩
 rw [hw] at hs ⊢
 obtain ⟨h1,h2,h3,h4⟩:=hs
 have hL:=lead_app w f h2 hfh
 have hD:(w ++ f).drop (lead (w ++ f)).length=f:=by rw [hL];exact List.drop_left' rfl
 have hhead:(w ++ f).head?=w.head?:=by
  cases w with
  | nil=>exact absurd rfl h3
  | cons a l=>rfl
 have hdig:∀ c,(w ++ f).head?=some c→isDig c=true:=by
  intro c hc
  rw [hhead] at hc
  cases w with
  | nil=>cases hc
  | cons a l =>
   rw [List.all_cons,Bool.and_eq_true] at h2
   rw [← Option.some.inj hc]
   exact h2.1
 have hgood:∀ neg:Bool,(neg=true→n < 0)→¬ ((lead (w ++ f)).length=0∨(1 < (lead (w ++ f)).length∧(w ++ f).head?=some 48)∨(neg=true∧w ++ f=[48])):=by
  rintro neg hn (h | h | h)
  ·rw [hL] at h;exact h3 (List.length_eq_zero_iff.1 h)
  ·rw [hL,hhead] at h;exact h4 h.1 h.2
  ·have hneg:=hn h.1
   have hwf:=h.2
   cases w with
   | nil=>exact h3 rfl
   | cons a l =>
    rw [List.cons_append,List.cons.injEq] at hwf
    have hlf:=List.append_eq_nil_iff.1 hwf.2
    have hp0:=hfn hlf.2
    have hv0:V=0:=by rw [← h1,hwf.1,hlf.1];rfl
    omega
 by_cases hn:n < 0
 ·rw [if_pos hn,List.append_assoc]
  have e:parseV ([45] ++ (w ++ f))=parseT true (w ++ f):=rfl
  rw [e,parseT_some (hgood true (fun _=>hn)) (by rw [hD];exact hfr),hL,h1,← hm]
  split
  ·rfl
  ·simp only [if_true]
   rw [show -((n.natAbs:Nat):Int)=n by omega]
 ·rw [if_neg hn,List.nil_append]
  have e:parseV (w ++ f)=parseT false (w ++ f):=by
   unfold parseV
   rw [if_neg]
   intro h
   have:=hdig 45 h
   cases this
  rw [e,parseT_some (hgood false (fun h=>by cases h)) (by rw [hD];exact hfr),hL,h1,← hm]
  split
  ·rfl
  ·simp only [Bool.false_eq_true,if_false]
   rw [show ((n.natAbs:Nat):Int)=n by omega]
theorem fmtL_le (n:Int)(h0:-9223372036854775808≤n)(h1:n≤9223372036854775807):(fmtL n).length≤100:=by
 rw [fmtL_eq n (n.natAbs / 1000) (n.natAbs % 1000) (by omega) (by omega),List.length_append,List.length_append]
 have g1:=dec_len (n.natAbs / 1000) (by omega)
 have g2:=dec_len (1000+n.natAbs % 1000) (by omega)
 have g3:(if n < 0 then [45] else ([]:List UInt8)).length≤1:=by split <;> simp
 have g4:(if n.natAbs % 1000=0 then [] else 46 :: Lib.trimRightB ((Lib.decDigits (1000+n.natAbs % 1000)).drop 1) 48:List UInt8).length≤21:=by
  split
  ·simp
  ·rw [List.length_cons]
   have:=trim_le ((Lib.decDigits (1000+n.natAbs % 1000)).drop 1) 48
   rw [List.length_drop] at this
   omega
 omega
def numAt:Option Value→Int
 | some (.int _ n)=>n
 | _=>0
def prL (l:List UInt8):Int × Int:=match parseV l with
 | .tuple vs=>(numAt vs[0]?,numAt vs[1]?)
 | _=>(0,4)
theorem prL_of {l:List UInt8}{n e:Int}(h:parseV l=.tuple #[.int .i64 n,.int .i64 e]):prL l=(n,e):=by unfold prL;rw [h];rfl
theorem parseV_pr (l:List UInt8):parseV l=.tuple #[.int .i64 (prL l).1,.int .i64 (prL l).2]:=by
 rcases parseV_ways l with h | h | ⟨n,h,_⟩
 ·rw [prL_of (n:=0) (e:=4) h];exact h
 ·rw [prL_of (n:=0) (e:=16) h];exact h
 ·rw [prL_of h];exact h
theorem prL_fmt (n:Int)(h0:-268435456≤n)(h1:n≤268435456):prL (fmtL n)=(n,0) :=
 prL_of (by rw [fmt_parse,if_neg (by omega)])
theorem prL_range (l:List UInt8)(h:(prL l).2=0):-268435456≤(prL l).1∧(prL l).1≤268435456:=by
 rcases parseV_ways l with e | e | ⟨n,e,h1,h2,_⟩
 ·rw [prL_of (n:=0) (e:=4) e] at h;cases h
 ·rw [prL_of (n:=0) (e:=16) e] at h;cases h
 ·rw [prL_of e];exact ⟨h1,h2⟩
theorem dig_nb {l:List UInt8}(h:l.all isDig=true):l.all isNb=true:=by
 rw [List.all_eq_true] at h ⊢
 intro c hc
 have:isDgt c=true:=h c hc
 simp [isNb,isWd,this]
theorem trim_dig {l:List UInt8}(h:l.all isDig=true):(Lib.trimRightB l 48).all isDig=true:=by
 rw [List.all_eq_true] at h ⊢
 intro c hc
 refine h c ?_
 have hs:=(trim_split l).1
 rw [hs]
 exact List.mem_append_left _ hc
theorem fmt_form (n:Int):numForm (fmtL n):=by
 obtain ⟨V,hV⟩:∃ V,n.natAbs / 1000=V:=⟨_,rfl⟩
 obtain ⟨p,hp⟩:∃ p,n.natAbs % 1000=p:=⟨_,rfl⟩
 rw [fmtL_eq n V p (by omega) (by omega)]
 obtain ⟨_,h2,h3,_⟩:=dec_spec V
 obtain ⟨_,d2,_,_⟩:=dec_spec (1000+p)
 have ht:(if p=0 then [] else 46 :: Lib.trimRightB ((Lib.decDigits (1000+p)).drop 1) 48:List UInt8).all isNb=true:=by
  split
  ·rfl
  ·have hd:((Lib.decDigits (1000+p)).drop 1).all isDig=true:=by
     rw [List.all_eq_true] at d2 ⊢
     exact fun c hc=>d2 c (List.mem_of_mem_drop hc)
   rw [List.all_cons,dig_nb (trim_dig hd)]
   rfl
 generalize (if p=0 then [] else 46 :: Lib.trimRightB ((Lib.decDigits (1000+p)).drop 1) 48:List UInt8)=f at ht ⊢
 cases hw:Lib.decDigits V with
 | nil=>exact absurd hw h3
 | cons c t =>
  rw [hw,List.all_cons,Bool.and_eq_true] at h2
  refine ⟨c,t ++ f,h2.1,by rw [List.all_append,dig_nb h2.2,ht];rfl,?_⟩
  by_cases hn:n < 0
  ·rw [if_pos hn];exact Or.inr rfl
  ·rw [if_neg hn];exact Or.inl rfl
end Go.Proofs.YtgmidodmmlmmeaaGreatDoor.lex
namespace Go.Proofs.YtgmidodmmlmmeaaGreatDoor
open Go.RowKit
theorem ret_bool {a b:Bool}(h:a=b):Ending.returned (.bool a)=.returned (.bool b):=by rw [h]
theorem ret_int {a b:Int}(h:a=b):Ending.returned (.int .i64 a)=.returned (.int .i64 b):=by rw [h]
theorem below_keep {W w1 w2:World}(h2:Below w1.heap.size w1 w2)(h1:Below W.heap.size W w1):Below W.heap.size W w2:=h1.trans (h2.mono h1.size)
theorem cell_keep {w1 w2:World}{b o:Nat}{v:Value}(h2:Below w1.heap.size w1 w2)(h1:w1.cell? ⟨b,o,none⟩=some v):w2.cell? ⟨b,o,none⟩=some v:=by
 rw [h2.cell (p:=⟨b,o,none⟩) (World.block_lt_of_cell? w1 _ h1)];exact h1
theorem al1 (w:World)(a:Obj):Below w.heap.size w (w.alloc a):=(Below.refl _ _).alloc (Nat.le_refl _) _
theorem al2 (w:World)(a b:Obj):Below w.heap.size w ((w.alloc a).alloc b):=(al1 w a).alloc (by simp) _
theorem al3 (w:World)(a b c:Obj):Below w.heap.size w (((w.alloc a).alloc b).alloc c):=(al2 w a b).alloc (by simp;omega) _
theorem fr_keep {w1 w2:World}{b o:Nat}{v:Value}(h2:Below w1.heap.size w1 w2)(h1:w1.cell? ⟨b,o,none⟩=some v)(h:w1.frozen? ⟨b,o,none⟩=false):w2.frozen? ⟨b,o,none⟩=false:=by
 rw [h2.frozen (p:=⟨b,o,none⟩) (World.block_lt_of_cell? w1 _ h1)];exact h
theorem set4 {B:Nat}{a w:World}{b:Nat}{v0 v1 v2 v3:Value}(h:Below B a w)(hb:B≤b):Below B a ((((w.setCell ⟨b,0,none⟩ v0).setCell ⟨b,1,none⟩ v1).setCell ⟨b,2,none⟩ v2).setCell ⟨b,3,none⟩ v3) :=
 (((h.setCell hb _).setCell hb _).setCell hb _).setCell hb _
theorem set2 {B:Nat}{a w:World}{b:Nat}{v0 v1:Value}(h:Below B a w)(hb:B≤b):Below B a ((w.setCell ⟨b,0,none⟩ v0).setCell ⟨b,1,none⟩ v1) :=
 (h.setCell hb _).setCell hb _
theorem cell_later' {w1 w2:World}{a:Addr}{v:Value}(h2:Below w1.heap.size w1 w2)(h1:w1.cell? a=some v):w2.cell? a=some v:=by
 rw [h2.cell (World.block_lt_of_cell? w1 _ h1)];exact h1
theorem add_one_of (A:Addr)(j:Nat)(h:0 < j):A.add j=⟨A.block,A.off+j,none⟩:=by
 unfold Addr.add;rw [if_neg (by omega)]
theorem own_keep {W W':World}{B e size n:Nat}{v:Value}{xs:List Value}(h:W.ownsRow B e size v n xs)(hb:Below W.heap.size W W'):W'.ownsRow B e size v n xs:=by
 obtain ⟨h1,h2⟩:=h
 refine ⟨h1,h2.imp id ?_⟩
 rintro ⟨g,cap,cur,rfl,hg,hc,h3⟩
 have hlt:g < W.heap.size:=by
  rcases Nat.lt_or_ge g W.heap.size with h | h
  ·exact h
  ·rw [Array.getElem?_eq_none (by omega)] at hc;cases hc
 exact ⟨g,cap,cur,rfl,hg,by rw [hb.block g hlt];exact hc,h3⟩
theorem cell4_new (w:World)(a b c d:Value)(t:TypeId):∀ j u,[a,b,c,d][j]?=some u→(w.alloc (.cells #[a,b,c,d] t)).cell? ((⟨w.heap.size,0,none⟩:Addr).add j)=some u:=by
 intro j u hj
 match j,hj with
 | 0,hj=>simp at hj;subst hj;simp [Addr.add]
 | 1,hj=>simp at hj;subst hj;simp [Addr.add]
 | 2,hj=>simp at hj;subst hj;simp [Addr.add]
 | 3,hj=>simp at hj;subst hj;simp [Addr.add]
 | (j+4),hj=>simp at hj
theorem laidOut:laidOutB Tryz.prog=true:=by kernel_rfl
theorem Lh {p:Prop}(h:p):RowKit.Hid p:=Lib.hid h
theorem sA {α:Type _}{l:List α}{i:Nat}{a:α}:l.toArray.setIfInBounds i a=(l.set i a).toArray:=List.setIfInBounds_toArray ..
theorem sB {α:Type _}{x:α}{xs:List α}{a:α}:(x :: xs).set 0 a=a :: xs:=List.set_cons_zero ..
theorem sC {α:Type _}{x:α}{xs:List α}{n:Nat}{a:α}:(x :: xs).set (n+1) a=x :: xs.set n a:=List.set_cons_succ ..
end Go.Proofs.YtgmidodmmlmmeaaGreatDoor
