/-
  What Format of layer 1 and of its reference return: both the same text, for every int. Conditions: the table of powers of ten holds what the library lays.
  Plain facts on the form of a number: the digits of a number make it, and a text of that form is the text of its value. No program is named here; no condition.
-/
import Derived.Test.YtgmidodmmlmmeaaGreatDoorText
import Derived.Test.YtgmidodmmlmmeaaGreatDoorMac
namespace Go.Proofs.YtgmidodmmlmmeaaGreatDoor
open Go.RowKit Go.Sort
def fmtL (n:Int):List UInt8 :=
 (if n < 0 then [45] else []) ++ Lib.decDigits (n.natAbs / 1000) ++ (if n.natAbs % 1000=0 then [] else 46 :: Lib.trimRightB ((Lib.decDigits (1000+n.natAbs % 1000)).drop 1) 48)
set_option maxHeartbeats 1000000 in
theorem format_any (n:Int)(w:World)(h0:-9223372036854775808≤n)(h1:n≤9223372036854775807)(htab:Tab w) :
    Calls Tryz.prog 136 #[.int .i64 n] w fun e w'=>e=.returned (.string ⟨(fmtL n).toArray⟩)∧Below w.heap.size w w':=by
 obtain ⟨m,hm⟩:∃ m,n.natAbs=m:=⟨_,rfl⟩
 have hm1:m≤9223372036854775808:=by omega
 obtain ⟨l1,e1⟩:∃ l,Lib.decDigits (m / 1000)=l:=⟨_,rfl⟩
 obtain ⟨l2,e2⟩:∃ l,Lib.decDigits (1000+m % 1000)=l:=⟨_,rfl⟩
 obtain ⟨l3,e3⟩:∃ l,Lib.trimRightB (l2.drop 1) 48=l:=⟨_,rfl⟩
 have g1:l1.length≤20:=by rw [← e1];exact dec_len _ (by omega)
 have g2:l2.length≤20:=by rw [← e2];exact dec_len _ (by omega)
 have g3:1≤l2.length:=by rw [← e2,Lib.decDigits_length];exact Lib.nDigits_pos _
 have HF:Hid (fmtL n=(if n < 0 then [45] else []) ++ l1 ++ (if m % 1000=0 then [] else 46 :: l3)):=Lib.hid (by rw [fmtL,hm,e1,e2,e3])
 have HM:=Lib.hid hm
 have HT:=Lib.hid htab
 have E1:=Lib.hid e1
 have E2:=Lib.hid e2
 clear hm htab e1 e2
 have g4:l3.length≤20:=by rw [← e3];have:=trim_le (l2.drop 1) 48;rw [List.length_drop] at this;omega
 have E3:Hid (Lib.trimRightB ((⟨l2.toArray⟩:ByteArray).extract 1 l2.length).data.toList 48=l3):=Lib.hid (by rw [ba_drop];exact e3)
 clear e3
 by_cases hn:n < 0 <;> by_cases hr:m % 1000=0
 ·go_enter Tryz.func136,Tryz.ntmps136
  go_wp2_with (go_at_call 191;refine (magnitude_of _ m _ (by omega) (by omega) HM).mono ?_;rintro e w' ⟨rfl,rfl⟩)
  refine (formatUint_pub _ _ l1 (by omega) (by omega) _ HT (by simp) E1).mono ?_
  rintro e w1 ⟨rfl,hb⟩
  go_wp2
  go_ret
  refine ⟨?_,hb⟩
  show Ending.returned (Value.string ((⟨[45].toArray⟩:ByteArray) ++ ⟨l1.toArray⟩))=_
  rw [HF.out,if_pos hn,if_pos hr,ba_app,List.append_nil]
 ·go_enter Tryz.func136,Tryz.ntmps136
  go_wp2_with (go_at_call 191;refine (magnitude_of _ m _ (by omega) (by omega) HM).mono ?_;rintro e w' ⟨rfl,rfl⟩)
  refine (formatUint_pub _ _ l1 (by omega) (by omega) _ HT (by simp) E1).mono ?_
  rintro e w1 ⟨rfl,hb⟩
  go_wp2_with fail
  refine (formatUint_pub _ _ l2 (by omega) (by omega) _ (Lib.hid (tab_below HT.out hb)) (by simp) E2).mono ?_
  rintro e w2 ⟨rfl,hb2⟩
  go_wp2_with fail
  refine (trimRight_of _ l3 _ (by have:=ba_drop_size l2 1;omega) E3).mono ?_
  rintro e w' ⟨rfl,rfl⟩
  go_wp2
  go_ret
  refine ⟨?_,hb.trans (hb2.mono hb.size)⟩
  show Ending.returned (Value.string (((⟨[45].toArray⟩:ByteArray) ++ ⟨l1.toArray⟩) ++ ⟨[46].toArray⟩ ++ ⟨l3.toArray⟩))=_
  rw [HF.out,if_pos hn,if_neg hr,ba_app,ba_app,ba_app,List.append_assoc ([45] ++ l1)]
  rfl
 ·go_enter Tryz.func136,Tryz.ntmps136
  go_wp2_with (go_at_call 191;refine (magnitude_of _ m _ (by omega) (by omega) HM).mono ?_;rintro e w' ⟨rfl,rfl⟩)
  refine (formatUint_pub _ _ l1 (by omega) (by omega) _ HT (by simp) E1).mono ?_
  rintro e w1 ⟨rfl,hb⟩
  go_wp2
  go_ret
  refine ⟨?_,hb⟩
  show Ending.returned (Value.string ⟨l1.toArray⟩)=_
  rw [HF.out,if_neg (by omega),if_pos hr,List.append_nil,List.nil_append]
 ·go_enter Tryz.func136,Tryz.ntmps136
  go_wp2_with (go_at_call 191;refine (magnitude_of _ m _ (by omega) (by omega) HM).mono ?_;rintro e w' ⟨rfl,rfl⟩)
  refine (formatUint_pub _ _ l1 (by omega) (by omega) _ HT (by simp) E1).mono ?_
  rintro e w1 ⟨rfl,hb⟩
  go_wp2_with fail
  refine (formatUint_pub _ _ l2 (by omega) (by omega) _ (Lib.hid (tab_below HT.out hb)) (by simp) E2).mono ?_
  rintro e w2 ⟨rfl,hb2⟩
  go_wp2_with fail
  refine (trimRight_of _ l3 _ (by have:=ba_drop_size l2 1;omega) E3).mono ?_
  rintro e w' ⟨rfl,rfl⟩
  go_wp2
  go_ret
  refine ⟨?_,hb.trans (hb2.mono hb.size)⟩
  show Ending.returned (Value.string ((⟨l1.toArray⟩:ByteArray) ++ ⟨[46].toArray⟩ ++ ⟨l3.toArray⟩))=_
  rw [HF.out,if_neg (by omega),if_neg hr,ba_app,ba_app,List.nil_append,List.append_assoc l1]
  rfl
end Go.Proofs.YtgmidodmmlmmeaaGreatDoor
namespace Go.Proofs.YtgmidodmmlmmeaaGreatDoor
theorem valL_app (l r:List UInt8):valL (l ++ r)=valL l*10 ^ r.length+valL r:=by
 have key:∀ (r:List UInt8) (v:Nat),r.foldl (fun v c=>10*v+(c.toNat - 48)) v=v*10 ^ r.length+valL r:=by
  intro r
  induction r with
  | nil=>intro v;simp [valL]
  | cons c r ih =>
   intro v
   have e:valL (c :: r)=(10*0+(c.toNat - 48))*10 ^ r.length+valL r:=by
    show r.foldl _ (10*0+(c.toNat - 48))=_
    exact ih _
   rw [List.foldl_cons,ih,e,List.length_cons,Nat.pow_succ]
   simp only [Nat.add_mul,Nat.mul_comm 10 v,Nat.mul_assoc,Nat.mul_comm 10 (10 ^ r.length),Nat.mul_zero,Nat.zero_add]
   omega
 unfold valL
 rw [List.foldl_append,key]
 rfl
theorem valL_cons (c:UInt8)(r:List UInt8):valL (c :: r)=(c.toNat - 48)*10 ^ r.length+valL r:=by
 have:=valL_app [c] r
 simpa [valL] using this
theorem dig_range {c:UInt8}(h:isDig c=true):48≤c.toNat∧c.toNat≤57:=by simpa [isDig] using h
theorem dig_of {c:UInt8}(h:48≤c.toNat∧c.toNat≤57):isDig c=true:=by simpa [isDig] using h
theorem u8_of {k:Nat}(h:k < 10):(UInt8.ofNat (48+k)).toNat=48+k:=by
 rw [UInt8.toNat_ofNat'];omega
theorem valL_pos {c:UInt8}{r:List UInt8}(hc:isDig c=true)(h48:c≠48):10 ^ r.length≤valL (c :: r):=by
 rw [valL_cons]
 have h:=dig_range hc
 have:c.toNat≠48:=fun e=>h48 (UInt8.toNat_inj.1 e)
 have h2:1*10 ^ r.length≤(c.toNat - 48)*10 ^ r.length:=Nat.mul_le_mul_right _ (by omega)
 omega
theorem dec_valL (w:List UInt8)(ha:w.all isDig=true)(hne:w≠[])(h0:1 < w.length→w.head?≠some 48):Lib.decDigits (valL w)=w:=by
 induction hn:w.length generalizing w with
 | zero=>exact absurd (List.length_eq_zero_iff.1 hn) hne
 | succ k ih =>
  obtain ⟨l,c,rfl⟩:∃ l c,w=l ++ [c]:=⟨w.dropLast,w.getLast hne,(List.dropLast_concat_getLast hne).symm⟩
  rw [List.all_append,Bool.and_eq_true] at ha
  have hc:isDig c=true:=by simpa using ha.2
  have hr:=dig_range hc
  have hl:l.length=k:=by simpa using hn
  rw [valL_snoc]
  cases l with
  | nil =>
   rw [valL_nil,Lib.decDigits,dif_pos (by omega)]
   simp only [List.nil_append,List.cons.injEq,and_true]
   exact UInt8.toNat_inj.1 (by rw [u8_of (by omega)];omega)
  | cons a l =>
   have ha1:isDig a=true:=by simp only [List.all_cons,Bool.and_eq_true] at ha;exact ha.1.1
   have h48:a≠48:=by
    intro e
    exact h0 (by simp) (by rw [e];rfl)
   have hpos:=valL_pos (r:=l) ha1 h48
   have h1:1≤10 ^ l.length:=Nat.one_le_pow _ _ (by decide)
   rw [Lib.decDigits,dif_neg (by omega)]
   rw [show (10*valL (a :: l)+(c.toNat - 48)) / 10=valL (a :: l) by omega,show (10*valL (a :: l)+(c.toNat - 48)) % 10=c.toNat - 48 by omega]
   rw [ih (a :: l) ha.1 (by simp) (fun _=>by simpa using h48) hl]
   have:UInt8.ofNat (48+(c.toNat - 48))=c:=UInt8.toNat_inj.1 (by rw [u8_of (by omega)];omega)
   rw [this]
theorem dec_spec (u:Nat):valL (Lib.decDigits u)=u∧(Lib.decDigits u).all isDig=true∧Lib.decDigits u≠[]∧(1 < (Lib.decDigits u).length→(Lib.decDigits u).head?≠some 48):=by
 induction u using Nat.strongRecOn with
 | _ u ih =>
  by_cases h:u < 10
  ·rw [Lib.decDigits,dif_pos h]
   refine ⟨?_,?_,by simp,by simp⟩
   ·rw [valL_cons,u8_of h];simp [valL]
   ·simp only [List.all_cons,List.all_nil,Bool.and_true]
    exact dig_of (by rw [u8_of h];omega)
  ·have hi:=ih (u / 10) (by omega)
   rw [Lib.decDigits,dif_neg h]
   refine ⟨?_,?_,by simp,fun _=>?_⟩
   ·rw [valL_snoc,hi.1,u8_of (by omega)];omega
   ·rw [List.all_append,hi.2.1]
    simp only [List.all_cons,List.all_nil,Bool.and_true,Bool.true_and]
    exact dig_of (by rw [u8_of (by omega)];omega)
   ·obtain ⟨a,l,hal⟩:∃ a l,Lib.decDigits (u / 10)=a :: l:=by
      cases hd:Lib.decDigits (u / 10) with
      | nil=>exact absurd hd hi.2.2.1
      | cons a l=>exact ⟨a,l,rfl⟩
    rw [hal] at hi ⊢
    simp only [List.cons_append,List.head?_cons,ne_eq,Option.some.injEq]
    intro e
    subst e
    cases l with
    | nil=>have:=hi.1;rw [valL_cons] at this;simp [valL] at this;omega
    | cons b l=>exact hi.2.2.2 (by simp) rfl
theorem valL_zeros (k:Nat):valL (List.replicate k 48)=0:=by
 induction k with
 | zero=>rfl
 | succ k ih=>rw [List.replicate_succ,valL_cons,ih];simp
theorem valL_pad (d:List UInt8):valL (d ++ List.replicate (3 - d.length) 48)=pad (valL d) d.length 3:=by
 rw [valL_app,valL_zeros,List.length_replicate];rfl
theorem trim_pad (d:List UInt8)(k:Nat)(hl:d.getLast?≠some 48):Lib.trimRightB (d ++ List.replicate k 48) 48=d:=by
 rw [Lib.trimRightB_take (d ++ List.replicate k 48) 48 d.length (by simp) ?_ ?_]
 ·simp
 ·intro j b hj hb
  rw [List.getElem?_append_right hj,List.getElem?_replicate] at hb
  split at hb
  ·exact (Option.some.inj hb).symm
  ·cases hb
 ·intro b h0 hb hbc
  subst hbc
  rw [List.getElem?_append_left (by omega)] at hb
  rw [List.getLast?_eq_getElem?] at hl
  exact hl hb
theorem last_pos (d:List UInt8)(ha:d.all isDig=true)(h1:1≤d.length)(hl:d.getLast?≠some 48):1≤valL d:=by
 obtain ⟨l,c,rfl⟩:∃ l c,d=l ++ [c]:=⟨d.dropLast,d.getLast (by intro h;rw [h] at h1;simp at h1),(List.dropLast_concat_getLast _).symm⟩
 rw [List.all_append,Bool.and_eq_true] at ha
 have hr:=dig_range (c:=c) (by simpa using ha.2)
 have:c.toNat≠48:=fun e=>hl (by rw [List.getLast?_append];simp;exact UInt8.toNat_inj.1 e)
 rw [valL_snoc]
 omega
theorem frac_text (d:List UInt8)(ha:d.all isDig=true)(h1:1≤d.length)(h3:d.length≤3)(hl:d.getLast?≠some 48) :
    1≤pad (valL d) d.length 3∧pad (valL d) d.length 3≤999∧Lib.trimRightB ((Lib.decDigits (1000+pad (valL d) d.length 3)).drop 1) 48=d:=by
 have hz:=valL_pad d
 have hall:(d ++ List.replicate (3 - d.length) 48).all isDig=true:=by
  rw [List.all_append,ha]
  simp only [List.all_replicate,Bool.true_and]
  split <;> rfl
 have hlen:(d ++ List.replicate (3 - d.length) 48).length=3:=by simp;omega
 have hlt:=valL_lt _ hall
 rw [hlen,hz] at hlt
 refine ⟨?_,by omega,?_⟩
 ·have:=last_pos d ha h1 hl
  unfold pad
  have h2:1*1≤valL d*10 ^ (3 - d.length):=Nat.mul_le_mul this (Nat.one_le_pow _ _ (by decide))
  omega
 ·have e:1000+pad (valL d) d.length 3=valL (49 :: (d ++ List.replicate (3 - d.length) 48)):=by
    rw [valL_cons,hlen,hz];rfl
  rw [e,dec_valL _ (by rw [List.all_cons,hall];rfl) (by simp) (fun _=>by simp)]
  exact trim_pad d _ hl
theorem trim_split (l:List UInt8):l=Lib.trimRightB l 48 ++ List.replicate (l.length - (Lib.trimRightB l 48).length) 48∧(Lib.trimRightB l 48).getLast?≠some 48:=by
 have h:=List.takeWhile_append_dropWhile (p:=fun b:UInt8=>b == 48) (l:=l.reverse)
 have h2:l=(l.reverse.dropWhile fun b:UInt8=>b == 48).reverse ++ (l.reverse.takeWhile fun b:UInt8=>b == 48).reverse:=by
  rw [← List.reverse_append,h,List.reverse_reverse]
 have hall:∀ b∈(l.reverse.takeWhile fun b:UInt8=>b == 48).reverse,b=48:=by
  intro b hb
  have:=List.all_takeWhile (p:=fun b:UInt8=>b == 48) (l:=l.reverse)
  rw [List.all_eq_true] at this
  exact eq_of_beq (this b (by simpa using hb))
 have hlen:=congrArg List.length h2
 rw [List.length_append] at hlen
 constructor
 ·unfold Lib.trimRightB
  rw [show l.length - (l.reverse.dropWhile fun b:UInt8=>b == 48).reverse.length=(l.reverse.takeWhile fun b:UInt8=>b == 48).reverse.length by omega]
  rw [← List.eq_replicate_of_mem hall]
  exact h2
 ·unfold Lib.trimRightB
  rw [List.getLast?_reverse]
  intro h3
  have:=List.head?_dropWhile_not (fun b:UInt8=>b == 48) l.reverse
  rw [h3] at this
  simp at this
theorem frac_back (r:Nat)(h1:1≤r)(h2:r≤999):fracOf (46 :: Lib.trimRightB ((Lib.decDigits (1000+r)).drop 1) 48)=some r:=by
 have hs:=dec_spec (1000+r)
 have hl:(Lib.decDigits (1000+r)).length=4:=by rw [Lib.decDigits_length];exact Lib.nDigits_unique 3 _ (by omega) (by omega)
 obtain ⟨c,x,hcx⟩:∃ c x,Lib.decDigits (1000+r)=c :: x:=by
  cases h:Lib.decDigits (1000+r) with
  | nil=>exact absurd h hs.2.2.1
  | cons c x=>exact ⟨c,x,rfl⟩
 rw [hcx] at hs hl ⊢
 have hx3:x.length=3:=by simpa using hl
 have hxa:x.all isDig=true:=by have:=hs.2.1;rw [List.all_cons,Bool.and_eq_true] at this;exact this.2
 have hxv:=valL_lt x hxa
 have hv:=hs.1
 rw [valL_cons] at hv
 rw [hx3] at hv hxv
 have hvx:valL x=r:=by omega
 show fracOf (46 :: Lib.trimRightB x 48)=some r
 have ht:=trim_split x
 obtain ⟨d,hd⟩:∃ d,Lib.trimRightB x 48=d:=⟨_,rfl⟩
 rw [hd] at ht ⊢
 have hdl:d.length≤3:=by rw [← hd,← hx3];exact trim_le x 48
 rw [hx3] at ht
 have hpad:=valL_pad d
 rw [← ht.1,hvx] at hpad
 have hda:d.all isDig=true:=by
  rw [ht.1,List.all_append,Bool.and_eq_true] at hxa
  exact hxa.1
 have hd1:1≤d.length:=by
  cases d with
  | nil=>simp [pad,valL] at hpad;omega
  | cons a d=>simp
 rw [hpad]
 exact if_pos ⟨rfl,hd1,hdl,hda,ht.2⟩
theorem lead_nonempty {t:List UInt8}(h:(lead t).length≠0):lead t≠[]:=fun e=>h (by rw [e];rfl)
theorem lead_head {t:List UInt8}(h:(lead t).length≠0):(lead t).head?=t.head?:=by
 have e:=lead_eq_take t
 rw [e,List.head?_take,if_neg (by omega)]
theorem lead_dec {t:List UInt8}(h0:(lead t).length≠0)(h1:¬ (1 < (lead t).length∧t.head?=some 48)):Lib.decDigits (valL (lead t))=lead t :=
 dec_valL (lead t) (List.all_eq_true.2 (lead_all t)) (lead_nonempty h0) (fun hl h=>h1 ⟨hl,by rw [← lead_head h0];exact h⟩)
theorem fracOf_some {r:List UInt8}{p:Nat}(h:fracOf r=some p):(r=[]∧p=0)∨∃ d,r=46 :: d∧1≤p∧p≤999∧Lib.trimRightB ((Lib.decDigits (1000+p)).drop 1) 48=d:=by
 cases r with
 | nil=>exact Or.inl ⟨rfl,(Option.some.inj h).symm⟩
 | cons c d =>
  by_cases hc:c=46∧1≤d.length∧d.length≤3∧d.all isDig=true∧d.getLast?≠some 48
  ·have e:fracOf (c :: d)=some (pad (valL d) d.length 3):=if_pos hc
   rw [e] at h
   obtain rfl:=Option.some.inj h
   obtain ⟨rfl,g1,g2,g3,g4⟩:=hc
   have:=frac_text d g3 g1 g2 g4
   exact Or.inr ⟨d,rfl,this.1,this.2.1,this.2.2⟩
  ·have e:fracOf (c :: d)=none:=if_neg hc
   rw [e] at h
   cases h
theorem fmtL_eq (n:Int)(V p:Nat)(hm:n.natAbs=V*1000+p)(hp:p≤999):fmtL n=(if n < 0 then [45] else []) ++ Lib.decDigits V ++ (if p=0 then [] else 46 :: Lib.trimRightB ((Lib.decDigits (1000+p)).drop 1) 48):=by
 unfold fmtL
 rw [hm,show (V*1000+p) / 1000=V by omega,show (V*1000+p) % 1000=p by omega]
theorem valL_zero_lead {t:List UInt8}(h0:(lead t).length≠0)(h1:¬ (1 < (lead t).length∧t.head?=some 48))(hv:valL (lead t)=0):lead t=[48]:=by
 have h:=lead_dec h0 h1
 rw [hv] at h
 rw [← h,Lib.decDigits,dif_pos (by omega)]
 rfl
theorem parseT_ways (neg:Bool)(t:List UInt8):parseT neg t=synV∨parseT neg t=ovfV ∨
    ∃ n:Int,parseT neg t=.tuple #[.int .i64 n,.int .i64 0]∧-268435456≤n∧n≤268435456∧fmtL n=(if neg then [45] else []) ++ t:=by
 by_cases hb:(lead t).length=0∨(1 < (lead t).length∧t.head?=some 48)∨(neg=true∧t=[48])
 ·exact Or.inl (parseT_bad hb)
 ·cases hf:fracOf (t.drop (lead t).length) with
  | none=>exact Or.inl (parseT_none hf)
  | some p =>
   have e:=parseT_some hb hf
   by_cases ho:268435456 < valL (lead t)*1000+p
   ·rw [if_pos ho] at e
    exact Or.inr (Or.inl e)
   ·rw [if_neg ho] at e
    have h0:(lead t).length≠0:=fun h=>hb (Or.inl h)
    have h1:¬ (1 < (lead t).length∧t.head?=some 48):=fun h=>hb (Or.inr (Or.inl h))
    have hdec:=lead_dec h0 h1
    have hsplit:lead t ++ t.drop (lead t).length=t:=by
     have:=lead_eq_take t
     rw [this,List.length_take,Nat.min_eq_left (lead_length t)]
     exact List.take_append_drop _ _
    have hfr:=fracOf_some hf
    have hp:p≤999:=by
     rcases hfr with ⟨_,rfl⟩ | ⟨d,_,_,h,_⟩
     ·omega
     ·exact h
    have htail:(if p=0 then [] else 46 :: Lib.trimRightB ((Lib.decDigits (1000+p)).drop 1) 48)=t.drop (lead t).length:=by
     rcases hfr with ⟨hr,rfl⟩ | ⟨d,hr,hp1,_,hd⟩
     ·rw [if_pos rfl,hr]
     ·rw [if_neg (by omega),hd,hr]
    refine Or.inr (Or.inr ?_)
    cases neg with
    | false =>
     refine ⟨_,e,?_,?_,?_⟩
     ·simp only [Bool.false_eq_true,if_false];omega
     ·simp only [Bool.false_eq_true,if_false];omega
     ·simp only [Bool.false_eq_true,if_false,List.nil_append]
      rw [fmtL_eq _ (valL (lead t)) p (by omega) hp,if_neg (by omega),hdec,htail,List.nil_append]
      exact hsplit
    | true =>
     refine ⟨_,e,?_,?_,?_⟩
     ·simp only [if_true];omega
     ·simp only [if_true];omega
     ·simp only [if_true]
      have hpos:0 < valL (lead t)*1000+p:=by
       rcases Nat.eq_zero_or_pos (valL (lead t)*1000+p) with hz | hz
       ·have hv:valL (lead t)=0:=by omega
        have hp0:p=0:=by omega
        have hw:=valL_zero_lead h0 h1 hv
        rcases hfr with ⟨hr,_⟩ | ⟨d,_,hp1,_,_⟩
        ·rw [hr,List.append_nil,hw] at hsplit
         exact absurd (Or.inr (Or.inr ⟨rfl,hsplit.symm⟩)) hb
        ·omega
       ·exact hz
      rw [fmtL_eq _ (valL (lead t)) p (by omega) hp,if_pos (by omega),hdec,htail,List.append_assoc,hsplit]
theorem parseV_ways (l:List UInt8):parseV l=synV∨parseV l=ovfV ∨
    ∃ n:Int,parseV l=.tuple #[.int .i64 n,.int .i64 0]∧-268435456≤n∧n≤268435456∧fmtL n=l:=by
 unfold parseV
 by_cases h:l.head?=some 45
 ·obtain ⟨t,rfl⟩:∃ t,l=45 :: t:=by
    cases l with
    | nil=>cases h
    | cons a t=>obtain rfl:=Option.some.inj h;exact ⟨t,rfl⟩
  rw [if_pos h]
  simpa using parseT_ways true t
 ·rw [if_neg h]
  simpa using parseT_ways false l
end Go.Proofs.YtgmidodmmlmmeaaGreatDoor
