/-
  What Quote of the lexer returns. Condition: a text's length.
  What is asked of the code of layer 6: each exported function answers as its plain function says. The statements' walks take it as a premise; a text of its own proves it. No condition.
  What leadingToken of the lexer returns. Condition: a text of at most 20000 bytes, and not empty.
  What Tokenize of the lexer returns. Condition: a text's length.
  The landed code of layer 6 answers as its plain functions say. No condition.
-/
import Derived.Test.YtgmidodmmlmmeaaGreatDoorMxb
namespace Go.Proofs.YtgmidodmmlmmeaaGreatDoor
open Go.RowKit lex
theorem byt_far {w:World}{B k p:Nat}{v:Value}{l:List UInt8}{s:ByteArray}(h:Byt w B v l)(hk:w.heap[k]?=some (.stringIter s p)):v.ownBlock≠some k:=by
 rcases h.2 with ⟨rfl,_⟩ | ⟨g,cap,cur,rfl,_,hg,_⟩
 ·intro e;cases e
 ·intro e
  have e2:g=k:=Option.some.inj e
  rw [e2,hk] at hg;cases hg
theorem Byt.iter2 {w:World}{B k p:Nat}{v:Value}{l:List UInt8}{s:ByteArray}(h:Byt w B v l)(hk:w.heap[k]?=some (.stringIter s p))(q:Nat):Byt (w.iterAt k s q) B v l :=
 World.ownsRow.kept (row:=some k) h ⟨rfl,rfl,rfl,by rw [Lib.iterAt_size];exact Nat.le_refl _,fun j _ hj=>Lib.iterAt_other w k j s q (fun e=>hj (by rw [e]))⟩ (Or.inr (byt_far h hk))
theorem grown_iter {w w':World}{B k p:Nat}{v:Value}{l:List UInt8}{s:ByteArray}(h:Byt w B v l)(hg:w.grownBy w' v.ownBlock)(hk:w.heap[k]?=some (.stringIter s p)):w'.heap[k]?=some (.stringIter s p):=by
 rw [hg.block k (Array.getElem?_eq_some_iff.1 hk).1 (fun e=>byt_far h hk e.symm)]
 exact hk
theorem app_byte {w:World}{ops:Array Oper}{rest:List Oper}{o:Oper}{a:Act}{Q:Exit→Act→World→Prop}(hg:o.guard=none)(x y:Operand)(ho:o.op=.call { callee:=.builtin .append,args:=#[x,y],argTypes:=#[147,147] })
    (B:Nat) (v:Value) (l:List UInt8) (c:UInt8) (b:Int) (hs:a.eval x=v) (hx:a.eval y=.slice (some ⟨w.heap.size,0,none⟩) 1 1) (h:Hid (Byt w B v l)) (hb:Hid (b=(c.toNat:Int))) (hl:l.length≤1000000) (hB:B≤w.heap.size)
    (hK:∀ v' w',Byt w' B v' (l ++ [c])→w.grownBy w' v.ownBlock→wpList Tryz.prog ops Q rest (a.put o.dst v') w'):wpList Tryz.prog ops Q (o :: rest) a (w.alloc (.cells #[.int .u8 b] 5)):=by
 obtain ⟨i0,hi,hz0,hz1,hz2⟩:=info_byte
 refine wpList_append_own _ hg x y 147 ho B 5 i0 (.int .u8 0) 1 1 Tryz.underlying147 hi hz0 hz1 hz2 rfl (by decide) v l.length _ hs (World.ownsRow.alloc h.out _) ⟨w.heap.size,0,none⟩ 1 1 [.int .u8 b] hx rfl (cell1_new _ _ _) (by simp [Value.oneCell']) (by unfold maxLen;omega) (by omega) (by simp;omega) ?_
 intro v' w' hown hgrow _
 refine hK v' w' ?_ ?_
 ·unfold Byt;rw [byt_snoc,List.length_append,← hb.out];exact hown
 ·refine ⟨hgrow.os,hgrow.tape,hgrow.output,Nat.le_trans (by simp) hgrow.size,fun k hk hne=>?_⟩
  rw [hgrow.block k (by simp;omega) hne,heap_alloc_old w _ hk]
set_option maxHeartbeats 8000000 in
theorem quote_near (s:ByteArray)(q:List UInt8)(e0:Int)(w:World)(hs:s.size≤32)(h:Hid (quoE s.data.toList=(q,e0))) :
    Calls Tryz.prog 185 #[.string s] w fun e w'=>e=.returned (.tuple #[.string (ba q),.int .i64 e0])∧Below w.heap.size w w':=by
 have hq:=h.out
 unfold quoE at hq
 rw [size_list,if_neg (by omega)] at hq
 have HQ:=Lh hq
 have hsi:¬ (32:Int) < (s.size:Int):=by omega
 clear h hq
 go_enter Tryz.func185,Tryz.ntmps185
 go_wp2_with fail
 go_loopg [4] s.size (fun gf out wx=>∃ (p:Nat) (o:List UInt8),p≤s.size∧s.size≤p+gf∧o=34 :: escL (s.data.toList.take p)∧(s.data.toList.take p).all isPl=true ∧
  wx.heap[w.heap.size+1]?=some (.stringIter s p)∧Byt wx w.heap.size out o∧Below w.heap.size w wx)
 case atStart =>
  refine ⟨0,[34],Nat.zero_le _,by omega,rfl,rfl,?_,?_,(al1 ..).alloc (by simp) _⟩
  ·simpa using World.iter_heap (w.alloc (.cells #[.int .u8 34] 5)) s 0
  ·exact (World.ownsRow_lit w #[.int .u8 34] 1 (Nat.le_refl _) (by decide) rfl).alloc _
 case round =>
  obtain ⟨p,o,hp,hfu,ho,hall,hit,hby,hB⟩:=hrel
  have HO:=Lh ho
  have HALL:=Lh hall
  have hol:o.length≤100:=by
   rw [ho,List.length_cons]
   have:=esc_len (s.data.toList.take p)
   rw [List.length_take] at this
   omega
  have hsw:w.heap.size+1 < wr.heap.size:=(Array.getElem?_eq_some_iff.1 hit).1
  clear ho hall
  by_cases hps:p < s.size
  ·obtain ⟨g',rfl⟩:∃ g',gk=g'+1:=⟨gk - 1,by omega⟩
   have hnx:∀ ty,(Instr.next (.pointer (some ⟨w.heap.size+1,0,none⟩)) true ty).run Tryz.prog wr=_:=fun ty=>Lib.run_next_any_at wr (w.heap.size+1) s p ty hit hps
   obtain ⟨r1,r2,r3,r4,r5⟩:=rune_at s p hps
   have HET:=Lh (esc_take hps)
   obtain ⟨R,hR⟩:∃ R,(Utf8.decode s p).1=R:=⟨_,rfl⟩
   obtain ⟨K,hK⟩:∃ K,(Utf8.decode s p).2=K:=⟨_,rfl⟩
   rw [hR,hK] at hnx r3
   rw [hR] at r1 r2 r4
   have hit2:=Lib.iterAt_heap wr (w.heap.size+1) s p (p+K) hit
   have hby2:=hby.iter2 hit (p+K)
   have hB2:=Lib.below_iterAt hB (k:=w.heap.size+1) (by omega) s (p+K)
   have hs2:w.heap.size+1 < (wr.iterAt (w.heap.size+1) s (p+K)).heap.size:=by rw [Lib.iterAt_size];exact hsw
   obtain ⟨W,hW⟩:∃ W,wr.iterAt (w.heap.size+1) s (p+K)=W:=⟨_,rfl⟩
   rw [hW] at hnx hit2 hby2 hB2 hs2
   clear hit hby hB hW hR hK hsw r2 r5
   cases hpl:isPl s[p]
   ·have HN:Hid (q=[]∧e0=1):=Lh (by
      have:=HQ.out
      rw [plain_bad hps hpl,if_neg (by decide)] at this
      obtain ⟨a,b⟩:=Prod.mk.inj this
      exact ⟨a.symm,b.symm⟩)
    obtain ⟨rfl,rfl⟩:=HN.out
    have HP:Hid (plN R=false):=Lh (by rw [r1,hpl])
    clear r1 r3 hpl HN HET
    go_wp2_with (go_at_call 238;refine (isPrintable_of _ _ _ HP).mono ?_;rintro e w' ⟨rfl,rfl⟩)
    go_ret2
    exact ⟨rfl,hB2⟩
   ·obtain ⟨rb,rfl⟩:=r3 hpl
    have HP:Hid (plN R=true):=Lh (by rw [r1,hpl])
    have HA2:=Lh (plain_next HALL.out hps hpl)
    obtain ⟨x,hx⟩:∃ x,esN R=x:=⟨_,rfl⟩
    have HX:=Lh hx
    have hx2:x=decide (s[p].toNat=34∨s[p].toNat=92):=by rw [← hx,← rb];rfl
    have hR255:R≤255:=by have:=s[p].toNat_lt;omega
    have HRB:Hid ((R:Int)=(s[p].toNat:Int)):=Lh (by omega)
    have HBY:=Lh hby2
    cases x
    ·have HN:Hid (o ++ [s[p]]=34 :: escL (s.data.toList.take (p+1))):=Lh (by rw [HO.out,HET.out,if_neg (of_decide_eq_false hx2.symm)];rfl)
     clear r1 r3 hpl hx hx2 rb HET HO hby2
     go_wp2_with (first | (go_at_call 238;refine (isPrintable_of _ _ _ HP).mono ?_;rintro e w' ⟨rfl,rfl⟩) | (go_at_call 239;refine (isEscaped_of _ _ _ HX).mono ?_;rintro e w' ⟨rfl,rfl⟩) | (at_builtin;refine app_byte rfl (.tmp 24) (.tmp 27) rfl w.heap.size _ o s[p] _ rfl rfl HBY HRB (by omega) (by omega) ?_;intro v3 w3 hby3 hgrow3;have hit3:=grown_iter HBY.out hgrow3 hit2;have hB3:=hB2.grown hgrow3 (by omega) (fun q hq=>(World.ownsRow.lt HBY.out q hq).1);clear hgrow3))
     go_roundg g'
     case measure=>omega
     case rel=>exact ⟨p+1,_,by omega,by omega,HN.out,HA2.out,hit3,hby3,hB3⟩
    ·have HN:Hid (o ++ [92] ++ [s[p]]=34 :: escL (s.data.toList.take (p+1))):=Lh (by rw [HO.out,HET.out,if_pos (of_decide_eq_true hx2.symm)];simp)
     clear r1 r3 hpl hx hx2 rb HET HO hby2
     go_wp2_with (first | (go_at_call 238;refine (isPrintable_of _ _ _ HP).mono ?_;rintro e w' ⟨rfl,rfl⟩) | (go_at_call 239;refine (isEscaped_of _ _ _ HX).mono ?_;rintro e w' ⟨rfl,rfl⟩) | (at_builtin;refine app_byte rfl (.tmp 21) (.tmp 22) rfl w.heap.size _ o 92 _ rfl rfl HBY (Lh rfl) (by omega) (by omega) ?_;intro v3 w3 hby3 hgrow3;have hit3:=grown_iter HBY.out hgrow3 hit2;have hB3:=hB2.grown hgrow3 (by omega) (fun q hq=>(World.ownsRow.lt HBY.out q hq).1);have hs3:=hB3.size;have hw3:w.heap.size+1 < w3.heap.size:=(Array.getElem?_eq_some_iff.1 hit3).1;have HBY3:=Lh hby3;clear hgrow3 hby3) | (at_builtin;refine app_byte rfl (.tmp 24) (.tmp 27) rfl w.heap.size _ (o ++ [92]) s[p] _ rfl rfl HBY3 HRB (by simp;omega) (by omega) ?_;intro v4 w4 hby4 hgrow4;have hit4:=grown_iter HBY3.out hgrow4 hit3;have hB4:=hB3.grown hgrow4 (by omega) (fun q hq=>(World.ownsRow.lt HBY3.out q hq).1);clear hgrow4))
     go_roundg g'
     case measure=>omega
     case rel=>exact ⟨p+1,_,by omega,by omega,HN.out,HA2.out,hit4,hby4,hB4⟩
  ·obtain rfl:p=s.size:=by omega
   have hnx:∀ ty,(Instr.next (.pointer (some ⟨w.heap.size+1,0,none⟩)) true ty).run Tryz.prog wr=_:=fun ty=>Lib.run_next_end_at wr (w.heap.size+1) s s.size ty hit hps
   have HL:Hid (s.data.toList.take s.size=s.data.toList):=Lh (by rw [← size_list,List.take_length])
   have HN:Hid (q=o ++ [34]∧e0=0):=Lh (by
    have:=HQ.out
    rw [← HL.out,HALL.out,if_pos rfl,HL.out] at this
    obtain ⟨a,b⟩:=Prod.mk.inj this
    refine ⟨?_,b.symm⟩
    rw [← a,HO.out,HL.out];rfl)
   obtain ⟨rfl,rfl⟩:=HN.out
   have HBY:=Lh hby
   clear HN HO HQ hby
   go_wp2_with (at_builtin;refine app_byte rfl (.tmp 29) (.tmp 30) rfl w.heap.size _ o 34 _ rfl rfl HBY (Lh rfl) (by omega) (by omega) ?_;intro v3 w3 hby3 hgrow3;have hcv:=hby3.conv;have hB3:=hB.grown hgrow3 (by omega) (fun q hq=>(World.ownsRow.lt HBY.out q hq).1);clear hgrow3 hby3)
   go_ret2
   exact ⟨rfl,hB3⟩
theorem quote_any (s:ByteArray)(q:List UInt8)(e0:Int)(w:World)(_:s.size≤maxLen)(h:Hid (quoE s.data.toList=(q,e0))) :
    Calls Tryz.prog 185 #[.string s] w fun e w'=>e=.returned (.tuple #[.string (ba q),.int .i64 e0])∧Below w.heap.size w w':=by
 by_cases hz:32 < s.size
 ·have hr:=h.out
  unfold quoE at hr
  rw [size_list,if_pos hz] at hr
  obtain ⟨rfl,rfl⟩:=Prod.mk.inj hr
  have hzi:(32:Int) < (s.size:Int):=by omega
  clear hr h hz
  go_enter Tryz.func185,Tryz.ntmps185
  go_wp2
  go_ret2
  exact ⟨rfl,Below.refl _ _⟩
 ·exact quote_near s q e0 w (by omega) h
theorem tw_take (p:UInt8→Bool):∀ (l:List UInt8) (m:Nat),(l.takeWhile p).length≤m→((l.take m).takeWhile p).length=(l.takeWhile p).length:=by
 intro l
 induction l with
 | nil=>intro m _;simp
 | cons a t ih =>
  intro m hm
  cases h:p a
  ·cases m <;> simp [h]
  ·rw [List.takeWhile_cons,h] at hm
   simp only [if_true,List.length_cons] at hm
   obtain ⟨m',rfl⟩:∃ m',m=m'+1:=⟨m - 1,by omega⟩
   rw [List.take_succ_cons,List.takeWhile_cons,h,List.takeWhile_cons,h]
   simp only [if_true,List.length_cons]
   rw [ih m' (by omega)]
theorem word_take (l:List UInt8):wordLen (l.take (wordLen l))=wordLen l:=by
 cases l with
 | nil=>rfl
 | cons a t =>
  rw [wordLen_cons]
  by_cases h:isLet a=true
  ·rw [if_pos h,List.take_succ_cons,wordLen_cons,if_pos h,tw_take isWd t _ (Nat.le_refl _)]
  ·rw [if_neg h];rfl
theorem wrd_take (l:List UInt8)(h:0 < wordLen l):wrdC (l.take (wordLen l))=if isKw (l.take (wordLen l)) then (⟨2,l.take (wordLen l),0,0⟩,wordLen l,0) else if 16 < wordLen l then (zeroT,0,2) else (⟨1,l.take (wordLen l),0,0⟩,wordLen l,0):=by
 have hl:(l.take (wordLen l)).length=wordLen l:=by rw [List.length_take];have:=wordLen_le l;omega
 unfold wrdC
 rw [hl]
 by_cases hk:isKw (l.take (wordLen l))=true
 ·rw [if_pos hk,if_pos hk]
 ·rw [if_neg hk,if_neg hk]
  have hne:(l.take (wordLen l)).isEmpty=false:=by
   cases e:l.take (wordLen l) with
   | nil=>rw [e] at hl;simp at hl;omega
   | cons a t=>rfl
  have hn:isNm (l.take (wordLen l))=decide (wordLen l≤16):=by
   unfold isNm
   rw [hl,word_take,hne]
   simp only [Bool.not_eq_true] at hk
   rw [hk]
   simp
  rw [hn]
  by_cases h16:16 < wordLen l
  ·rw [if_pos h16,if_neg (by simp;omega)]
  ·rw [if_neg h16,if_pos (by simp;omega)]
def tokC (l:List UInt8):Tok × Nat × Int:=if (oneL prL l).2.2=0 then oneL prL l else (zeroT,0,(oneL prL l).2.2)
theorem tokC_of {l:List UInt8}{r:Tok × Nat × Int}(h:oneL prL l=r):tokC l=if r.2.2=0 then r else (zeroT,0,r.2.2):=by unfold tokC;rw [h]
theorem tokC_word (l:List UInt8)(h:0 < wordLen l):tokC l=wrdC (l.take (wordLen l)):=by
 rw [wrd_take l h]
 have e:oneL prL l=if isKw (l.take (wordLen l)) then (⟨2,l.take (wordLen l),0,0⟩,wordLen l,0) else if 16 < wordLen l then (⟨0,[],0,0⟩,0,2) else (⟨1,l.take (wordLen l),0,0⟩,wordLen l,0):=by unfold oneL;rw [if_pos h]
 rw [tokC_of e]
 by_cases hk:isKw (l.take (wordLen l))=true
 ·simp only [if_pos hk];rfl
 ·simp only [if_neg hk]
  by_cases h16:16 < wordLen l
  ·simp only [if_pos h16];rfl
  ·simp only [if_neg h16];rfl
theorem tokC_num (l:List UInt8)(h0:wordLen l=0)(h:0 < numLen l):tokC l=numC (l.take (numLen l)):=by
 have hl:(l.take (numLen l)).length=numLen l:=by rw [List.length_take];have:=numLen_le l;omega
 have e:oneL prL l=(⟨3,[],(prL (l.take (numLen l))).1,0⟩,numLen l,(prL (l.take (numLen l))).2):=by unfold oneL;rw [if_neg (by omega),if_pos h]
 rw [tokC_of e]
 unfold numC
 rw [hl]
 by_cases he:(prL (l.take (numLen l))).2=0
 ·simp only [if_pos he];rw [he]
 ·simp only [if_neg he]
theorem tokC_str (l:List UInt8)(h0:wordLen l=0)(h1:numLen l=0)(h:l.head?=some 34):tokC l=strR (strL (l.drop 1) [] 1):=by
 have e:oneL prL l=(⟨4,(strL l.tail [] 1).1,0,0⟩,(strL l.tail [] 1).2.1,(strL l.tail [] 1).2.2):=by unfold oneL;rw [if_neg (by omega),if_neg (by omega),if_pos h]
 rw [tokC_of e,List.drop_one]
 unfold strR
 by_cases he:(strL l.tail [] 1).2.2=0
 ·simp only [if_pos he];rw [he]
 ·simp only [if_neg he]
theorem tokC_mark (l:List UInt8)(hl:0 < l.length)(h0:wordLen l=0)(h1:numLen l=0)(h:l.head?≠some 34):tokC l=if (markL l).isEmpty then (zeroT,0,4) else (⟨5,markL l,0,0⟩,(markL l).length,0):=by
 have e:oneL prL l=if 1 < l.length∧isMk (l.take 2)=true then (⟨5,l.take 2,0,0⟩,2,0) else if isMk (l.take 1) then (⟨5,l.take 1,0,0⟩,1,0) else (⟨0,[],0,0⟩,0,4):=by unfold oneL;rw [if_neg (by omega),if_neg (by omega),if_neg h]
 rw [tokC_of e]
 unfold markL
 by_cases h2:1 < l.length∧isMk (l.take 2)=true
 ·simp only [if_pos h2]
  have hz:(l.take 2).length=2:=by rw [List.length_take];omega
  have:(l.take 2).isEmpty=false:=by
   cases e:l.take 2 with
   | nil=>rw [e] at hz;cases hz
   | cons a t=>rfl
  rw [this,if_pos trivial,if_neg (by decide),hz]
 ·simp only [if_neg h2]
  by_cases h3:isMk (l.take 1)=true
  ·simp only [if_pos h3]
   have hz:(l.take 1).length=1:=by rw [List.length_take];omega
   have:(l.take 1).isEmpty=false:=by
    cases e:l.take 1 with
    | nil=>rw [e] at hz;cases hz
    | cons a t=>rfl
   rw [this,if_pos trivial,if_neg (by decide),hz]
  ·simp only [if_neg h3]
   rfl
theorem empty_of {X:ByteArray}{n:Nat}(h:X.size=n)(h0:n=0):X.toList.isEmpty=true:=by rw [ByteArray.toList_eq,list_nil (h.trans h0)];rfl
theorem full_of {X:ByteArray}{n:Nat}(h:X.size=n)(h0:0 < n):X.toList.isEmpty=false:=by
 rw [ByteArray.toList_eq,Bool.eq_false_iff];intro e;have:=List.isEmpty_iff.1 e;rw [← size_list,this] at h;simp at h;omega
set_option maxHeartbeats 4000000 in
theorem leadingToken_of (s:ByteArray)(t:Tok)(n:Nat)(e0:Int)(w:World)(hs:s.size≤20000)(h1:1≤s.size)(h:Hid (tokC s.data.toList=(t,n,e0))) :
    Calls Tryz.prog 175 #[.string s] w (TkOut t n e0 w):=by
 obtain ⟨kd,tx,nu,li⟩:=t
 have hm:s.size≤maxLen:=by unfold maxLen;omega
 have hR:=owT_new w 0 ⟨#[]⟩ 0 0 247
 obtain ⟨a,ha⟩:∃ v,wordLen s.data.toList=v:=⟨_,rfl⟩
 have hal:=wordLen_le s.data.toList
 rw [size_list,ha] at hal
 have HA:=Lh ha
 obtain ⟨X,hX⟩:∃ X,s.extract 0 a=X:=⟨_,rfl⟩
 have hXz:=ext_size s a hal
 have hXd:=ext_take s a
 rw [hX] at hXz hXd
 have CW:Hid (∀ w,Calls Tryz.prog 120 #[.string s] w fun e w'=>e=.returned (.string X)∧Below w.heap.size w w'):=Lh (fun w=>by
  rw [← hX];exact leadingWord_of s a w hm HA)
 by_cases ha0:0 < a
 ·have hemp:X.toList.isEmpty=false:=full_of hXz ha0
  have HT:Hid (wrdC X.data.toList=(⟨kd,tx,nu,li⟩,n,e0)):=Lh (by rw [hXd,← h.out,tokC_word _ (by omega),ha])
  have hXm:X.size≤maxLen:=by unfold maxLen;omega
  have HXM:=Lh hXm
  clear h ha hal HA hX hXz hXd ha0 hXm
  go_enter Tryz.func175,Tryz.ntmps175
  go_wp2_with fail
  refine (CW.out _).mono ?_
  rintro e w1 ⟨rfl,hb1⟩
  go_wp2_with fail
  refine (wordToken_of _ _ _ _ _ HXM.out HT).mono ?_
  rintro e w2 ⟨rfl,hb2⟩
  have hb:=below_keep hb2 hb1
  obtain ⟨c0,c1,c2,c3,f0,f1,f2,f3⟩:=hR.keep hb
  have hB:=below_keep hb (al1 ..)
  clear hb1 hb2 hb
  go_wp2
  exact bodyPost_ret (v:=.tuple #[tkV ⟨kd,tx,nu,li⟩,.int .i64 n,.int .i64 e0]) (by simp [results,Tryz.results175,go_sem,c0,c1,c2,c3]) rfl ⟨rfl,set4 hB (by omega)⟩
 ·have hw0:wordLen s.data.toList=0:=by omega
  have hemp:X.toList.isEmpty=true:=empty_of hXz (by omega)
  obtain ⟨b,hb⟩:∃ v,numLen s.data.toList=v:=⟨_,rfl⟩
  have hbl:=numLen_le s.data.toList
  rw [size_list,hb] at hbl
  have HBn:=Lh hb
  obtain ⟨Y,hY⟩:∃ Y,s.extract 0 b=Y:=⟨_,rfl⟩
  have hYz:=ext_size s b hbl
  have hYd:=ext_take s b
  rw [hY] at hYz hYd
  have CN:Hid (∀ w,Calls Tryz.prog 229 #[.string s] w fun e w'=>e=.returned (.string Y)∧Below w.heap.size w w'):=Lh (fun w=>by
   rw [← hY];exact leadingNumber_of s b w hm HBn)
  clear ha hal HA hX hXz hXd ha0
  by_cases hb0:0 < b
  ·have hempY:Y.toList.isEmpty=false:=full_of hYz hb0
   have HT:Hid (numC Y.data.toList=(⟨kd,tx,nu,li⟩,n,e0)):=Lh (by rw [hYd,← h.out,tokC_num _ hw0 (by omega),hb])
   have HYM:=Lh (show Y.size≤20000 by omega)
   clear h hb hbl HBn hY hYz hYd hb0 hw0
   go_enter Tryz.func175,Tryz.ntmps175
   go_wp2_with fail
   refine (CW.out _).mono ?_
   rintro e w1 ⟨rfl,hb1⟩
   go_wp2_with fail
   refine (CN.out _).mono ?_
   rintro e w2 ⟨rfl,hb2⟩
   go_wp2_with fail
   refine (numberToken_of _ _ _ _ _ HYM.out HT).mono ?_
   rintro e w3 ⟨rfl,hb3⟩
   have hb:=below_keep hb3 (below_keep hb2 hb1)
   obtain ⟨c0,c1,c2,c3,f0,f1,f2,f3⟩:=hR.keep hb
   have hB:=below_keep hb (al1 ..)
   clear hb1 hb2 hb3 hb
   go_wp2
   exact bodyPost_ret (v:=.tuple #[tkV ⟨kd,tx,nu,li⟩,.int .i64 n,.int .i64 e0]) (by simp [results,Tryz.results175,go_sem,c0,c1,c2,c3]) rfl ⟨rfl,set4 hB (by omega)⟩
  ·have hn0:numLen s.data.toList=0:=by omega
   have hempY:Y.toList.isEmpty=true:=empty_of hYz (by omega)
   have hz0:0 < s.size:=by omega
   have hh:s.data.toList.head?=some s[0]:=by rw [List.head?_eq_getElem?];exact dig_at' s 0 hz0
   clear hb hbl HBn hY hYz hYd hb0
   by_cases c34:s[0].toNat=34
   ·have b1:((s[0].toNat:Int) == 34)=true:=by rw [beq_iff_eq];omega
    have HT:Hid (strR (strL (s.data.toList.drop 1) [] 1)=(⟨kd,tx,nu,li⟩,n,e0)):=Lh (by rw [← h.out,tokC_str _ hw0 hn0 (by rw [hh];exact congrArg some (UInt8.toNat_inj.1 c34))])
    have HZ:=Lh hs
    clear h hw0 hn0 hh c34
    go_enter Tryz.func175,Tryz.ntmps175
    go_wp2_with fail
    refine (CW.out _).mono ?_
    rintro e w1 ⟨rfl,hb1⟩
    go_wp2_with fail
    refine (CN.out _).mono ?_
    rintro e w2 ⟨rfl,hb2⟩
    go_wp2_with fail
    refine (stringToken_of _ _ _ _ _ HZ.out h1 HT).mono ?_
    rintro e w3 ⟨rfl,hb3⟩
    have hb:=below_keep hb3 (below_keep hb2 hb1)
    obtain ⟨c0,c1,c2,c3,f0,f1,f2,f3⟩:=hR.keep hb
    have hB:=below_keep hb (al1 ..)
    clear hb1 hb2 hb3 hb
    go_wp2
    exact bodyPost_ret (v:=.tuple #[tkV ⟨kd,tx,nu,li⟩,.int .i64 n,.int .i64 e0]) (by simp [results,Tryz.results175,go_sem,c0,c1,c2,c3]) rfl ⟨rfl,set4 hB (by omega)⟩
   ·have b1:((s[0].toNat:Int) == 34)=false:=by rw [beq_eq_false_iff_ne];omega
    have hr:=h.out
    rw [tokC_mark _ (by rw [size_list];omega) hw0 hn0 (by rw [hh];intro e;exact c34 (by rw [Option.some.inj e];rfl))] at hr
    obtain ⟨m,hmk⟩:∃ m,markL s.data.toList=m:=⟨_,rfl⟩
    rw [hmk] at hr
    have HM:=Lh hmk
    have HMD:Hid ((ba m).data.toList=m):=Lh (ba_list m)
    have hms:(ba m).size=m.length:=ba_size m
    clear h hw0 hn0 hh c34 hmk
    by_cases hm0:m.isEmpty=true
    ·rw [if_pos hm0] at hr
     simp only [Prod.mk.injEq,lex.Tok.mk.injEq] at hr
     obtain ⟨⟨rfl,rfl,rfl,rfl⟩,rfl,rfl⟩:=hr
     have hempM:(ba m).toList.isEmpty=true:=by rw [ByteArray.toList_eq,ba_list];exact hm0
     have CM:Hid (∀ w,Calls Tryz.prog 232 #[.string s] w fun e w'=>∃ M:ByteArray,M.toList.isEmpty=true∧e=.returned (.string M)∧w=w'):=Lh (fun w=>(leadingMark_of s m w HM).mono fun e w' h=>⟨_,hempM,h.1,h.2⟩)
     clear hempM hm0 hms
     go_enter Tryz.func175,Tryz.ntmps175
     go_wp2_with fail
     refine (CW.out _).mono ?_
     rintro e w1 ⟨rfl,hb1⟩
     go_wp2_with fail
     refine (CN.out _).mono ?_
     rintro e w2 ⟨rfl,hb2⟩
     go_wp2_with fail
     refine (CM.out _).mono ?_
     rintro e w' ⟨M,hM,rfl,rfl⟩
     have hb:=below_keep hb2 hb1
     obtain ⟨c0,c1,c2,c3,f0,f1,f2,f3⟩:=hR.keep hb
     have hB:=below_keep hb (al1 ..)
     clear hb1 hb2 hb
     go_wp2
     exact bodyPost_ret (v:=.tuple #[tkV zeroT,.int .i64 0,.int .i64 4]) (by simp [results,Tryz.results175,go_sem,c0,c1,c2,c3]) rfl ⟨rfl,set4 hB (by omega)⟩
    ·rw [if_neg hm0] at hr
     simp only [Prod.mk.injEq,lex.Tok.mk.injEq] at hr
     obtain ⟨⟨rfl,hmx,rfl,rfl⟩,rfl,rfl⟩:=hr
     subst hmx
     have hempM:(ba m).toList.isEmpty=false:=by rw [ByteArray.toList_eq,ba_list];simpa using hm0
     have CM:Hid (∀ w,Calls Tryz.prog 232 #[.string s] w fun e w'=>∃ M:ByteArray,M.toList.isEmpty=false∧M.size=m.length∧M=ba m∧e=.returned (.string M)∧w=w'):=Lh (fun w=>(leadingMark_of s m w HM).mono fun e w' h=>⟨_,hempM,hms,rfl,h.1,h.2⟩)
     clear hempM hm0 hms
     go_enter Tryz.func175,Tryz.ntmps175
     go_wp2_with fail
     refine (CW.out _).mono ?_
     rintro e w1 ⟨rfl,hb1⟩
     go_wp2_with fail
     refine (CN.out _).mono ?_
     rintro e w2 ⟨rfl,hb2⟩
     go_wp2_with fail
     refine (CM.out _).mono ?_
     rintro e w' ⟨M,hM,hMs,hMb,rfl,rfl⟩
     have HMB:=Lh hMb
     have hb:=below_keep hb2 hb1
     obtain ⟨c0,c1,c2,c3,f0,f1,f2,f3⟩:=hR.keep hb
     have hB:=below_keep hb (al1 ..)
     clear hb1 hb2 hb hMb
     go_wp2
     exact bodyPost_ret (v:=.tuple #[.agg #[.int .i64 5,.string M,.int .i64 0,.int .i64 0],.int .i64 (m.length:Int),.int .i64 0]) (by simp [results,Tryz.results175,go_sem,c0,c1,c2,c3]) rfl ⟨by rw [HMB.out],set4 hB (by omega)⟩
theorem tokC_ok {l:List UInt8}{t:Tok}{n:Nat}{e:Int}(h:tokC l=(t,n,e))(he:e=0):oneL prL l=(t,n,0):=by
 unfold tokC at h
 by_cases h0:(oneL prL l).2.2=0
 ·rw [if_pos h0,he] at h;exact h
 ·rw [if_neg h0] at h
  simp only [Prod.mk.injEq] at h
  exact absurd (h.2.2.trans he) h0
theorem tokC_err {l:List UInt8}{t:Tok}{n:Nat}{e:Int}(h:tokC l=(t,n,e)):(oneL prL l).2.2=e:=by
 unfold tokC at h
 by_cases h0:(oneL prL l).2.2=0
 ·rw [if_pos h0] at h;rw [h]
 ·rw [if_neg h0] at h
  simp only [Prod.mk.injEq] at h
  exact h.2.2
set_option maxRecDepth 100000 in
set_option maxHeartbeats 8000000 in
theorem tokenize_near (s:ByteArray)(L:List Tok)(l0 e0:Int)(w:World)(hs:s.size≤16384)(h:Hid (tkz prL s.data.toList 1 false=(L,l0,e0))) :
    Calls Tryz.prog 112 #[.string s] w (TokOut L l0 e0 w):=by
 obtain ⟨i0,hi,hz0,hz1,hz2⟩:=info_tok4
 have H0:Hid (combs [] (tkz prL (s.data.toList.drop 0) 1 false)=(L,l0,e0)):=Lh (by rw [combs_nil];exact h.out)
 have hsi:¬ (16384:Int) < (s.size:Int):=by omega
 clear h
 go_enter Tryz.func112,Tryz.ntmps112
 go_wp2_with fail
 go_loopw [0,5,6] (fun src out ln wr=>∃ (T:ByteArray) (k:Nat) (ts:List Tok) (l:Int),src=.string T∧T.data.toList=s.data.toList.drop k∧T.size+k=s.size∧ln=.int .i64 l∧ts.length≤k∧1≤l∧l≤k+1 ∧
  wr.ownsRow w.heap.size 247 4 out ts.length (flatT ts)∧Below w.heap.size w wr∧combs ts (tkz prL (s.data.toList.drop k) l false)=(L,l0,e0)) (fun src _ _ _=>lenOf src)
 case atStart=>exact ⟨s,0,[],1,rfl,rfl,rfl,rfl,Nat.le_refl _,by omega,by omega,World.ownsRow_nil _ _ _ _,Below.refl _ _,H0.out⟩
 case round =>
  obtain ⟨T,k,ts,l,rfl,hT,hTs,rfl,hts,hl1,hl2,hown,hB,hr⟩:=hrel
  rename World=>wr
  have HO:=Lh hown
  have HR:=Lh hr
  have HT:=Lh hT
  have HTM:=Lh (show T.size≤maxLen by unfold maxLen;omega)
  clear hown hr hT H0
  go_wp2_with fail
  refine (skipBlanks_any T _ HTM.out).mono ?_
  rintro e w1 ⟨U,j,m,rfl,hU,hj,hmj,hS,hH,hb1⟩
  rw [HT.out,List.drop_drop] at hU
  rw [size_list] at hj
  have hUs:U.size+(k+j)=s.size:=by rw [← size_list,hU,List.length_drop,size_list];omega
  have hS2:=hS l
  rw [HT.out,List.drop_drop] at hS2
  have HO1:=own_keep HO.out hb1
  have hB1:=below_keep hb1 hB
  have HR1:Hid (combs ts (tkz prL (s.data.toList.drop (k+j)) (l+(m:Int)) false)=(L,l0,e0)):=Lh (by rw [← hS2];exact HR.out)
  have HU:=Lh hU
  have HH:=Lh hH
  have HOW1:=Lh HO1
  clear hU hS hS2 hH HO HR HT HTM hb1 hB HO1
  by_cases hU0:U.size=0
  ·have hemp:(U.toList == [])=true:=nil_yes hU0
   have HN:Hid (L=ts∧l0=0∧e0=0):=Lh (by
    have:=HR1.out
    rw [← HU.out,list_nil hU0,tkz_nil] at this
    unfold combs at this
    simp only [ne_eq,not_true_eq_false,if_false,List.append_nil,Prod.mk.injEq] at this
    exact ⟨this.1.symm,this.2.1.symm,this.2.2.symm⟩)
   obtain ⟨rfl,rfl,rfl⟩:=HN.out
   clear HN HR1 HH
   go_wp2
   go_ret3
   exact ⟨_,rfl,own_tl HOW1.out,hB1⟩
  ·have hemp:(U.toList == [])=false:=nil_no hU0
   have hU1:0 < U.size:=by omega
   have hHead:U.data.toList=U[0] :: (s.data.toList.drop (k+j)).tail:=by
    have e:=drop_at (s:=U) (k:=0) hU1
    rw [List.drop_zero] at e
    rw [e];congr 1
    rw [← HU.out,e];rfl
   obtain ⟨c10,hbl⟩:=HH.out U[0] (by rw [hHead];rfl)
   have HX2:=Lh (show U.size≤20000 by omega)
   obtain ⟨t,n,e1,ho⟩:∃ t n e1,tokC U.data.toList=(t,n,e1):=⟨_,_,_,rfl⟩
   have HT:=Lh ho
   have hD:s.data.toList.drop (k+j)=U[0] :: (s.data.toList.drop (k+j)).tail:=by rw [← hHead,HU.out]
   by_cases he:e1=0
   ·have hone:=tokC_ok ho he
    subst he
    rw [HU.out] at hone
    obtain ⟨n1,n2,_⟩:=oneL_len prL (s.data.toList.drop (k+j)) (by rw [hD];simp) (by rw [hone])
    rw [hone] at n1 n2
    simp only [List.length_drop,size_list] at n1 n2
    have HN:Hid (combs (ts ++ [{ t with line:=l+(m:Int) }]) (tkz prL (s.data.toList.drop (k+j+n)) (l+(m:Int)) false)=(L,l0,e0)):=Lh (by
     have:=HR1.out
     rw [hD] at this
     rw [tkz_tok _ _ _ _ c10 hbl (by rw [← hD,hone]),← hD,hone,combs_tok,List.drop_drop] at this
     exact this)
    obtain ⟨kd,tx,nu,li⟩:=t
    have HV:=Lh (rest_drop n HU.out)
    have hVs:(U.extract n U.size).size+(k+j+n)=s.size:=by rw [← size_list,HV.out,List.length_drop,size_list];omega
    have HVS:=Lh hVs
    clear c10 hbl ho hone hD hHead HR1 HH hU0 hVs
    simp only at HN
    go_upto_region 13 with (go_at_call 175;refine (leadingToken_of _ _ _ _ _ HX2.out hU1 HT).mono ?_;rintro e w2 ⟨rfl,hb2⟩)
    have HO2:=own_keep HOW1.out hb2
    have HO3:=own_keep HO2 (al1 w2 (.cells #[.int .i64 kd,.string (ba tx),.int .i64 nu,.int .i64 (l+(m:Int))] 247))
    have hB3:=below_keep (al1 w2 (.cells #[.int .i64 kd,.string (ba tx),.int .i64 nu,.int .i64 (l+(m:Int))] 247)) (below_keep hb2 hB1)
    have q0:(w2.alloc (.cells #[.int .i64 kd,.string (ba tx),.int .i64 nu,.int .i64 (l+(m:Int))] 247)).cell? ⟨w2.heap.size,0,none⟩=some (.int .i64 kd):=by go_simp
    have q1:(w2.alloc (.cells #[.int .i64 kd,.string (ba tx),.int .i64 nu,.int .i64 (l+(m:Int))] 247)).cell? ⟨w2.heap.size,1,none⟩=some (.string (ba tx)):=by go_simp
    have q2:(w2.alloc (.cells #[.int .i64 kd,.string (ba tx),.int .i64 nu,.int .i64 (l+(m:Int))] 247)).cell? ⟨w2.heap.size,2,none⟩=some (.int .i64 nu):=by go_simp
    have q3:(w2.alloc (.cells #[.int .i64 kd,.string (ba tx),.int .i64 nu,.int .i64 (l+(m:Int))] 247)).cell? ⟨w2.heap.size,3,none⟩=some (.int .i64 (l+(m:Int))):=by go_simp
    generalize w2.alloc (.cells #[.int .i64 kd,.string (ba tx),.int .i64 nu,.int .i64 (l+(m:Int))] 247)=w3 at HO3 hB3 q0 q1 q2 q3 ⊢
    have hs3:=hB3.size
    have HOW:=Lh HO3
    clear HO2 HO3 HOW1 hB1 hb2
    go_wp2_with (at_builtin;refine wpList_append_own _ rfl (.tmp 38) (.tmp 40) 193 rfl w.heap.size 247 i0 (.agg #[.int .i64 0,.string ⟨#[]⟩,.int .i64 0,.int .i64 0]) 4 40 Tryz.underlying193 hi hz0 hz1 hz2 rfl (by decide) _ _ _ rfl (HOW.out.alloc _) ⟨w3.heap.size,0,none⟩ 1 1 [.int .i64 kd,.string (ba tx),.int .i64 nu,.int .i64 (l+(m:Int))] rfl rfl (cell4_new _ _ _ _ _ _) (by simp [Value.oneCell']) (by unfold maxLen;omega) (by omega) (by simp;omega) ?_;intro v4 w4 hown4 hgrow4 _)
    go_roundw
    case rel=>exact ⟨_,k+j+n,ts ++ [⟨kd,tx,nu,l+(m:Int)⟩],l+(m:Int),rfl,HV.out,HVS.out,rfl,by rw [List.length_append];simp;omega,by omega,by omega,by rw [flatT_snoc,List.length_append];exact hown4,(hB3.alloc hs3 _).grown hgrow4 (by simp;omega) fun q hq=>(HOW.out.lt q hq).1,HN.out⟩
    case measure=>have:=HVS.out;simp only [lenOf];omega
   ·have hone:=tokC_err ho
    have b6:(e1 != 0)=true:=by simp [he]
    rw [HU.out] at hone
    have HN:Hid (L=[]∧l0=l+(m:Int)∧e0=e1):=Lh (by
     have:=HR1.out
     rw [hD] at this
     rw [tkz_err _ _ _ _ c10 hbl (by rw [← hD,hone];exact he),← hD,hone] at this
     unfold combs at this
     rw [if_pos he] at this
     simp only [Prod.mk.injEq] at this
     exact ⟨this.1.symm,this.2.1.symm,this.2.2.symm⟩)
    obtain ⟨rfl,rfl,rfl⟩:=HN.out
    clear c10 hbl ho hone hD hHead HR1 HH hU0 he HN
    obtain ⟨kd,tx,nu,li⟩:=t
    go_wp2_with (go_at_call 175;refine (leadingToken_of _ _ _ _ _ HX2.out hU1 HT).mono ?_;rintro e w2 ⟨rfl,hb2⟩)
    go_ret3
    exact ⟨_,rfl,Tl.nil _,below_keep (al1 ..) (below_keep hb2 hB1)⟩
theorem tokenize_any (s:ByteArray)(L:List Tok)(l0 e0:Int)(w:World)(_:s.size≤maxLen)(h:Hid (tokE s.data.toList=(L,l0,e0))) :
    Calls Tryz.prog 112 #[.string s] w (TokOut L l0 e0 w):=by
 have hr:=h.out
 unfold tokE at hr
 rw [size_list] at hr
 clear h
 by_cases hz:16384 < s.size
 ·rw [if_pos hz] at hr
  simp only [Prod.mk.injEq] at hr
  obtain ⟨rfl,rfl,rfl⟩:=hr
  have hzi:(16384:Int) < (s.size:Int):=by omega
  clear hz
  go_enter Tryz.func112,Tryz.ntmps112
  go_wp2
  go_ret3
  exact ⟨_,rfl,Tl.nil _,Below.refl _ _⟩
 ·rw [if_neg hz] at hr
  exact tokenize_near s L l0 e0 w (by omega) (Lh hr)
end Go.Proofs.YtgmidodmmlmmeaaGreatDoor
