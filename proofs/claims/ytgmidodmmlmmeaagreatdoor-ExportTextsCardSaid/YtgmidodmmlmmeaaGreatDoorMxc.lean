/-
  What Quote of the lexer returns. Condition: a text's length.
  What is asked of the code of layer 6: each exported function answers as its plain function says. The statements' walks take it as a premise; a text of its own proves it. No condition.
  What leadingToken of the lexer returns. Condition: a text of at most 20000 bytes, and not empty.
  What Tokenize of the lexer returns. Condition: a text's length.
  The landed code of layer 6 answers as its plain functions say. No condition.
-/
import Derived.Test.YtgmidodmmlmmeaaGreatDoorMxb
namespace Go.Proofs.YtgmidodmmlmmeaaGreatDoor
open Go.RowKit lex
theorem byt_far {w:World}{B k p:Nat}{v:Value}{l:List UInt8}{s:ByteArray}(h:Byt w B v l)(hk:w.heap[k]?=some (.stringIter s p)):v.ownBlock≠some k:=by
 rcases h.2 with ⟨rfl,_⟩ | ⟨g,cap,cur,rfl,_,hg,_⟩
 ·intro e;cases e
 ·intro e
  have e2:g=k:=Option.some.inj e
  rw [e2,hk] at hg;cases hg
theorem Byt.iter2 {w:World}{B k p:Nat}{v:Value}{l:List UInt8}{s:ByteArray}(h:Byt w B v l)(hk:w.heap[k]?=some (.stringIter s p))(q:Nat):Byt (w.iterAt k s q) B v l :=
 World.ownsRow.kept (row:=some k) h ⟨rfl,rfl,rfl,by rw [Lib.iterAt_size];exact Nat.le_refl _,fun j _ hj=>Lib.iterAt_other w k j s q (fun e=>hj (by rw [e]))⟩ (Or.inr (byt_far h hk))
theorem grown_iter {w w':World}{B k p:Nat}{v:Value}{l:List UInt8}{s:ByteArray}(h:Byt w B v l)(hg:w.grownBy w' v.ownBlock)(hk:w.heap[k]?=some (.stringIter s p)):w'.heap[k]?=some (.stringIter s p):=by
 rw [hg.block k (Array.getElem?_eq_some_iff.1 hk).1 (fun e=>byt_far h hk e.symm)]
 exact hk
theorem app_byte {w:World}{ops:Array Oper}{rest:List Oper}{o:Oper}{a:Act}{Q:Exit→Act→World→Prop}(hg:o.guard=none)(x y:Operand)(ho:o.op=.call { callee:=.builtin .append,args:=#[x,y],argTypes:=#[147,147] })
    (B:Nat) (v:Value) (l:List UInt8) (c:UInt8) (b:Int) (hs:a.eval x=v) (hx:a.eval y=.slice (some ⟨w.heap.size,0,none⟩) 1 1) (h:Hid (Byt w B v l)) (hb:Hid (b=(c.toNat:Int))) (hl:l.length≤1000000) (hB:B≤w.heap.size)
    (hK:∀ v' w',Byt w' B v' (l ++ [c])→w.grownBy w' v.ownBlock→wpList Tryz.prog ops Q rest (a.put o.dst v') w'):wpList Tryz.prog ops Q (o :: rest) a (w.alloc (.cells #[.int .u8 b] 5)):=by
 obtain ⟨i0,hi,hz0,hz1,hz2⟩:=info_byte
 refine wpList_append_own _ hg x y 147 ho B 5 i0 (.int .u8 0) 1 1 Tryz.underlying147 hi hz0 hz1 hz2 rfl (by decide) v l.length _ hs (World.ownsRow.alloc h.out _) ⟨w.heap.size,0,none⟩ 1 1 [.int .u8 b] hx rfl (cell1_new _ _ _) (by simp [Value.oneCell']) (by unfold maxLen;omega) (by omega) (by simp;omega) ?_
 intro v' w' hown hgrow _
 refine hK v' w' ?_ ?_
 ·unfold Byt;rw [byt_snoc,List.length_append,← hb.out];exact hown
 ·refine ⟨hgrow.os,hgrow.tape,hgrow.output,Nat.le_trans (by simp) hgrow.size,fun k hk hne=>?_⟩
  rw [hgrow.block k (by simp;omega) hne,heap_alloc_old w _ hk]
set_option maxHeartbeats 8000000 in
theorem quote_near (s:ByteArray)(q:List UInt8)(e0:Int)(w:World)(hs:s.size≤32)(h:Hid (quoE s.data.toList=(q,e0))) :
    Calls Tryz.prog 185 #[.string s] w fun e w'=>e=.returned (.tuple #[.string (ba q),.int .i64 e0])∧Below w.heap.size w w':=by
 have hq:=h.out
 unfold quoE at hq
 rw [size_list,if_neg (by omega)] at hq
 have HQ:=Lh hq
 have hsi:¬ (32:Int) < (s.size:Int):=by omega
 clear h hq
 go_enter Tryz.func185,Tryz.ntmps185
 go_wp2_with fail
 go_loopg [4] s.size (fun gf out wx=>∃ (p:Nat) (o:List UInt8),p≤s.size∧s.size≤p+gf∧o=34 :: escL (s.data.toList.take p)∧(s.data.toList.take p).all isPl=true ∧
  wx.heap[w.heap.size+1]?=some (.stringIter s p)∧Byt wx w.heap.size out o∧Below w.heap.size w wx)
 case atStart =>
  refine ⟨0,[34],Nat.zero_le _,by omega,rfl,rfl,?_,?_,(al1 ..).alloc (by simp) _⟩
  ·simpa using World.iter_heap (w.alloc (.cells #[.int .u8 34] 5)) s 0
  ·exact (World.ownsRow_lit w #[.int .u8 34] 1 (Nat.le_refl _) (by decide) rfl).alloc _
 case round =>
  obtain ⟨p,o,hp,hfu,ho,hall,hit,hby,hB⟩:=hrel
  have HO:=Lh ho
  have HALL:=Lh hall
  have hol:o.length≤100:=by
   rw [ho,List.length_cons]
   have:=esc_len (s.data.toList.take p)
   rw [List.length_take] at this
   omega
  have hsw:w.heap.size+1 < wr.heap.size:=(Array.getElem?_eq_some_iff.1 hit).1
  clear ho hall
  by_cases hps:p < s.size
  ·obtain ⟨g',rfl⟩:∃ g',gk=g'+1:=⟨gk - 1,by omega⟩
   have hnx:∀ ty,(Instr.next (.pointer (some ⟨w.heap.size+1,0,none⟩)) true ty).run Tryz.prog wr=_:=fun ty=>Lib.run_next_any_at wr (w.heap.size+1) s p ty hit hps
   obtain ⟨r1,r2,r3,r4,r5⟩:=rune_at s p hps
   have HET:=Lh (esc_take hps)
   obtain ⟨R,hR⟩:∃ R,(Utf8.decode s p).1=R:=⟨_,rfl⟩
   obtain ⟨K,hK⟩:∃ K,(Utf8.decode s p).2=K:=⟨_,rfl⟩
   rw [hR,hK] at hnx r3
   rw [hR] at r1 r2 r4
   have hit2:=Lib.iterAt_heap wr (w.heap.size+1) s p (p+K) hit
   have hby2:=hby.iter2 hit (p+K)
   have hB2:=Lib.below_iterAt hB (k:=w.heap.size+1) (by omega) s (p+K)
   have hs2:w.heap.size+1 < (wr.iterAt (w.heap.size+1) s (p+K)).heap.size:=by rw [Lib.iterAt_size];exact hsw
   obtain ⟨W,hW⟩:∃ W,wr.iterAt (w.heap.size+1) s (p+K)=W:=⟨_,rfl⟩
   rw [hW] at hnx hit2 hby2 hB2 hs2
   clear hit hby hB hW hR hK hsw r2 r5
   cases hpl:isPl s[p]
   ·have HN:Hid (q=[]∧e0=1):=Lh (by
      have:=HQ.out
      rw [plain_bad hps hpl,if_neg (by decide)] at this
      obtain ⟨a,b⟩:=Prod.mk.inj this
      exact ⟨a.symm,b.symm⟩)
    obtain ⟨rfl,rfl⟩:=HN.out
    have HP:Hid (plN R=false):=Lh (by rw [r1,hpl])
    clear r1 r3 hpl HN HET
    go_wp2_with (go_at_call 238;refine (isPrintable_of _ _ _ HP).mono ?_;rintro e w' ⟨rfl,rfl⟩)
    go_ret2
    exact ⟨rfl,hB2⟩
   ·obtain ⟨rb,rfl⟩:=r3 hpl
    have HP:Hid (plN R=true):=Lh (by rw [r1,hpl])
    have HA2:=Lh (plain_next HALL.out hps hpl)
    obtain ⟨x,hx⟩:∃ x,esN R=x:=⟨_,rfl⟩
    have HX:=Lh hx
    have hx2:x=decide (s[p].toNat=34∨s[p].toNat=92):=by rw [← hx,← rb];rfl
    have hR255:R≤255:=by have:=s[p].toNat_lt;omega
    have HRB:Hid ((R:Int)=(s[p].toNat:Int)):=Lh (by omega)
    have HBY:=Lh hby2
    cases x
    ·have HN:Hid (o ++ [s[p]]=34 :: escL (s.data.toList.take (p+1))):=Lh (by rw [HO.out,HET.out,if_neg (of_decide_eq_false hx2.symm)];rfl)
     clear r1 r3 hpl hx hx2 rb HET HO hby2
     go_wp2_with (first | (go_at_call 238;refine (isPrintable_of _ _ _ HP).mono ?_;rintro e w' ⟨rfl,rfl⟩) | (go_at_call 239;refine (isEscaped_of _ _ _ HX).mono ?_;rintro e w' ⟨rfl,rfl⟩) | (at_builtin;refine app_byte rfl (.tmp 24) (.tmp 27) rfl w.heap.size _ o s[p] _ rfl rfl HBY HRB (by omega) (by omega) ?_;intro v3 w3 hby3 hgrow3;have hit3:=grown_iter HBY.out hgrow3 hit2;have hB3:=hB2.grown hgrow3 (by omega) (fun q hq=>(World.ownsRow.lt HBY.out q hq).1);clear hgrow3))
     go_roundg g'
     case measure=>omega
     case rel=>exact ⟨p+1,_,by omega,by omega,HN.out,HA2.out,hit3,hby3,hB3⟩
    ·have HN:Hid (o ++ [92] ++ [s[p]]=34 :: escL (s.data.toList.take (p+1))):=Lh (by rw [HO.out,HET.out,if_pos (of_decide_eq_true hx2.symm)];simp)
     clear r1 r3 hpl hx hx2 rb HET HO hby2
     go_wp2_with (first | (go_at_call 238;refine (isPrintable_of _ _ _ HP).mono ?_;rintro e w' ⟨rfl,rfl⟩) | (go_at_call 239;refine (isEscaped_of _ _ _ HX).mono ?_;rintro e w' ⟨rfl,rfl⟩) | (at_builtin;refine app_byte rfl (.tmp 21) (.tmp 22) rfl w.heap.size _ o 92 _ rfl rfl HBY (Lh rfl) (by omega) (by omega) ?_;intro v3 w3 hby3 hgrow3;have hit3:=grown_iter HBY.out hgrow3 hit2;have hB3:=hB2.grown hgrow3 (by omega) (fun q hq=>(World.ownsRow.lt HBY.out q hq).1);have hs3:=hB3.size;have hw3:w.heap.size+1 < w3.heap.size:=(Array.getElem?_eq_some_iff.1 hit3).1;have HBY3:=Lh hby3;clear hgrow3 hby3) | (at_builtin;refine app_byte rfl (.tmp 24) (.tmp 27) rfl w.heap.size _ (o ++ [92]) s[p] _ rfl rfl HBY3 HRB (by simp;omega) (by omega) ?_;intro v4 w4 hby4 hgrow4;have hit4:=grown_iter HBY3.out hgrow4 hit3;have hB4:=hB3.grown hgrow4 (by omega) (fun q hq=>(World.ownsRow.lt HBY3.out q hq).1);clear hgrow4))
     go_roundg g'
     case measure=>omega
     case rel=>exact ⟨p+1,_,by omega,by omega,HN.out,HA2.out,hit4,hby4,hB4⟩
  ·obtain rfl:p=s.size:=by omega
   have hnx:∀ ty,(Instr.next (.pointer (some ⟨w.heap.size+1,0,none⟩)) true ty).run Tryz.prog wr=_:=fun ty=>Lib.run_next_end_at wr (w.heap.size+1) s s.size ty hit hps
   have HL:Hid (s.data.toList.take s.size=s.data.toList):=Lh (by rw [← size_list,List.take_length])
   have HN:Hid (q=o ++ [34]∧e0=0):=Lh (by
    have:=HQ.out
    rw [← HL.out,HALL.out,if_pos rfl,HL.out] at this
    obtain ⟨a,b⟩:=Prod.mk.inj this
    refine ⟨?_,b.symm⟩
    rw [← a,HO.out,HL.out];rfl)
   obtain ⟨rfl,rfl⟩:=HN.out
   have HBY:=Lh hby
   clear HN HO HQ hby
   go_wp2_with (at_builtin;refine app_byte rfl (.tmp 29) (.tmp 30) rfl w.heap.size _ o 34 _ rfl rfl HBY (Lh rfl) (by omega) (by omega) ?_;intro v3 w3 hby3 hgrow3;have hcv:=hby3.conv;have hB3:=hB.grown hgrow3 (by omega) (fun q hq=>(World.ownsRow.lt HBY.out q hq).1);clear hgrow3 hby3)
   go_ret2
   exact ⟨rfl,hB3⟩
theorem quote_any (s:ByteArray)(q:List UInt8)(e0:Int)(w:World)(_:s.size≤maxLen)(h:Hid (quoE s.data.toList=(q,e0))) :
    Calls Tryz.prog 185 #[.string s] w fun e w'=>e=.returned (.tuple #[.string (ba q),.int .i64 e0])∧Below w.heap.size w w':=by
 by_cases hz:32 < s.size
 ·have hr:=h.out
  unfold quoE at hr
  rw [size_list,if_pos hz] at hr
  obtain ⟨rfl,rfl⟩:=Prod.mk.inj hr
  have hzi:(32:Int) < (s.size:Int):=by omega
  clear hr h hz
  go_enter Tryz.func185,Tryz.ntmps185
  go_wp2
  go_ret2
  exact ⟨rfl,Below.refl _ _⟩
 ·exact quote_near s q e0 w (by omega) h
end Go.Proofs.YtgmidodmmlmmeaaGreatDoor
