/-
  What leadingMark of the lexer returns. No condition.
  What skipBlanks of the lexer returns: a rest whose tokens are the text's, later by the lines that ended. Condition: a text's length.
  What wordToken and numberToken of the lexer return. Condition: a text's length.
  Rows of bytes in memory: appended to, and read as a string; iterators over strings. No function of the program is named here; no condition.
  What stringToken of the lexer returns. Condition: a text of at most 20000 bytes, and not empty.
-/
import Derived.Test.YtgmidodmmlmmeaaGreatDoorMxa
import Derived.Lib.BufferRead
namespace Go.Proofs.YtgmidodmmlmmeaaGreatDoor
open Go.RowKit lex
def lenOf:Value→Nat
 | .string s=>s.size
 | _=>0
abbrev zeroT:Tok:=⟨0,[],0,0⟩
def numC (l:List UInt8):Tok × Nat × Int:=if (prL l).2=0 then (⟨3,[],(prL l).1,0⟩,l.length,0) else (zeroT,0,(prL l).2)
theorem info_u8:(Tryz.prog.info? 5).map (fun i=>(i.zero,i.size,i.bytes))=some (some (.int .u8 0),1,1):=by kernel_rfl
theorem info_byte:∃ i,Tryz.prog.info? 5=some i∧i.zero=some (.int .u8 0)∧i.size=1∧i.bytes=1:=by
 have h:=info_u8
 cases hq:Tryz.prog.info? 5 with
 | none=>rw [hq] at h;cases h
 | some i =>
  rw [hq] at h
  simp only [Option.map_some,Option.some.injEq,Prod.mk.injEq] at h
  exact ⟨i,rfl,h.1,h.2.1,h.2.2⟩
def Byt (w:World)(B:Nat)(v:Value)(l:List UInt8):Prop:=w.ownsRow B 5 1 v l.length (Lib.byteCells l)
theorem Byt.nil (w:World)(B:Nat):Byt w B (.slice none 0 0) []:=World.ownsRow_nil _ _ _ _
theorem Byt.later {w w':World}{B:Nat}{v:Value}{l:List UInt8}(h:Byt w B v l)(hb:Below w.heap.size w w'):Byt w' B v l:=own_keep h hb
theorem Byt.iterAt {w:World}{B k:Nat}{v:Value}{l:List UInt8}(h:Byt w B v l)(hk:k < B)(s:ByteArray)(p:Nat):Byt (w.iterAt k s p) B v l :=
 World.ownsRow.kept (row:=some k) h ⟨rfl,rfl,rfl,by rw [Lib.iterAt_size];exact Nat.le_refl _,fun j _ hj=>Lib.iterAt_other w k j s p (fun e=>hj (by rw [e]))⟩ (by
  cases hv:v.ownBlock with
  | none=>exact Or.inl rfl
  | some g=>refine Or.inr (fun e=>?_);have:=(World.ownsRow.lt h g hv).1;have:=Option.some.inj e;omega)
theorem Byt.conv {w:World}{B:Nat}{v:Value}{l:List UInt8}(h:Byt w B v l):(convert 147 9 v).run Tryz.prog w=.ok (.string (ba l)) w:=by
 have hs:Tryz.prog.underlying 147=some (.slice 5):=by kernel_rfl
 have he:Tryz.prog.underlying 5=some (.int .u8):=by kernel_rfl
 have hd:Tryz.prog.underlying 9=some .string:=by kernel_rfl
 rcases h.2 with ⟨rfl,hz⟩ | ⟨g,cap,cur,rfl,_,hg,hc,hcap,h3,h4⟩
 ·obtain rfl:l=[]:=List.eq_nil_of_length_eq_zero hz
  exact Lib.run_convert_nil_bytes w _ _ _ 0 hs he hd
 ·rw [Nat.mul_one] at h4
  exact run_convert_bytes_back w _ _ _ _ cap l hs he hd (Lib.bytes_of_row hg h4)
theorem Byt.len {w:World}{B:Nat}{v:Value}{l:List UInt8}(h:Byt w B v l):∃ a cap,v=.slice a l.length cap∧l.length≤cap∧cap≤maxLen:=by
 rcases h.2 with ⟨rfl,hz⟩ | ⟨g,cap,cur,rfl,_,hg,hc,hm,_⟩
 ·exact ⟨none,0,by rw [hz],by omega,by decide⟩
 ·exact ⟨_,cap,rfl,hc,hm⟩
theorem byt_snoc (l:List UInt8)(b:UInt8):Lib.byteCells (l ++ [b])=Lib.byteCells l ++ [.int .u8 (b.toNat:Int)]:=by simp [Lib.byteCells]
theorem cell1_new (w:World)(v:Value)(t:TypeId):∀ j u,[v][j]?=some u→(w.alloc (.cells #[v] t)).cell? ((⟨w.heap.size,0,none⟩:Addr).add j)=some u:=by
 intro j u hj
 match j,hj with
 | 0,hj=>simp at hj;subst hj;simp [Addr.add]
 | (j+1),hj=>simp at hj
theorem rune_at (s:ByteArray)(p:Nat)(h:p < s.size):plN (Utf8.decode s p).1=isPl s[p]∧((Utf8.decode s p).1=10 ↔ s[p].toNat=10)∧(isPl s[p]=true→(Utf8.decode s p).1=s[p].toNat∧(Utf8.decode s p).2=1)∧(Utf8.decode s p).1≤1114111∧1≤(Utf8.decode s p).2:=by
 have hle:=Lib.rune_le s p
 by_cases hb:s[p].toNat < 128
 ·rw [dec_lo s p h hb]
  exact ⟨rfl,Iff.rfl,fun _=>⟨rfl,rfl⟩,by simp only;omega,Nat.le_refl _⟩
 ·obtain ⟨d1,d2,_,_⟩:=dec_hi s p h (by omega)
  have hp:isPl s[p]=false:=by simp [isPl];omega
  rw [hp]
  exact ⟨by simp [plN];omega,by omega,fun e=>absurd e (by decide),hle,d2⟩
end Go.Proofs.YtgmidodmmlmmeaaGreatDoor
