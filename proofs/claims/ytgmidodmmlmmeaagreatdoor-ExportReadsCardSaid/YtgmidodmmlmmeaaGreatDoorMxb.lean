/-
  What wordToken and numberToken of the lexer return. Condition: a text's length.
  Rows of bytes in memory: appended to, and read as a string; iterators over strings. No function of the program is named here; no condition.
  What stringToken of the lexer returns. Condition: a text of at most 20000 bytes, and not empty.
-/
import Derived.Test.YtgmidodmmlmmeaaGreatDoorMxa
import Derived.Lib.BufferRead
namespace Go.Proofs.YtgmidodmmlmmeaaGreatDoor
open Go.RowKit lex
abbrev tkV (t:Tok):Value:=.agg #[.int .i64 t.kind,.string (ba t.text),.int .i64 t.num,.int .i64 t.line]
theorem tk_back (k n l:Int)(s:ByteArray):tkV ⟨k,s.data.toList,n,l⟩=.agg #[.int .i64 k,.string s,.int .i64 n,.int .i64 l]:=by
 show Value.agg #[_,.string (ba s.data.toList),_,_]=_
 rw [← ba_of (rfl:s.data.toList=s.data.toList)]
abbrev zeroT:Tok:=⟨0,[],0,0⟩
def owT (W:World)(b:Nat)(k:Int)(x:ByteArray)(n l:Int):Prop:=W.cell? ⟨b,0,none⟩=some (.int .i64 k)∧W.cell? ⟨b,1,none⟩=some (.string x)∧W.cell? ⟨b,2,none⟩=some (.int .i64 n)∧W.cell? ⟨b,3,none⟩=some (.int .i64 l) ∧
 W.frozen? ⟨b,0,none⟩=false∧W.frozen? ⟨b,1,none⟩=false∧W.frozen? ⟨b,2,none⟩=false∧W.frozen? ⟨b,3,none⟩=false
theorem owT_new (w:World)(k:Int)(x:ByteArray)(n l:Int)(t:TypeId):owT (w.alloc (.cells #[.int .i64 k,.string x,.int .i64 n,.int .i64 l] t)) w.heap.size k x n l:=by
 refine ⟨?_,?_,?_,?_,?_,?_,?_,?_⟩ <;> go_simp
theorem owT.keep {w1 w2:World}{b:Nat}{k:Int}{x:ByteArray}{n l:Int}(h:owT w1 b k x n l)(h2:Below w1.heap.size w1 w2):owT w2 b k x n l:=by
 obtain ⟨a,b,c,d,e,f,g,i⟩:=h
 exact ⟨cell_keep h2 a,cell_keep h2 b,cell_keep h2 c,cell_keep h2 d,fr_keep h2 a e,fr_keep h2 b f,fr_keep h2 c g,fr_keep h2 d i⟩
def TkOut (t:Tok)(n:Nat)(e0:Int)(w:World)(e:Ending)(w':World):Prop:=e=.returned (.tuple #[tkV t,.int .i64 (n:Int),.int .i64 e0])∧Below w.heap.size w w'
def wrdC (l:List UInt8):Tok × Nat × Int:=if isKw l then (⟨2,l,0,0⟩,l.length,0) else if isNm l then (⟨1,l,0,0⟩,l.length,0) else (zeroT,0,2)
def numC (l:List UInt8):Tok × Nat × Int:=if (prL l).2=0 then (⟨3,[],(prL l).1,0⟩,l.length,0) else (zeroT,0,(prL l).2)
set_option maxHeartbeats 1000000 in
theorem wordToken_of (s:ByteArray)(t:Tok)(n:Nat)(e0:Int)(w:World)(hs:s.size≤maxLen)(h:Hid (wrdC s.data.toList=(t,n,e0))) :
    Calls Tryz.prog 228 #[.string s] w (TkOut t n e0 w):=by
 have hr:=h.out
 unfold wrdC at hr
 rw [size_list] at hr
 clear h
 obtain ⟨k,hk⟩:∃ v:Bool,isKw s.data.toList=v:=⟨_,rfl⟩
 obtain ⟨m,hm⟩:∃ v:Bool,isNm s.data.toList=v:=⟨_,rfl⟩
 rw [hk,hm] at hr
 have HK:=Lh hk
 have HM:=Lh hm
 clear hk hm
 have hR:=owT_new w 0 ⟨#[]⟩ 0 0 247
 cases k
 ·rw [if_neg (by decide)] at hr
  cases m
  ·rw [if_neg (by decide)] at hr
   simp only [Prod.mk.injEq] at hr
   obtain ⟨rfl,rfl,rfl⟩:=hr
   go_enter Tryz.func228,Tryz.ntmps228
   go_wp2_with fail
   refine (iskw_of _ _ _ HK).mono ?_
   rintro e w' ⟨rfl,rfl⟩
   go_wp2_with fail
   refine (isname_of _ _ _ hs HM).mono ?_
   rintro e w1 ⟨rfl,hb1⟩
   obtain ⟨c0,c1,c2,c3,f0,f1,f2,f3⟩:=hR.keep hb1
   have hB:=below_keep hb1 (al1 ..)
   clear hb1
   go_wp2
   exact bodyPost_ret (v:=.tuple #[tkV zeroT,.int .i64 0,.int .i64 2]) (by simp [results,Tryz.results228,go_sem,c0,c1,c2,c3]) rfl ⟨rfl,set4 hB (by omega)⟩
  ·rw [if_pos rfl] at hr
   simp only [Prod.mk.injEq] at hr
   obtain ⟨rfl,rfl,rfl⟩:=hr
   go_enter Tryz.func228,Tryz.ntmps228
   go_wp2_with fail
   refine (iskw_of _ _ _ HK).mono ?_
   rintro e w' ⟨rfl,rfl⟩
   go_wp2_with fail
   refine (isname_of _ _ _ hs HM).mono ?_
   rintro e w1 ⟨rfl,hb1⟩
   obtain ⟨c0,c1,c2,c3,f0,f1,f2,f3⟩:=hR.keep hb1
   have hB:=below_keep hb1 (al1 ..)
   clear hb1
   go_wp2
   exact bodyPost_ret (v:=.tuple #[.agg #[.int .i64 1,.string s,.int .i64 0,.int .i64 0],.int .i64 s.size,.int .i64 0]) (by simp [results,Tryz.results228,go_sem,c0,c1,c2,c3]) rfl ⟨by rw [tk_back],set4 hB (by omega)⟩
 ·rw [if_pos rfl] at hr
  simp only [Prod.mk.injEq] at hr
  obtain ⟨rfl,rfl,rfl⟩:=hr
  go_enter Tryz.func228,Tryz.ntmps228
  go_wp2_with fail
  refine (iskw_of _ _ _ HK).mono ?_
  rintro e w' ⟨rfl,rfl⟩
  go_wp2
  exact bodyPost_ret (v:=.tuple #[.agg #[.int .i64 2,.string s,.int .i64 0,.int .i64 0],.int .i64 s.size,.int .i64 0]) (by simp [results,Tryz.results228,go_sem]) rfl ⟨by rw [tk_back],al1 ..⟩
theorem codeParse_of (s:ByteArray)(n e0:Int)(w:World)(hs:s.size≤20000)(h:Hid (prL s.data.toList=(n,e0))) :
    Calls Tryz.prog 166 #[.string s] w fun e w'=>e=.returned (.tuple #[.int .i64 n,.int .i64 e0])∧w=w':=by
 have c:=parse_any s w (by omega)
 rw [parseV_pr,h.out] at c
 exact c
set_option maxHeartbeats 1000000 in
theorem numberToken_of (s:ByteArray)(t:Tok)(n:Nat)(e0:Int)(w:World)(hs:s.size≤20000)(h:Hid (numC s.data.toList=(t,n,e0))) :
    Calls Tryz.prog 230 #[.string s] w (TkOut t n e0 w):=by
 have hr:=h.out
 unfold numC at hr
 rw [size_list] at hr
 clear h
 have HP:Hid (prL s.data.toList=((prL s.data.toList).1,(prL s.data.toList).2)):=Lh rfl
 generalize (prL s.data.toList).1=a at hr HP
 generalize (prL s.data.toList).2=b at hr HP
 by_cases hb:b=0
 ·rw [if_pos hb] at hr
  simp only [Prod.mk.injEq] at hr
  obtain ⟨rfl,rfl,rfl⟩:=hr
  subst hb
  go_enter Tryz.func230,Tryz.ntmps230
  go_wp2_with (go_at_call 166;refine (codeParse_of _ _ _ _ hs HP).mono ?_;rintro e w' ⟨rfl,rfl⟩)
  exact bodyPost_ret (v:=.tuple #[.agg #[.int .i64 3,.string ⟨#[]⟩,.int .i64 a,.int .i64 0],.int .i64 s.size,.int .i64 0]) (by simp [results,Tryz.results230,go_sem]) rfl ⟨rfl,al1 ..⟩
 ·rw [if_neg hb] at hr
  simp only [Prod.mk.injEq] at hr
  obtain ⟨rfl,rfl,rfl⟩:=hr
  have hb1:(b != 0)=true:=by simp [hb]
  clear hb
  go_enter Tryz.func230,Tryz.ntmps230
  go_wp2_with (go_at_call 166;refine (codeParse_of _ _ _ _ hs HP).mono ?_;rintro e w' ⟨rfl,rfl⟩)
  exact bodyPost_ret (v:=.tuple #[tkV zeroT,.int .i64 0,.int .i64 b]) (by simp [results,Tryz.results230,go_sem]) rfl ⟨rfl,al1 ..⟩
theorem info_u8:(Tryz.prog.info? 5).map (fun i=>(i.zero,i.size,i.bytes))=some (some (.int .u8 0),1,1):=by kernel_rfl
theorem info_byte:∃ i,Tryz.prog.info? 5=some i∧i.zero=some (.int .u8 0)∧i.size=1∧i.bytes=1:=by
 have h:=info_u8
 cases hq:Tryz.prog.info? 5 with
 | none=>rw [hq] at h;cases h
 | some i =>
  rw [hq] at h
  simp only [Option.map_some,Option.some.injEq,Prod.mk.injEq] at h
  exact ⟨i,rfl,h.1,h.2.1,h.2.2⟩
def Byt (w:World)(B:Nat)(v:Value)(l:List UInt8):Prop:=w.ownsRow B 5 1 v l.length (Lib.byteCells l)
theorem Byt.nil (w:World)(B:Nat):Byt w B (.slice none 0 0) []:=World.ownsRow_nil _ _ _ _
theorem Byt.later {w w':World}{B:Nat}{v:Value}{l:List UInt8}(h:Byt w B v l)(hb:Below w.heap.size w w'):Byt w' B v l:=own_keep h hb
theorem Byt.iterAt {w:World}{B k:Nat}{v:Value}{l:List UInt8}(h:Byt w B v l)(hk:k < B)(s:ByteArray)(p:Nat):Byt (w.iterAt k s p) B v l :=
 World.ownsRow.kept (row:=some k) h ⟨rfl,rfl,rfl,by rw [Lib.iterAt_size];exact Nat.le_refl _,fun j _ hj=>Lib.iterAt_other w k j s p (fun e=>hj (by rw [e]))⟩ (by
  cases hv:v.ownBlock with
  | none=>exact Or.inl rfl
  | some g=>refine Or.inr (fun e=>?_);have:=(World.ownsRow.lt h g hv).1;have:=Option.some.inj e;omega)
theorem Byt.conv {w:World}{B:Nat}{v:Value}{l:List UInt8}(h:Byt w B v l):(convert 147 9 v).run Tryz.prog w=.ok (.string (ba l)) w:=by
 have hs:Tryz.prog.underlying 147=some (.slice 5):=by kernel_rfl
 have he:Tryz.prog.underlying 5=some (.int .u8):=by kernel_rfl
 have hd:Tryz.prog.underlying 9=some .string:=by kernel_rfl
 rcases h.2 with ⟨rfl,hz⟩ | ⟨g,cap,cur,rfl,_,hg,hc,hcap,h3,h4⟩
 ·obtain rfl:l=[]:=List.eq_nil_of_length_eq_zero hz
  exact Lib.run_convert_nil_bytes w _ _ _ 0 hs he hd
 ·rw [Nat.mul_one] at h4
  exact run_convert_bytes_back w _ _ _ _ cap l hs he hd (Lib.bytes_of_row hg h4)
theorem Byt.len {w:World}{B:Nat}{v:Value}{l:List UInt8}(h:Byt w B v l):∃ a cap,v=.slice a l.length cap∧l.length≤cap∧cap≤maxLen:=by
 rcases h.2 with ⟨rfl,hz⟩ | ⟨g,cap,cur,rfl,_,hg,hc,hm,_⟩
 ·exact ⟨none,0,by rw [hz],by omega,by decide⟩
 ·exact ⟨_,cap,rfl,hc,hm⟩
theorem byt_snoc (l:List UInt8)(b:UInt8):Lib.byteCells (l ++ [b])=Lib.byteCells l ++ [.int .u8 (b.toNat:Int)]:=by simp [Lib.byteCells]
theorem cell1_new (w:World)(v:Value)(t:TypeId):∀ j u,[v][j]?=some u→(w.alloc (.cells #[v] t)).cell? ((⟨w.heap.size,0,none⟩:Addr).add j)=some u:=by
 intro j u hj
 match j,hj with
 | 0,hj=>simp at hj;subst hj;simp [Addr.add]
 | (j+1),hj=>simp at hj
theorem grown_block {w w':World}{B b:Nat}{v:Value}{l:List UInt8}{o:Obj}(h:Byt w B v l)(hg:w.grownBy w' v.ownBlock)(hb:b < B)(ho:w.heap[b]?=some o):w'.heap[b]?=some o:=by
 rw [hg.block b (Array.getElem?_eq_some_iff.1 ho).1 (fun e=>by have:=(World.ownsRow.lt h b e.symm).1;omega)]
 exact ho
theorem alloc_block {w:World}{b:Nat}{o:Obj}(x:Obj)(ho:w.heap[b]?=some o):(w.alloc x).heap[b]?=some o:=by
 rw [heap_alloc_old w x (Array.getElem?_eq_some_iff.1 ho).1];exact ho
theorem owT_heap {w:World}{b:Nat}{k:Int}{x:ByteArray}{n l:Int}{t:TypeId}(h:w.heap[b]?=some (.cells #[.int .i64 k,.string x,.int .i64 n,.int .i64 l] t (0,0))):owT w b k x n l:=by
 refine ⟨?_,?_,?_,?_,?_,?_,?_,?_⟩ <;> simp [World.cell?,World.frozen?,h]
def strE (e:Bool)(l o:List UInt8)(p:Nat):List UInt8 × Nat × Int:=strL (if e then 92 :: l else l) o (if e then p else p+1)
theorem strE_end (e:Bool)(o:List UInt8)(p:Nat):strE e [] o p=([],0,3):=by
 cases e
 ·exact strL_nil _ _
 ·exact strL_esc0 _ _ rfl
theorem strE_lf (e:Bool){c:UInt8}(t o:List UInt8)(p:Nat)(h:c.toNat=10):strE e (c :: t) o p=([],0,3):=by
 cases e
 ·exact strL_lf _ _ _ h
 ·exact strL_esc1 _ _ _ rfl h
theorem strE_bad (e:Bool){c:UInt8}(t o:List UInt8)(p:Nat)(h:c.toNat≠10)(hp:isPl c=false):strE e (c :: t) o p=([],0,4):=by
 have:¬ (32≤c.toNat∧c.toNat≤126):=by simpa [isPl] using hp
 cases e
 ·exact strL_bad _ _ _ h hp
 ·exact strL_esc2 _ _ _ rfl h ⟨by omega,by omega⟩
theorem strE_bad2 {c:UInt8}(t o:List UInt8)(p:Nat)(hp:isPl c=true)(h:¬ (c.toNat=34∨c.toNat=92)):strE true (c :: t) o p=([],0,4):=by
 have:32≤c.toNat∧c.toNat≤126:=by simpa [isPl] using hp
 exact strL_esc2 _ _ _ rfl (by omega) ⟨by omega,by omega⟩
theorem strE_esc {c:UInt8}(t o:List UInt8)(p:Nat)(h:c.toNat=92):strE false (c :: t) o p=strE true t o (p+1):=by
 obtain rfl:c=92:=UInt8.toNat_inj.1 h
 rfl
theorem strE_close {c:UInt8}(t o:List UInt8)(p:Nat)(h:c.toNat=34):strE false (c :: t) o p=(o,p+2,0):=strL_end _ _ _ h
theorem strE_lim (e:Bool){c:UInt8}(t o:List UInt8)(p:Nat)(hp:isPl c=true)(h:e=decide (c.toNat=34∨c.toNat=92))(hl:32 < o.length+1):strE e (c :: t) o p=([],0,2):=by
 cases e
 ·have:=of_decide_eq_false h.symm
  exact strL_lim _ _ _ (by omega) (by omega) hp hl
 ·exact strL_esc3 _ _ _ rfl (of_decide_eq_true h.symm) hl
theorem strE_ok (e:Bool){c:UInt8}(t o:List UInt8)(p:Nat)(hp:isPl c=true)(h:e=decide (c.toNat=34∨c.toNat=92))(hl:¬ 32 < o.length+1):strE e (c :: t) o p=strE false t (o ++ [c]) (p+1):=by
 cases e
 ·have:=of_decide_eq_false h.symm
  exact strL_ok _ _ _ (by omega) (by omega) hp hl
 ·exact strL_esc4 _ _ _ rfl (of_decide_eq_true h.symm) hl
theorem rune_at (s:ByteArray)(p:Nat)(h:p < s.size):plN (Utf8.decode s p).1=isPl s[p]∧((Utf8.decode s p).1=10 ↔ s[p].toNat=10)∧(isPl s[p]=true→(Utf8.decode s p).1=s[p].toNat∧(Utf8.decode s p).2=1)∧(Utf8.decode s p).1≤1114111∧1≤(Utf8.decode s p).2:=by
 have hle:=Lib.rune_le s p
 by_cases hb:s[p].toNat < 128
 ·rw [dec_lo s p h hb]
  exact ⟨rfl,Iff.rfl,fun _=>⟨rfl,rfl⟩,by simp only;omega,Nat.le_refl _⟩
 ·obtain ⟨d1,d2,_,_⟩:=dec_hi s p h (by omega)
  have hp:isPl s[p]=false:=by simp [isPl];omega
  rw [hp]
  exact ⟨by simp [plN];omega,by omega,fun e=>absurd e (by decide),hle,d2⟩
theorem out3 {t a:Tok}{n b:Nat}{e c:Int}(h:((a,b,c):Tok × Nat × Int)=(t,n,e)):t=a∧n=b∧e=c:=by
 simp only [Prod.mk.injEq] at h
 exact ⟨h.1.symm,h.2.1.symm,h.2.2.symm⟩
theorem byt_next {w:World}{B R:Nat}{b:UInt8}{v:Value}{o:List UInt8}(hb:R=b.toNat)(h:w.ownsRow B 5 1 v (o.length+1) (Lib.byteCells o ++ [.int .u8 (R:Int)])):Byt w B v (o ++ [b]):=by
 unfold Byt;rw [byt_snoc,List.length_append,← hb];exact h
def strR (r:List UInt8 × Nat × Int):Tok × Nat × Int:=if r.2.2=0 then (⟨4,r.1,0,0⟩,r.2.1,0) else (zeroT,0,r.2.2)
set_option maxRecDepth 100000 in
set_option maxHeartbeats 8000000 in
theorem stringToken_of (s:ByteArray)(t:Tok)(n:Nat)(e0:Int)(w:World)(hs:s.size≤20000)(h1:1≤s.size)(h:Hid (strR (strL (s.data.toList.drop 1) [] 1)=(t,n,e0))) :
    Calls Tryz.prog 231 #[.string s] w (TkOut t n e0 w):=by
 obtain ⟨i0,hi,hz0,hz1,hz2⟩:=info_byte
 have hS:=drop_extract s 1
 have hSz:(s.extract 1 s.size).size=s.size - 1:=by rw [← size_list,hS,List.length_drop,size_list]
 rw [← hS] at h
 obtain ⟨S,hSe⟩:∃ S,s.extract 1 s.size=S:=⟨_,rfl⟩
 have HSE:=Lh hSe
 rw [hSe] at h hSz
 have hSs:S.size≤20000:=by omega
 have H0:Hid (strR (strE false (S.data.toList.drop 0) [] 0)=(t,n,e0)):=h
 clear hS hSe h hSz
 go_enter Tryz.func231,Tryz.ntmps231
 go_wp2_with fail
 rw [HSE.out]
 clear HSE
 go_loopg [5,6] S.size (fun gf out esc wx=>∃ (p:Nat) (o:List UInt8) (e:Bool),esc=.bool e∧p≤S.size∧S.size≤p+gf∧o.length≤32 ∧
  wx.heap[w.heap.size+1]?=some (.stringIter S p)∧wx.heap[w.heap.size]?=some (.cells #[.int .i64 0,.string ⟨#[]⟩,.int .i64 0,.int .i64 0] 247 (0,0))∧Byt wx (w.heap.size+2) out o∧Below w.heap.size w wx ∧
  strR (strE e (S.data.toList.drop p) o p)=(t,n,e0))
 case atStart =>
  refine ⟨0,[],false,rfl,Nat.zero_le _,by omega,Nat.zero_le _,?_,?_,Byt.nil _ _,(al1 ..).alloc (by simp) _,H0.out⟩
  ·simpa using World.iter_heap (w.alloc (.cells #[.int .i64 0,.string ⟨#[]⟩,.int .i64 0,.int .i64 0] 247)) S 0
  ·exact alloc_block _ (heap_alloc_new w _)
 case round =>
  obtain ⟨p,o,e,rfl,hp,hfu,hol,hit,hcl,hby,hB,hr⟩:=hrel
  clear H0
  have HR:=Lh hr
  have hsw:w.heap.size+1 < wr.heap.size:=(Array.getElem?_eq_some_iff.1 hit).1
  clear hr
  by_cases hps:p < S.size
  ·obtain ⟨g',rfl⟩:∃ g',gk=g'+1:=⟨gk - 1,by omega⟩
   have hnx:∀ ty,(Instr.next (.pointer (some ⟨w.heap.size+1,0,none⟩)) true ty).run Tryz.prog wr=_:=fun ty=>Lib.run_next_any_at wr (w.heap.size+1) S p ty hit hps
   obtain ⟨r1,r2,r3,r4,r5⟩:=rune_at S p hps
   have HD:=Lh (drop_at hps)
   obtain ⟨R,hR⟩:∃ R,(Utf8.decode S p).1=R:=⟨_,rfl⟩
   obtain ⟨K,hK⟩:∃ K,(Utf8.decode S p).2=K:=⟨_,rfl⟩
   rw [hR,hK] at hnx r3
   rw [hR] at r1 r2 r4
   rw [hK] at r5
   have hit2:=Lib.iterAt_heap wr (w.heap.size+1) S p (p+K) hit
   have hcl2:=(Lib.iterAt_other wr (w.heap.size+1) w.heap.size S (p+K) (by omega)).trans hcl
   have hby2:=hby.iterAt (by omega:w.heap.size+1 < w.heap.size+2) S (p+K)
   have hB2:=Lib.below_iterAt hB (k:=w.heap.size+1) (by omega) S (p+K)
   have hs2:w.heap.size+1 < (wr.iterAt (w.heap.size+1) S (p+K)).heap.size:=by rw [Lib.iterAt_size];exact hsw
   obtain ⟨W,hW⟩:∃ W,wr.iterAt (w.heap.size+1) S (p+K)=W:=⟨_,rfl⟩
   rw [hW] at hnx hit2 hcl2 hby2 hB2 hs2
   clear hit hcl hby hB hW hR hK hsw
   obtain ⟨c0,c1,c2,c3,f0,f1,f2,f3⟩:=owT_heap hcl2
   by_cases c10:R=10
   ·have b0:((R:Int) == 10)=true:=by rw [beq_iff_eq];omega
    obtain ⟨rfl,rfl,rfl⟩:t=zeroT∧n=0∧e0=3:=by
     have:=HR.out;rw [HD.out,strE_lf _ _ _ _ (r2.1 c10)] at this;exact out3 this
    clear c10 r1 r2 r3
    go_wp2
    exact bodyPost_ret (v:=.tuple #[tkV zeroT,.int .i64 0,.int .i64 3]) (by simp [results,Tryz.results231,go_sem,c0,c1,c2,c3]) rfl ⟨rfl,set4 hB2 (by omega)⟩
   ·have b0:((R:Int) == 10)=false:=by rw [beq_eq_false_iff_ne];omega
    cases hpl:isPl S[p]
    ·obtain ⟨rfl,rfl,rfl⟩:t=zeroT∧n=0∧e0=4:=by
       have:=HR.out;rw [HD.out,strE_bad _ _ _ _ (fun h=>c10 (r2.2 h)) hpl] at this;exact out3 this
     have HP:Hid (plN R=false):=Lh (by rw [r1,hpl])
     clear c10 r1 r2 r3 hpl
     go_wp2_with (go_at_call 238;refine (isPrintable_of _ _ _ HP).mono ?_;rintro e w' ⟨rfl,rfl⟩)
     exact bodyPost_ret (v:=.tuple #[tkV zeroT,.int .i64 0,.int .i64 4]) (by simp [results,Tryz.results231,go_sem,c0,c1,c2,c3]) rfl ⟨rfl,set4 hB2 (by omega)⟩
    ·obtain ⟨rb,rfl⟩:=r3 hpl
     have HP:Hid (plN R=true):=Lh (by rw [r1,hpl])
     obtain ⟨x,hx⟩:∃ x,esN R=x:=⟨_,rfl⟩
     have HX:=Lh hx
     have hx2:x=decide (S[p].toNat=34∨S[p].toNat=92):=by rw [← hx,← rb];rfl
     by_cases hbad:e=true∧x=false
     ·obtain ⟨rfl,rfl⟩:=hbad
      obtain ⟨rfl,rfl,rfl⟩:t=zeroT∧n=0∧e0=4:=by
       have:=HR.out;rw [HD.out,strE_bad2 _ _ _ hpl (of_decide_eq_false hx2.symm)] at this;exact out3 this
      clear c10 r1 r2 r3 hpl hx hx2 rb
      go_wp2_with (first | (go_at_call 238;refine (isPrintable_of _ _ _ HP).mono ?_;rintro e w' ⟨rfl,rfl⟩) | (go_at_call 239;refine (isEscaped_of _ _ _ HX).mono ?_;rintro e w' ⟨rfl,rfl⟩))
      exact bodyPost_ret (v:=.tuple #[tkV zeroT,.int .i64 0,.int .i64 4]) (by simp [results,Tryz.results231,go_sem,c0,c1,c2,c3]) rfl ⟨rfl,set4 hB2 (by omega)⟩
     ·by_cases h92:e=false∧R=92
      ·obtain ⟨rfl,h92⟩:=h92
       have b1:((R:Int) == 92)=true:=by rw [beq_iff_eq];omega
       have HN:=Lh (by have:=HR.out;rw [HD.out,strE_esc _ _ _ (by omega)] at this;exact this:strR (strE true (S.data.toList.drop (p+1)) o (p+1))=(t,n,e0))
       clear c10 r1 r2 r3 hpl hx hx2 rb hbad h92
       go_wp2_with (first | (go_at_call 238;refine (isPrintable_of _ _ _ HP).mono ?_;rintro e w' ⟨rfl,rfl⟩) | (go_at_call 239;refine (isEscaped_of _ _ _ HX).mono ?_;rintro e w' ⟨rfl,rfl⟩))
       go_roundg g'
       case measure=>omega
       case rel=>exact ⟨p+1,o,true,rfl,by omega,by omega,hol,hit2,hcl2,hby2,hB2,HN.out⟩
      ·by_cases h34:e=false∧R=34
       ·obtain ⟨rfl,h34⟩:=h34
        have b1:((R:Int) == 92)=false:=by rw [beq_eq_false_iff_ne];omega
        have b2:((R:Int) == 34)=true:=by rw [beq_iff_eq];omega
        have HN:Hid (t=⟨4,o,0,0⟩∧n=p+2∧e0=0):=Lh (by have:=HR.out;rw [HD.out,strE_close _ _ _ (by omega)] at this;exact out3 this)
        have hcv:=hby2.conv
        clear c10 r1 r2 r3 hpl hx hx2 rb hbad h92 h34
        go_wp2_with (first | (go_at_call 238;refine (isPrintable_of _ _ _ HP).mono ?_;rintro e w' ⟨rfl,rfl⟩) | (go_at_call 239;refine (isEscaped_of _ _ _ HX).mono ?_;rintro e w' ⟨rfl,rfl⟩))
        refine bodyPost_ret (v:=.tuple #[.agg #[.int .i64 4,.string (ba o),.int .i64 0,.int .i64 0],.int .i64 (1+(p:Int)+1),.int .i64 0]) (by simp [results,Tryz.results231,go_sem,c0,c1,c2,c3]) rfl ⟨?_,set4 hB2 (by omega)⟩
        obtain ⟨q1,q2,q3⟩:=HN.out
        subst q1 q2 q3
        rw [show (1+(p:Int)+1)=((p+2:Nat):Int) by omega]
       ·have hxe:e=x:=by
          cases e
          ·cases x
           ·rfl
           ·rcases of_decide_eq_true hx2.symm with q | q
            ·exact absurd ⟨rfl,by omega⟩ h34
            ·exact absurd ⟨rfl,by omega⟩ h92
          ·cases x
           ·exact absurd ⟨rfl,rfl⟩ hbad
           ·rfl
        have hxd:=hxe.trans hx2
        have HRB:=Lh rb
        have hR255:R≤255:=by have:=S[p].toNat_lt;omega
        have HBY:=Lh hby2
        have hway:(e=false∧((R:Int) == 92)=false∧((R:Int) == 34)=false)∨(e=true∧((R:Int) == 92)=false∧((R:Int) == 34)=true)∨(e=true∧((R:Int) == 92)=true∧((R:Int) == 34)=false):=by
         cases e
         ·refine Or.inl ⟨rfl,?_,?_⟩ <;> rw [beq_eq_false_iff_ne]
          ·intro h;exact h92 ⟨rfl,by omega⟩
          ·intro h;exact h34 ⟨rfl,by omega⟩
         ·rcases of_decide_eq_true hxd.symm with q | q
          ·refine Or.inr (Or.inl ⟨rfl,?_,?_⟩)
           ·rw [beq_eq_false_iff_ne];omega
           ·rw [beq_iff_eq];omega
          ·refine Or.inr (Or.inr ⟨rfl,?_,?_⟩)
           ·rw [beq_iff_eq];omega
           ·rw [beq_eq_false_iff_ne];omega
        by_cases hl:32 < o.length+1
        ·have HN:Hid (t=zeroT∧n=0∧e0=2):=Lh (by have:=HR.out;rw [HD.out,strE_lim _ _ _ _ hpl hxd hl] at this;exact out3 this)
         obtain ⟨rfl,rfl,rfl⟩:=HN.out
         have hli:(32:Int) < (o.length:Int)+1:=by omega
         subst hxe
         clear c10 r1 r2 r3 hpl hx hx2 rb hbad h92 h34 hxd hl HN
         rcases hway with ⟨rfl,b1,b2⟩ | ⟨rfl,b1,b2⟩ | ⟨rfl,b1,b2⟩
         all_goals
          go_wp2_with (first | (go_at_call 238;refine (isPrintable_of _ _ _ HP).mono ?_;rintro e w' ⟨rfl,rfl⟩) | (go_at_call 239;refine (isEscaped_of _ _ _ HX).mono ?_;rintro e w' ⟨rfl,rfl⟩) | (at_builtin;refine wpList_append_own _ rfl (.tmp 51) (.tmp 54) 147 rfl (w.heap.size+2) 5 i0 (.int .u8 0) 1 1 Tryz.underlying147 hi hz0 hz1 hz2 rfl (by decide) _ _ _ rfl (World.ownsRow.alloc HBY.out _) ⟨W.heap.size,0,none⟩ 1 1 [.int .u8 (R:Int)] rfl rfl (cell1_new _ _ _) (by simp [Value.oneCell']) (by unfold maxLen;omega) (by omega) (by simp;omega) ?_;intro v3 w3 hown3 hgrow3 _;have hby3:=byt_next HRB.out hown3;have hit3:=grown_block (w:=W.alloc _) (World.ownsRow.alloc HBY.out _) hgrow3 (by omega) (alloc_block _ hit2);have hcl3:=grown_block (w:=W.alloc _) (World.ownsRow.alloc HBY.out _) hgrow3 (by omega) (alloc_block _ hcl2);have hB3:=(hB2.alloc (by omega) (.cells #[.int .u8 (R:Int)] 5)).grown hgrow3 (by simp;omega) (fun q hq=>by have:=(World.ownsRow.lt (World.ownsRow.alloc HBY.out (.cells #[.int .u8 (R:Int)] 5)) q hq).1;omega);obtain ⟨d0,d1,d2,d3,g0,g1,g2,g3⟩:=owT_heap hcl3;have HBY3:=Lh hby3;obtain ⟨a3,cap3,rfl,hc3,hm3⟩:=hby3.len;clear hby3 hown3 hgrow3;simp only [List.length_append,List.length_cons,List.length_nil] at hc3 HBY3 ⊢))
          exact bodyPost_ret (v:=.tuple #[tkV zeroT,.int .i64 0,.int .i64 2]) (by simp [results,Tryz.results231,go_sem,d0,d1,d2,d3]) rfl ⟨rfl,set4 hB3 (by omega)⟩
        ·have HN:Hid (strR (strE false (S.data.toList.drop (p+1)) (o ++ [S[p]]) (p+1))=(t,n,e0)):=Lh (by have:=HR.out;rw [HD.out,strE_ok _ _ _ _ hpl hxd hl] at this;exact this)
         have hli:¬ (32:Int) < (o.length:Int)+1:=by omega
         subst hxe
         clear c10 r1 r2 r3 hpl hx hx2 rb hbad h92 h34 hxd hl
         rcases hway with ⟨rfl,b1,b2⟩ | ⟨rfl,b1,b2⟩ | ⟨rfl,b1,b2⟩
         all_goals
          go_wp2_with (first | (go_at_call 238;refine (isPrintable_of _ _ _ HP).mono ?_;rintro e w' ⟨rfl,rfl⟩) | (go_at_call 239;refine (isEscaped_of _ _ _ HX).mono ?_;rintro e w' ⟨rfl,rfl⟩) | (at_builtin;refine wpList_append_own _ rfl (.tmp 51) (.tmp 54) 147 rfl (w.heap.size+2) 5 i0 (.int .u8 0) 1 1 Tryz.underlying147 hi hz0 hz1 hz2 rfl (by decide) _ _ _ rfl (World.ownsRow.alloc HBY.out _) ⟨W.heap.size,0,none⟩ 1 1 [.int .u8 (R:Int)] rfl rfl (cell1_new _ _ _) (by simp [Value.oneCell']) (by unfold maxLen;omega) (by omega) (by simp;omega) ?_;intro v3 w3 hown3 hgrow3 _;have hby3:=byt_next HRB.out hown3;have hit3:=grown_block (w:=W.alloc _) (World.ownsRow.alloc HBY.out _) hgrow3 (by omega) (alloc_block _ hit2);have hcl3:=grown_block (w:=W.alloc _) (World.ownsRow.alloc HBY.out _) hgrow3 (by omega) (alloc_block _ hcl2);have hB3:=(hB2.alloc (by omega) (.cells #[.int .u8 (R:Int)] 5)).grown hgrow3 (by simp;omega) (fun q hq=>by have:=(World.ownsRow.lt (World.ownsRow.alloc HBY.out (.cells #[.int .u8 (R:Int)] 5)) q hq).1;omega);obtain ⟨d0,d1,d2,d3,g0,g1,g2,g3⟩:=owT_heap hcl3;have HBY3:=Lh hby3;obtain ⟨a3,cap3,rfl,hc3,hm3⟩:=hby3.len;clear hby3 hown3 hgrow3;simp only [List.length_append,List.length_cons,List.length_nil] at hc3 HBY3 ⊢))
          go_roundg g'
          case measure=>omega
          case rel=>exact ⟨p+1,o ++ [S[p]],false,rfl,by omega,by omega,by rw [List.length_append];simp;omega,hit3,hcl3,HBY3.out,hB3,HN.out⟩
  ·obtain rfl:p=S.size:=by omega
   have hnx:∀ ty,(Instr.next (.pointer (some ⟨w.heap.size+1,0,none⟩)) true ty).run Tryz.prog wr=_:=fun ty=>Lib.run_next_end_at wr (w.heap.size+1) S S.size ty hit hps
   obtain ⟨rfl,rfl,rfl⟩:t=zeroT∧n=0∧e0=3:=by
    have:=HR.out;rw [drop_end (Nat.le_refl _),strE_end] at this;exact out3 this
   obtain ⟨c0,c1,c2,c3,f0,f1,f2,f3⟩:=owT_heap hcl
   clear hit hcl
   go_wp2
   exact bodyPost_ret (v:=.tuple #[tkV zeroT,.int .i64 0,.int .i64 3]) (by simp [results,Tryz.results231,go_sem,c0,c1,c2,c3]) rfl ⟨rfl,set4 hB (by omega)⟩
end Go.Proofs.YtgmidodmmlmmeaaGreatDoor
