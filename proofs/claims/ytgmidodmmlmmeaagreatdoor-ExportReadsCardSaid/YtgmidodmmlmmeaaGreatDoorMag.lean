/-
  What the small functions of the reference of layer 6 return: bytes, words, keywords, marks, names, plain contents, Quote. Conditions: none but a string's length.
  What the reference's text functions return for numbers: its digits are the decimal numeral, and its Format is the same text as that of layer 1. Conditions: none.
  Plain facts on how the reference reads the form of a number, letter by letter. No program is named here; no condition.
  What the reference's form answers for every text: the parts of a number, or that the text has not the form of one. Conditions: none but a string's length.
  What the reference's Parse returns: the same as Parse of layer 1, for every text of at most 20000 bytes. Conditions: the text's length.
  What Quote, text and number of the reference of layer 6 return. Conditions: a string's length; of number, that there is a byte.
  Slices of tokens of layer 6 in memory: as a row that a loop appends to, and as they are read. No condition.
  Valid tokens, how they are written and joined: plain facts. No function of the program is named here; no condition.
  What the exported functions of layer 6 answer, as plain functions, and what the chapter's example comes to. No function of the program is named here; no condition.
-/
import Derived.Test.YtgmidodmmlmmeaaGreatDoorMaf
namespace Go.Proofs.YtgmidodmmlmmeaaGreatDoor
open Go.RowKit lex
theorem dig_at' (s:ByteArray)(k:Nat)(h:k < s.size):s.data.toList[k]?=some s[k]:=by
 rw [List.getElem?_eq_getElem (by simpa using h)];rfl
theorem size_list (s:ByteArray):s.data.toList.length=s.size:=by simp
theorem list_nil {s:ByteArray}(h:s.size=0):s.data.toList=[]:=List.length_eq_zero_iff.1 (by rw [size_list];exact h)
theorem nil_yes {s:ByteArray}(h:s.size=0):(s.toList == [])=true:=by rw [ByteArray.toList_eq,list_nil h];rfl
theorem nil_no {s:ByteArray}(h:s.size≠0):(s.toList == [])=false:=by
 rw [ByteArray.toList_eq,beq_eq_false_iff_ne];intro e;exact h (by rw [← size_list,e];rfl)
theorem plain_next {s:ByteArray}{k:Nat}(h:(s.data.toList.take k).all isPl=true)(hlt:k < s.size)(hp:isPl s[k]=true):(s.data.toList.take (k+1)).all isPl=true:=by
 rw [List.take_add_one,dig_at' s k hlt,List.all_append,h]
 simp [hp]
theorem plain_bad {s:ByteArray}{k:Nat}(hlt:k < s.size)(hp:isPl s[k]=false):s.data.toList.all isPl=false:=by
 rw [List.all_eq_false]
 exact ⟨s[k],List.mem_of_getElem? (dig_at' s k hlt),by simp [hp]⟩
end Go.Proofs.YtgmidodmmlmmeaaGreatDoor
namespace Go.Proofs.YtgmidodmmlmmeaaGreatDoor
open Go.RowKit
end Go.Proofs.YtgmidodmmlmmeaaGreatDoor
namespace Go.Proofs.YtgmidodmmlmmeaaGreatDoor
end Go.Proofs.YtgmidodmmlmmeaaGreatDoor
namespace Go.Proofs.YtgmidodmmlmmeaaGreatDoor
open Go.RowKit
end Go.Proofs.YtgmidodmmlmmeaaGreatDoor
namespace Go.Proofs.YtgmidodmmlmmeaaGreatDoor
open Go.RowKit lex
abbrev ba (l:List UInt8):ByteArray:=⟨l.toArray⟩
theorem ba_ext {a b:ByteArray}(h:a.data.toList=b.data.toList):a=b:=by
 cases a;cases b;simp at h;subst h;rfl
theorem ba_of {a:ByteArray}{l:List UInt8}(h:a.data.toList=l):a=ba l:=ba_ext (by simp [h])
theorem ba_add (a b:ByteArray):(a ++ b).data.toList=a.data.toList ++ b.data.toList:=by simp
theorem esc_take {s:ByteArray}{k:Nat}(hlt:k < s.size):escL (s.data.toList.take (k+1))=escL (s.data.toList.take k) ++ (if s[k].toNat=34∨s[k].toNat=92 then [92,s[k]] else [s[k]]):=by
 rw [List.take_add_one,dig_at' s k hlt]
 simp [escL]
theorem esc_len (l:List UInt8):(escL l).length≤2*l.length:=by
 induction l with
 | nil=>simp [escL]
 | cons a l ih =>
  have e:escL (a :: l)=(if a.toNat=34∨a.toNat=92 then [92,a] else [a]) ++ escL l:=by simp [escL]
  rw [e,List.length_append,List.length_cons]
  split <;> simp <;> omega
def quoE (l:List UInt8):List UInt8 × Int:=if 32 < l.length then ([],2) else if l.all isPl then (quoL l,0) else ([],1)
theorem drop_at {s:ByteArray}{k:Nat}(h:k < s.size):s.data.toList.drop k=s[k] :: s.data.toList.drop (k+1):=by
 rw [List.drop_eq_getElem_cons (by rw [size_list];exact h)];rfl
theorem drop_end {s:ByteArray}{k:Nat}(h:s.size≤k):s.data.toList.drop k=[]:=List.drop_eq_nil_of_le (by rw [size_list];exact h)
def cellsT (t:Tok):List Value:=[.int .i64 t.kind,.string ⟨t.text.toArray⟩,.int .i64 t.num,.int .i64 t.line]
def flatT (l:List Tok):List Value:=l.flatMap cellsT
def tokAt (l:List Tok)(i:Nat):Tok:=l.getD i ⟨0,[],0,0⟩
theorem flatT_snoc (l:List Tok)(t:Tok):flatT (l ++ [t])=flatT l ++ cellsT t:=by
 unfold flatT;rw [List.flatMap_append];simp
theorem tokAt_succ (a:Tok)(t:List Tok)(i:Nat):tokAt (a :: t) (i+1)=tokAt t i:=rfl
theorem flatT_get:∀ (l:List Tok) (i:Nat),i < l.length→(flatT l)[i*4]?=some (.int .i64 (tokAt l i).kind)∧(flatT l)[i*4+1]?=some (.string ⟨(tokAt l i).text.toArray⟩)∧(flatT l)[i*4+2]?=some (.int .i64 (tokAt l i).num)∧(flatT l)[i*4+3]?=some (.int .i64 (tokAt l i).line)
 | [],i,h=>absurd h (by simp)
 | a :: t,0,_=>⟨rfl,rfl,rfl,rfl⟩
 | a :: t,i+1,h=>by
  have ih:=flatT_get t i (by simpa using h)
  have e:flatT (a :: t)=cellsT a ++ flatT t:=by unfold flatT;rw [List.flatMap_cons]
  have hl:(cellsT a).length=4:=rfl
  rw [e,List.getElem?_append_right (by omega),List.getElem?_append_right (by omega),List.getElem?_append_right (by omega),List.getElem?_append_right (by omega),tokAt_succ,hl]
  rw [show (i+1)*4 - 4=i*4 by omega,show (i+1)*4+1 - 4=i*4+1 by omega,show (i+1)*4+2 - 4=i*4+2 by omega,show (i+1)*4+3 - 4=i*4+3 by omega]
  exact ih
def Tl (w:World)(v:Value)(l:List Tok):Prop:=∃ (ao:Option Addr) (cap:Nat),v=.slice ao l.length cap∧l.length≤cap∧(0 < l.length→∃ A,ao=some A∧∀ i,i < l.length →
 w.cell? (A.add (i*4))=some (.int .i64 (tokAt l i).kind)∧w.cell? ⟨(A.add (i*4)).block,(A.add (i*4)).off+1,none⟩=some (.string ⟨(tokAt l i).text.toArray⟩) ∧
 w.cell? ⟨(A.add (i*4)).block,(A.add (i*4)).off+2,none⟩=some (.int .i64 (tokAt l i).num)∧w.cell? ⟨(A.add (i*4)).block,(A.add (i*4)).off+3,none⟩=some (.int .i64 (tokAt l i).line))
theorem Tl.keep {w1 w2:World}{v:Value}{l:List Tok}(h2:Below w1.heap.size w1 w2)(h:Tl w1 v l):Tl w2 v l:=by
 obtain ⟨ao,cap,rfl,hc,hA⟩:=h
 refine ⟨ao,cap,rfl,hc,fun hn=>?_⟩
 obtain ⟨A,hA1,hA2⟩:=hA hn
 exact ⟨A,hA1,fun i hi=>⟨cell_later' h2 (hA2 i hi).1,cell_later' h2 (hA2 i hi).2.1,cell_later' h2 (hA2 i hi).2.2.1,cell_later' h2 (hA2 i hi).2.2.2⟩⟩
theorem Tl.nil (w:World):Tl w (.slice none 0 0) []:=⟨none,0,rfl,Nat.le_refl _,fun h=>absurd h (by simp)⟩
theorem info_tok:(Tryz.prog.info? 247).map (fun i=>(i.zero,i.size,i.bytes))=some (some (.agg #[.int .i64 0,.string ⟨#[]⟩,.int .i64 0,.int .i64 0]),4,40):=by kernel_rfl
theorem info_tok4:∃ i,Tryz.prog.info? 247=some i∧i.zero=some (.agg #[.int .i64 0,.string ⟨#[]⟩,.int .i64 0,.int .i64 0])∧i.size=4∧i.bytes=40:=by
 have h:=info_tok
 cases hq:Tryz.prog.info? 247 with
 | none=>rw [hq] at h;cases h
 | some i =>
  rw [hq] at h
  simp only [Option.map_some,Option.some.injEq,Prod.mk.injEq] at h
  exact ⟨i,rfl,h.1,h.2.1,h.2.2⟩
theorem own_tl {w:World}{B e:Nat}{v:Value}{l:List Tok}(h:w.ownsRow B e 4 v l.length (flatT l)):Tl w v l:=by
 have h0:=h
 rcases h.2 with ⟨rfl,hz⟩ | ⟨g,cap,cur,rfl,hg,hc,hcap,h3⟩
 ·obtain rfl:l=[]:=List.eq_nil_of_length_eq_zero hz
  exact Tl.nil w
 ·refine ⟨some ⟨g,0,none⟩,cap,rfl,hcap,fun _=>⟨_,rfl,fun i hi=>?_⟩⟩
  obtain ⟨f0,f1,f2,f3⟩:=flatT_get l i hi
  have c:=h0.cells (g:=g) rfl
  have c0:=c _ _ f0
  have c1:=c _ _ f1
  have c2:=c _ _ f2
  have c3:=c _ _ f3
  rw [add_one_of _ _ (by omega)] at c1 c2 c3
  have eb:((⟨g,0,none⟩:Addr).add (i*4)).block=g:=by unfold Addr.add;split <;> rfl
  have eo:((⟨g,0,none⟩:Addr).add (i*4)).off=i*4:=by
   unfold Addr.add;split
   ·simp;omega
   ·simp
  rw [eb,eo]
  simp only [Nat.zero_add] at c1 c2 c3
  exact ⟨c0,c1,c2,c3⟩
theorem Tl.at' {w:World}{ao:Option Addr}{n cap:Nat}{l:List Tok}(h:Tl w (.slice ao n cap) l){i:Nat}(hi:i < l.length):∃ A,ao=some A∧n=l.length ∧
    w.cell? (A.add (i*4))=some (.int .i64 (tokAt l i).kind)∧w.cell? ⟨(A.add (i*4)).block,(A.add (i*4)).off+1,none⟩=some (.string ⟨(tokAt l i).text.toArray⟩) ∧
    w.cell? ⟨(A.add (i*4)).block,(A.add (i*4)).off+2,none⟩=some (.int .i64 (tokAt l i).num)∧w.cell? ⟨(A.add (i*4)).block,(A.add (i*4)).off+3,none⟩=some (.int .i64 (tokAt l i).line):=by
 obtain ⟨ao',cap',e,hc,hA⟩:=h
 cases e
 obtain ⟨A,rfl,hA2⟩:=hA (by omega)
 exact ⟨A,rfl,rfl,hA2 i hi⟩
def TokOut (L:List Tok)(ln e0:Int)(w:World)(e:Ending)(w':World):Prop:=∃ v,e=.returned (.tuple #[v,.int .i64 ln,.int .i64 e0])∧Tl w' v L∧Below w.heap.size w w'
theorem ba_list (l:List UInt8):(ba l).data.toList=l:=by simp
theorem ba_size (l:List UInt8):(ba l).size=l.length:=by rw [← size_list,ba_list]
def tokE (l:List UInt8):List Tok × Int × Int:=if 16384 < l.length then ([],0,2) else tkz prL l 1 false
theorem tokE_small {l:List UInt8}(h:l.length≤16384):tokE l=tkz prL l 1 false:=by unfold tokE;rw [if_neg (by omega)]
end Go.Proofs.YtgmidodmmlmmeaaGreatDoor
