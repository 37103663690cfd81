/-
  The parser's memory: blocks known whole, rows that a call makes, what holds in every world that agrees on their blocks. No function of the program is named here; no condition.
  The tokens of a valid tree's text, one by one (P9.3, first part), as lists of bytes. No function of the program is named here; no condition.
  Layer 9 (parser) on lists of tokens: what Parse and ParseAttrs answer, that a printed tree is parsed to itself (P9.3), and that only an error's line hangs on the tokens' lines. No function of the program is named here; no condition.
-/
import Derived.Test.YtgmidodmmlmmeaaGreatDoorMtc
import Derived.Deep.AppendLies
import Derived.Test.YtgmidodmmlmmeaaGreatDoorMpb
namespace Go.Proofs.YtgmidodmmlmmeaaGreatDoor.par
open Go.RowKit lex tre
def blk (W:World)(g:Nat)(t:TypeId)(arr:Array Value):Prop:=W.heap[g]?=some (.cells arr t (0,0))
theorem blk_cell {W:World}{g o:Nat}{t:TypeId}{arr:Array Value}(h:blk W g t arr):W.cell? ⟨g,o,none⟩=arr[o]?:=by
 unfold blk at h;simp [World.cell?,h]
theorem blk_free {W:World}{g o:Nat}{t:TypeId}{arr:Array Value}(h:blk W g t arr):W.frozen? ⟨g,o,none⟩=false:=by
 unfold blk at h;simp [World.frozen?,h]
theorem blk_lt {W:World}{g:Nat}{t:TypeId}{arr:Array Value}(h:blk W g t arr):g < W.heap.size:=by
 rcases Nat.lt_or_ge g W.heap.size with q | q
 ·exact q
 ·unfold blk at h;rw [Array.getElem?_eq_none (by omega)] at h;cases h
theorem blk_set {W:World}{g o:Nat}{t:TypeId}{arr:Array Value}(h:blk W g t arr)(u:Value):blk (W.setCell ⟨g,o,none⟩ u) g t (arr.setIfInBounds o u):=by
 unfold blk at h ⊢
 unfold World.setCell
 rw [Array.getElem?_modify,if_pos rfl,h]
 rfl
theorem blk_new (w:World)(c:Array Value)(t:TypeId):blk (w.alloc (.cells c t)) w.heap.size t c:=heap_alloc_new w _
theorem flat_len {X:Type}(f:X→List Value)(k:Nat)(hk:∀ x,(f x).length=k)(l:List X):(l.flatMap f).length=l.length*k:=by
 induction l with
 | nil=>simp
 | cons x t ih=>rw [List.flatMap_cons,List.length_append,ih,hk,List.length_cons,Nat.add_mul];omega
theorem flat_get {X:Type}(f:X→List Value)(k:Nat)(hk:∀ x,(f x).length=k):∀ (l:List X) (i j:Nat) (h:i < l.length),j < k→(l.flatMap f)[i*k+j]?=(f l[i])[j]?:=by
 intro l
 induction l with
 | nil=>intro i j h;simp at h
 | cons x t ih =>
  intro i j h hj
  rw [List.flatMap_cons]
  cases i with
  | zero=>rw [Nat.zero_mul,Nat.zero_add,List.getElem?_append_left (by rw [hk];exact hj)];rfl
  | succ i =>
   rw [List.getElem?_append_right (by rw [hk,Nat.add_mul];omega),hk,show (i+1)*k+j - k=i*k+j by rw [Nat.add_mul];omega]
   exact ih i j (by simpa using h) hj
theorem own_blk {w:World}{B s n:Nat}{t:TypeId}{v:Value}{xs:List Value}(h:w.ownsRow B t s v n xs)(hn:0 < n):∃ g cap arr,v=.slice (some ⟨g,0,none⟩) n cap∧B≤g∧blk w g t arr∧n≤cap∧cap≤maxLen∧∀ j,j < n*s→arr[j]?=xs[j]?:=by
 rcases h.2 with ⟨_,rfl⟩ | ⟨g,cap,cur,rfl,hB,hk,h1,h2,h3,h4⟩
 ·omega
 ·refine ⟨g,cap,cur,rfl,hB,hk,h1,h2,fun j hj=>?_⟩
  rw [← h4,List.getElem?_take_of_lt hj,Array.getElem?_toList]
theorem info_clr:(Tryz.prog.info? 121).map (fun i=>(i.zero,i.size,i.bytes))=some (some (.agg #[.string ⟨#[]⟩,.string ⟨#[]⟩]),2,32):=by kernel_rfl
theorem info_of_clr:∃ i,Tryz.prog.info? 121=some i∧i.zero=some (.agg #[.string ⟨#[]⟩,.string ⟨#[]⟩])∧i.size=2∧i.bytes=32:=by
 have h:=info_clr
 cases hq:Tryz.prog.info? 121 with
 | none=>rw [hq] at h;cases h
 | some i =>
  rw [hq] at h
  simp only [Option.map_some,Option.some.injEq,Prod.mk.injEq] at h
  exact ⟨i,rfl,h.1,h.2.1,h.2.2⟩
theorem info_cla:(Tryz.prog.info? 69).map (fun i=>(i.zero,i.size,i.bytes))=some (some (.agg #[.string ⟨#[]⟩,.string ⟨#[]⟩]),2,32):=by kernel_rfl
theorem info_of_cla:∃ i,Tryz.prog.info? 69=some i∧i.zero=some (.agg #[.string ⟨#[]⟩,.string ⟨#[]⟩])∧i.size=2∧i.bytes=32:=by
 have h:=info_cla
 cases hq:Tryz.prog.info? 69 with
 | none=>rw [hq] at h;cases h
 | some i =>
  rw [hq] at h
  simp only [Option.map_some,Option.some.injEq,Prod.mk.injEq] at h
  exact ⟨i,rfl,h.1,h.2.1,h.2.2⟩
theorem info_cls:(Tryz.prog.info? 67).map (fun i=>(i.zero,i.size,i.bytes))=some (some (.agg #[.int .i64 0,.string ⟨#[]⟩,.slice none 0 0,.slice none 0 0,.slice none 0 0]),5,96):=by kernel_rfl
theorem info_of_cls:∃ i,Tryz.prog.info? 67=some i∧i.zero=some (.agg #[.int .i64 0,.string ⟨#[]⟩,.slice none 0 0,.slice none 0 0,.slice none 0 0])∧i.size=5∧i.bytes=96:=by
 have h:=info_cls
 cases hq:Tryz.prog.info? 67 with
 | none=>rw [hq] at h;cases h
 | some i =>
  rw [hq] at h
  simp only [Option.map_some,Option.some.injEq,Prod.mk.injEq] at h
  exact ⟨i,rfl,h.1,h.2.1,h.2.2⟩
structure Sv where
 s:St
 rv:Value
 av:Value
 bv:Value
def svC (x:Sv):List Value:=[.int .i64 x.s.kind,.string (bb x.s.name),x.rv,x.av,x.bv]
def svOk (w:World)(x:Sv):Prop:=x.s.name.length≤maxLen∧Prs w x.rv x.s.refs∧Prs w x.av x.s.attrs∧Sts w x.bv x.s.body
def agree (lo hi:Nat)(w W:World):Prop:=∀ q,lo≤q→q < hi→W.heap[q]?=w.heap[q]?
def selfP (lo:Nat)(w:World)(v:Value)(l:List Pr):Prop:=∀ W,agree lo w.heap.size w W→Prs W v l
def selfL (lo:Nat)(w:World)(v:Value)(l:List St):Prop:=∀ W,agree lo w.heap.size w W→Sts W v l
theorem agree.self (lo hi:Nat)(w:World):agree lo hi w w:=fun _ _ _=>rfl
structure Pk (R:Nat)(w w':World):Prop where
 os:w'.os=w.os
 tape:w'.tape=w.tape
 output:w'.output=w.output
 size:w.heap.size≤w'.heap.size
 block:∀ q,q≠R→q < w.heap.size→w'.heap[q]?=w.heap[q]?
theorem Pk.refl (R:Nat)(w:World):Pk R w w:=⟨rfl,rfl,rfl,Nat.le_refl _,fun _ _ _=>rfl⟩
theorem Pk.trans {R:Nat}{a b c:World}(h:Pk R a b)(k:Pk R b c):Pk R a c :=
 ⟨k.os.trans h.os,k.tape.trans h.tape,k.output.trans h.output,Nat.le_trans h.size k.size,fun q h1 h2=>(k.block q h1 (Nat.lt_of_lt_of_le h2 h.size)).trans (h.block q h1 h2)⟩
theorem Pk.below {R:Nat}{a b:World}(h:Below a.heap.size a b):Pk R a b:=⟨h.os,h.tape,h.output,h.size,fun q _ h2=>h.block q h2⟩
theorem Pk.set (R:Nat)(a:World)(o:Nat)(u:Value):Pk R a (a.setCell ⟨R,o,none⟩ u):=⟨rfl,rfl,rfl,by simp [World.setCell],fun q h1 _=>Below.heap_setCell _ _ _ _ h1⟩
theorem Pk.alloc {R:Nat}{a b:World}(h:Pk R a b)(o:Obj):Pk R a (b.alloc o):=h.trans (Pk.below (al1 b o))
theorem Pk.drew {R:Nat}{a b:World}(h:Pk R a b):Pk R a b.drew:=h.trans ⟨rfl,rfl,rfl,Nat.le_refl _,fun _ _ _=>rfl⟩
theorem Pk.grown {R:Nat}{a b c:World}{row:Option Nat}(h:Pk R a b)(hg:b.grownBy c row)(hr:∀ q,row=some q→a.heap.size≤q):Pk R a c :=
 ⟨hg.os.trans h.os,hg.tape.trans h.tape,hg.output.trans h.output,Nat.le_trans h.size hg.size,fun q h1 h2=>(hg.block q (Nat.lt_of_lt_of_le h2 h.size) (fun e=>by have:=hr q e.symm;omega)).trans (h.block q h1 h2)⟩
theorem Pk.store {R:Nat}{a b:World}(h:Pk R a b){g o:Nat}(hg:a.heap.size≤g)(u:Value):Pk R a (b.setCell ⟨g,o,none⟩ u) :=
 ⟨h.os,h.tape,h.output,by simpa [World.setCell] using h.size,fun q h1 h2=>by rw [Below.heap_setCell _ _ _ _ (show q≠g by omega)];exact h.block q h1 h2⟩
theorem Pk.cell {R:Nat}{a b:World}(h:Pk R a b){g o:Nat}{v:Value}(hg:g≠R)(k:a.cell? ⟨g,o,none⟩=some v):b.cell? ⟨g,o,none⟩=some v:=by
 rw [World.cell?_of_block (w:=a) (h.block g hg (World.block_lt_of_cell? a _ k))];exact k
theorem Pk.blk {R:Nat}{a b:World}(h:Pk R a b){g:Nat}{t:TypeId}{arr:Array Value}(hg:g≠R)(k:blk a g t arr):blk b g t arr:=by
 have:=h.block g hg (blk_lt k)
 unfold par.blk at k ⊢;rw [this];exact k
theorem Pk.own {R:Nat}{a b:World}(h:Pk R a b){B s n:Nat}{t:TypeId}{v:Value}{xs:List Value}(hB:R < B)(k:a.ownsRow B t s v n xs):b.ownsRow B t s v n xs:=by
 obtain ⟨h1,h2⟩:=k
 refine ⟨h1,h2.imp id ?_⟩
 rintro ⟨g,cap,cur,rfl,hg,hc,h3⟩
 have hlt:g < a.heap.size:=by
  rcases Nat.lt_or_ge g a.heap.size with h | h
  ·exact h
  ·rw [Array.getElem?_eq_none (by omega)] at hc;cases hc
 exact ⟨g,cap,cur,rfl,hg,by rw [h.block g (by omega) hlt];exact hc,h3⟩
theorem agree_later {R lo lo':Nat}{w w' W:World}(h:agree lo' w'.heap.size w' W)(hb:Pk R w w')(hz:R < lo)(hl:lo'≤lo):agree lo w.heap.size w W:=fun q h1 h2=>by
 rw [h q (by omega) (Nat.lt_of_lt_of_le h2 hb.size)];exact hb.block q (by omega) h2
theorem selfP.later {R lo lo':Nat}{w w':World}{v:Value}{l:List Pr}(h:selfP lo w v l)(hb:Pk R w w')(hz:R < lo)(hl:lo'≤lo):selfP lo' w' v l:=fun W hW=>h W (agree_later hW hb hz hl)
theorem selfL.later {R lo lo':Nat}{w w':World}{v:Value}{l:List St}(h:selfL lo w v l)(hb:Pk R w w')(hz:R < lo)(hl:lo'≤lo):selfL lo' w' v l:=fun W hW=>h W (agree_later hW hb hz hl)
theorem selfP.nil (lo:Nat)(w:World):selfP lo w (.slice none 0 0) []:=fun W _=>Prs.nil W
theorem selfL.nil (lo:Nat)(w:World):selfL lo w (.slice none 0 0) []:=fun W _=>Sts.nil W
theorem selfP.form {lo:Nat}{w:World}{v:Value}{l:List Pr}(h:selfP lo w v l):∃ ao cap,v=.slice ao l.length cap:=by
 obtain ⟨ao,cap,e,_⟩:=h w (agree.self _ _ _);exact ⟨ao,cap,e⟩
theorem selfL.form {lo:Nat}{w:World}{v:Value}{l:List St}(h:selfL lo w v l):∃ ao cap,v=.slice ao l.length cap:=by
 obtain ⟨ao,cap,e,_⟩:=h w (agree.self _ _ _);exact ⟨ao,cap,e⟩
theorem own_form {w:World}{B s n:Nat}{t:TypeId}{v:Value}{xs:List Value}(h:w.ownsRow B t s v n xs):∃ ao cap,v=.slice ao n cap∧n≤cap∧cap≤maxLen:=by
 rcases h.2 with ⟨rfl,rfl⟩ | ⟨g,cap,cur,rfl,_,_,h1,h2,_⟩
 ·exact ⟨_,0,rfl,Nat.le_refl _,by decide⟩
 ·exact ⟨_,cap,rfl,h1,h2⟩
theorem own_selfP {w:World}{B lo:Nat}{t:TypeId}{v:Value}{l:List Pr}(h:w.ownsRow B t 2 v l.length (l.flatMap prC))(hB:lo≤B)(hl:∀ r∈l,r.1.length≤maxLen∧r.2.length≤maxLen):selfP lo w v l:=by
 intro W hW
 by_cases h0:l.length=0
 ·obtain ⟨ao,cap,rfl,h1,h2⟩:=own_form h
  exact ⟨ao,cap,rfl,h1,h2,fun hn=>by omega⟩
 ·obtain ⟨g,cap,arr,rfl,hB',hk,h1,h2,h3⟩:=own_blk h (by omega)
  have hkW:blk W g t arr:=by unfold blk at hk ⊢;rw [hW g (by omega) (blk_lt hk)];exact hk
  refine ⟨_,cap,rfl,h1,h2,fun _=>⟨_,rfl,fun i hi=>?_⟩⟩
  have e0:=flat_get prC 2 (fun _=>rfl) l i 0 hi (by decide)
  have e1:=flat_get prC 2 (fun _=>rfl) l i 1 hi (by decide)
  obtain ⟨p2,p3⟩:=hl l[i] (List.getElem_mem hi)
  refine ⟨?_,?_,p2,p3⟩
  ·rw [add_at,Nat.zero_add,blk_cell hkW,← Nat.add_zero (i*2),h3 _ (by omega)];exact e0
  ·rw [add_at]
   show W.cell? ⟨g,0+i*2+1,none⟩=_
   rw [Nat.zero_add,blk_cell hkW,h3 _ (by omega)];exact e1
def elS (lo0:Nat)(w:World)(ob:Option Nat)(x:Sv):Prop:=∃ lo hi,lo0≤lo∧hi≤w.heap.size∧(∀ q,ob=some q→¬ (lo≤q∧q < hi))∧∀ W,agree lo hi w W→svOk W x
theorem elS.later {R lo0:Nat}{w w':World}{ob:Option Nat}{x:Sv}(h:elS lo0 w ob x)(hb:Pk R w w')(hR:R < lo0):elS lo0 w' ob x:=by
 obtain ⟨lo,hi,h1,h2,h3,h4⟩:=h
 refine ⟨lo,hi,h1,Nat.le_trans h2 hb.size,h3,fun W hW=>h4 W (fun q q1 q2=>?_)⟩
 rw [hW q q1 q2];exact hb.block q (by omega) (by omega)
theorem elS.app {lo0:Nat}{w w':World}{ob:Option Nat}{g:Nat}{x:Sv}(h:elS lo0 w ob x)(hg:w.grownBy w' ob)(hat:ob=some g∨w.heap.size≤g)(hsz:w.heap.size≤w'.heap.size):elS lo0 w' (some g) x:=by
 obtain ⟨lo,hi,h1,h2,h3,h4⟩:=h
 refine ⟨lo,hi,h1,Nat.le_trans h2 hsz,fun q hq e=>?_,fun W hW=>h4 W (fun q q1 q2=>?_)⟩
 ·have hq:=Option.some.inj hq
  rcases hat with hat | hat
  ·exact h3 g hat (by omega)
  ·omega
 ·rw [hW q q1 q2]
  exact hg.block q (by omega) (fun e=>h3 q e.symm ⟨q1,q2⟩)
theorem svC_len (x:Sv):(svC x).length=5:=rfl
theorem row_selfL {w:World}{B lo0:Nat}{v:Value}{D:List Sv}{ob:Option Nat}(h:w.ownsRow B 67 5 v D.length (D.flatMap svC))(hB:lo0≤B)(hD:∀ x∈D,elS lo0 w ob x):selfL lo0 w v (D.map Sv.s):=by
 intro W hW
 by_cases h0:D.length=0
 ·obtain ⟨ao,cap,rfl,h1,h2⟩:=own_form h
  exact ⟨ao,cap,by rw [List.length_map],by rw [List.length_map];exact h1,h2,fun hn=>by rw [List.length_map] at hn;omega⟩
 ·obtain ⟨g,cap,arr,rfl,hBg,hk,h1,h2,h3⟩:=own_blk h (by omega)
  have hkW:blk W g 67 arr:=by unfold blk at hk ⊢;rw [hW g (by omega) (blk_lt hk)];exact hk
  refine ⟨_,cap,by rw [List.length_map],by rw [List.length_map];exact h1,h2,fun _=>⟨_,rfl,stsAt_of fun j hj=>?_⟩⟩
  have hj':j < D.length:=by simpa using hj
  obtain ⟨lo,hi,q1,q2,_,q4⟩:=hD D[j] (List.getElem_mem hj')
  obtain ⟨hn,hr,ha,hb⟩:=q4 W (fun q e1 e2=>hW q (by omega) (by omega))
  have hc:∀ i,i < 5→arr[j*5+i]?=(svC D[j])[i]?:=fun i hi'=>by rw [h3 _ (by omega)];exact flat_get svC 5 svC_len D j i hj' hi'
  have hs:(D.map Sv.s)[j]=D[j].s:=by rw [List.getElem_map]
  rw [hs,Nat.zero_add,add_at,Nat.zero_add]
  refine (stAt_eq _ _ _).2 ⟨?_,?_,hn,⟨_,?_,hr⟩,⟨_,?_,ha⟩,_,?_,hb⟩
  ·rw [blk_cell hkW,← Nat.add_zero (j*5),hc 0 (by omega)];rfl
  ·show W.cell? ⟨g,j*5+1,none⟩=_;rw [blk_cell hkW,hc 1 (by omega)];rfl
  ·show W.cell? ⟨g,j*5+2,none⟩=_;rw [blk_cell hkW,hc 2 (by omega)];rfl
  ·show W.cell? ⟨g,j*5+3,none⟩=_;rw [blk_cell hkW,hc 3 (by omega)];rfl
  ·show W.cell? ⟨g,j*5+4,none⟩=_;rw [blk_cell hkW,hc 4 (by omega)];rfl
theorem app_pr {w:World}{ops:Array Oper}{rest:List Oper}{o:Oper}{a:Act}{Q:Exit→Act→World→Prop}{T E:TypeId}(hT:Tryz.prog.underlying T=some (.slice E))(hE:∃ i,Tryz.prog.info? E=some i∧i.zero=some (.agg #[.string ⟨#[]⟩,.string ⟨#[]⟩])∧i.size=2∧i.bytes=32)
    (hg:o.guard=none) (p y:Operand) (ho:o.op=.call { callee:=.builtin .append,args:=#[p,y],argTypes:=#[T,T] })
    (B:Nat) (v:Value) (l:List Pr) (x:Pr) (H:Nat) (hH:w.heap.size=H) (hs:a.eval p=v) (hx:a.eval y=.slice (some ⟨H,0,none⟩) 1 1) (h:Hid (w.ownsRow B E 2 v l.length (l.flatMap prC))) (hl:l.length≤1000000) (hB:B≤w.heap.size)
    (hK:∀ ao cap w',w'.ownsRow B E 2 (.slice ao (l.length+1) cap) (l ++ [x]).length ((l ++ [x]).flatMap prC)→w.grownBy w' v.ownBlock→wpList Tryz.prog ops Q rest (a.put o.dst (.slice ao (l.length+1) cap)) w'):wpList Tryz.prog ops Q (o :: rest) a (w.alloc (.cells #[.string (bb x.1),.string (bb x.2)] E)):=by
 subst hH
 obtain ⟨i0,hi,hz0,hz1,hz2⟩:=hE
 refine wpList_append_own _ hg p y T ho B E i0 _ 2 32 hT hi hz0 hz1 hz2 rfl (by decide) v l.length _ hs (World.ownsRow.alloc h.out _) ⟨w.heap.size,0,none⟩ 1 1 [.string (bb x.1),.string (bb x.2)] hx rfl ?_ (by simp [Value.oneCell']) (by unfold maxLen;omega) (by omega) (by simp;omega) ?_
 ·intro j u hj
  rw [add_at,Nat.zero_add,blk_cell (blk_new w #[.string (bb x.1),.string (bb x.2)] E),← hj]
  simp
 ·intro v' w' hown hgrow _
  obtain ⟨ao,cap,rfl,_,_⟩:=own_form hown
  refine hK ao cap w' ?_ ?_
  ·rw [List.length_append,List.flatMap_append];exact hown
  ·refine ⟨hgrow.os,hgrow.tape,hgrow.output,Nat.le_trans (by simp) hgrow.size,fun k hk hne=>?_⟩
   rw [hgrow.block k (by simp;omega) hne,heap_alloc_old w _ hk]
theorem app_st {w:World}{ops:Array Oper}{rest:List Oper}{o:Oper}{a:Act}{Q:Exit→Act→World→Prop}(hg:o.guard=none)(p y:Operand)(ho:o.op=.call { callee:=.builtin .append,args:=#[p,y],argTypes:=#[31,31] })
    (B:Nat) (v:Value) (D:List Sv) (x:Sv) (k:Int) (n:ByteArray) (rv av bv:Value) (ex:svC x=[.int .i64 k,.string n,rv,av,bv]) (H:Nat) (hH:w.heap.size=H) (hs:a.eval p=v) (hx:a.eval y=.slice (some ⟨H,0,none⟩) 1 1) (h:Hid (w.ownsRow B 67 5 v D.length (D.flatMap svC))) (hl:D.length≤1000000) (hB:B≤w.heap.size)
    (h1:rv.oneCell'=true∧av.oneCell'=true∧bv.oneCell'=true)
    (hK:∀ g cap w',w'.ownsRow B 67 5 (.slice (some ⟨g,0,none⟩) (D.length+1) cap) (D ++ [x]).length ((D ++ [x]).flatMap svC)→w.grownBy w' v.ownBlock→(v.ownBlock=some g∨w.heap.size≤g)→wpList Tryz.prog ops Q rest (a.put o.dst (.slice (some ⟨g,0,none⟩) (D.length+1) cap)) w'):wpList Tryz.prog ops Q (o :: rest) a (w.alloc (.cells #[.int .i64 k,.string n,rv,av,bv] 67)):=by
 subst hH
 obtain ⟨i0,hi,hz0,hz1,hz2⟩:=info_of_cls
 refine wpList_append_lies _ hg p y 31 ho B 67 i0 _ 5 96 Tryz.underlying31 hi hz0 hz1 hz2 rfl (by decide) v D.length _ hs (World.ownsRow.alloc h.out _) ⟨w.heap.size,0,none⟩ 1 1 [.int .i64 k,.string n,rv,av,bv] hx rfl ?_ (by simp [Value.oneCell'];exact h1) (by decide) (by unfold maxLen;omega) (by omega) (by simp;omega) (w.heap.size+1) (by simp) ?_
 ·intro j u hj
  rw [add_at,Nat.zero_add,blk_cell (blk_new w #[.int .i64 k,.string n,rv,av,bv] 67),← hj]
  simp
 ·intro g cap w' hown hgrow hat _
  refine hK g cap w' ?_ ?_ (hat.imp id (fun e=>by omega))
  ·rw [List.length_append,List.flatMap_append,List.flatMap_cons,List.flatMap_nil,List.append_nil,ex];exact hown
  ·refine ⟨hgrow.os,hgrow.tape,hgrow.output,Nat.le_trans (by simp) hgrow.size,fun k hk hne=>?_⟩
   rw [hgrow.block k (by simp;omega) hne,heap_alloc_old w _ hk]
end Go.Proofs.YtgmidodmmlmmeaaGreatDoor.par
namespace Go.Proofs.YtgmidodmmlmmeaaGreatDoor.par
open lex tre prt
section
variable {pr:List UInt8→Int × Int}
def tk0 (t:Tok):Tok:=⟨t.kind,t.text,t.num,0⟩
def E (pr:List UInt8→Int × Int)(K:List Tok)(l:List UInt8):Prop:=∀ line,∃ L,tkz pr l line false=(L,0,0)∧L.map tk0=K
theorem E.nil:E pr [] []:=fun line=>⟨[],by rw [tkz_nil],rfl⟩
theorem E.lf {K:List Tok}{l:List UInt8}(h:E pr K l):E pr K (10 :: l):=fun line=>by rw [tkz_lf pr 10 l line false (by decide)];exact h _
theorem E.sp {K:List Tok}{l:List UInt8}(h:E pr K l):E pr K (32 :: l):=fun line=>by rw [tkz_skip pr 32 l line false (by decide) (by decide)];exact h _
theorem E.sps {K:List Tok}{l:List UInt8}(h:E pr K l)(m:Nat):E pr K (List.replicate m 32 ++ l):=by
 induction m with
 | zero=>exact h
 | succ m ih=>rw [List.replicate_succ];exact ih.sp
theorem E.tok {K:List Tok}{w l:List UInt8}{t:Tok}(h:E pr K l)(hw:w≠[])(h1:oneL pr (w ++ l)=(t,w.length,0))(ht:t.line=0):E pr (t :: K) (w ++ l):=fun line=>by
 cases w with
 | nil=>exact absurd rfl hw
 | cons c w =>
  rw [List.cons_append] at h1 ⊢
  have h2:(oneL pr (c :: (w ++ l))).2.2=0:=by rw [h1]
  obtain ⟨s1,s2⟩:=oneL_start pr c (w ++ l) h2
  rw [tkz_tok pr c (w ++ l) line s1 s2 h2,h1]
  have e:(c :: (w ++ l)).drop (c :: w).length=l:=by rw [← List.cons_append,List.drop_left]
  obtain ⟨L,hL,hm⟩:=h line
  refine ⟨{ t with line:=line } :: L,?_,?_⟩
  ·show comb _ (tkz pr ((c :: (w ++ l)).drop (c :: w).length) line false)=_
   rw [e,hL];unfold comb;rw [if_neg (by simp)]
  ·rw [List.map_cons,hm]
   obtain ⟨k,x,n,ln⟩:=t
   simp only at ht
   subst ht;rfl
def tkN (w:List UInt8):Tok:=⟨1,w,0,0⟩
def tkK (w:List UInt8):Tok:=⟨2,w,0,0⟩
def tkM (c:UInt8):Tok:=⟨5,[c],0,0⟩
def tkA (d:Bool):Tok:=⟨5,[45,if d then 62 else 45],0,0⟩
def tkV (pr:List UInt8→Int × Int)(v:List UInt8):Tok:=if isNm v=true then tkN v else if (pr v).2=0 then ⟨3,[],(pr v).1,0⟩ else ⟨4,v,0,0⟩
theorem E.nm {K:List Tok}{w u:List UInt8}{x:UInt8}(h:E pr K (x :: u))(hw:isNm w=true)(hx:isWd x=false):E pr (tkN w :: K) (w ++ x :: u):=by
 have hne:=(nm_word hw).2
 simp only [isNm,Bool.and_eq_true,decide_eq_true_eq,Bool.not_eq_true'] at hw
 obtain ⟨⟨⟨h1,h2⟩,h3⟩,h4⟩:=hw
 have hp:0 < w.length:=List.length_pos_iff.2 hne
 have e:wordLen (w ++ x :: u)=w.length:=by rw [wordLen_stop w u x hx,h2]
 have e2:(w ++ x :: u).take w.length=w:=List.take_left
 refine h.tok hne ?_ rfl
 unfold oneL
 rw [e,if_pos hp,e2,if_neg (by rw [h4];simp),if_neg (by omega)]
 rfl
theorem E.kw {K:List Tok}{w u:List UInt8}{x:UInt8}(h:E pr K (x :: u))(hw:isKw w=true)(hx:isWd x=false):E pr (tkK w :: K) (w ++ x :: u):=by
 obtain ⟨h2,hp⟩:=kw_word hw
 have e:wordLen (w ++ x :: u)=w.length:=by rw [wordLen_stop w u x hx,h2]
 have e2:(w ++ x :: u).take w.length=w:=List.take_left
 refine h.tok (List.length_pos_iff.1 hp) ?_ rfl
 unfold oneL
 rw [e,if_pos hp,e2,if_pos hw]
 rfl
theorem E.mk {K:List Tok}{u:List UInt8}(h:E pr K u)(c:UInt8)(hc:c∈[123,125,91,93,59,44,61,58]):E pr (tkM c :: K) (c :: u):=by
 have hm:isMk [c]=true:=by
  simp only [List.mem_cons,List.not_mem_nil,or_false] at hc
  rcases hc with rfl | rfl | rfl | rfl | rfl | rfl | rfl | rfl <;> decide
 have w0:wordLen (c :: u)=0:=by
  simp only [List.mem_cons,List.not_mem_nil,or_false] at hc
  rcases hc with rfl | rfl | rfl | rfl | rfl | rfl | rfl | rfl <;> rfl
 have n0:numLen (c :: u)=0:=by
  simp only [List.mem_cons,List.not_mem_nil,or_false] at hc
  rcases hc with rfl | rfl | rfl | rfl | rfl | rfl | rfl | rfl <;> exact numLen_no (by decide) (by rintro ⟨q,-⟩;exact absurd q (by decide))
 have q0:¬ (c :: u).head?=some 34:=by
  simp only [List.mem_cons,List.not_mem_nil,or_false] at hc
  rcases hc with rfl | rfl | rfl | rfl | rfl | rfl | rfl | rfl <;> simp
 have t0:¬ (1 < (c :: u).length∧isMk ((c :: u).take 2)=true):=by
  rintro ⟨q1,q2⟩
  cases u with
  | nil=>simp at q1
  | cons y u =>
   rw [show (c :: y :: u).take 2=[c,y] from rfl,mk_no c hc y] at q2
   cases q2
 have e:oneL pr (c :: u)=(⟨5,[c],0,0⟩,1,0):=by
  unfold oneL
  rw [w0,n0,if_neg (by decide),if_neg (by decide),if_neg q0,if_neg t0,show (c :: u).take 1=[c] from rfl,if_pos hm]
 exact h.tok (w:=[c]) (t:=tkM c) (by simp) (by rw [List.singleton_append,e];rfl) rfl
theorem E.arrow {K:List Tok}{u:List UInt8}(h:E pr K u)(d:Bool):E pr (tkA d :: K) (45 :: (if d then 62 else 45) :: u):=by
 have e:oneL pr (45 :: (if d then 62 else 45) :: u)=(⟨5,[45,if d then 62 else 45],0,0⟩,2,0):=by
  unfold oneL
  have w0:wordLen (45 :: (if d then 62 else 45) :: u)=0:=rfl
  have n0:numLen (45 :: (if d then 62 else 45) :: u)=0:=numLen_no (by decide) (by rintro ⟨-,q⟩;rw [List.head?_cons,Option.map_some,Option.some.injEq] at q;cases d <;> exact absurd q (by decide))
  have t0:1 < (45 :: (if d then 62 else 45) :: u:List UInt8).length∧isMk ((45 :: (if d then 62 else 45) :: u:List UInt8).take 2)=true:=⟨by simp,by cases d <;> rfl⟩
  rw [w0,n0,if_neg (by decide),if_neg (by decide),if_neg (by simp),if_pos t0]
  rfl
 exact h.tok (w:=[45,if d then 62 else 45]) (t:=tkA d) (by simp) (by rw [List.cons_append,List.singleton_append,e];rfl) rfl
theorem E.num {K:List Tok}{v u:List UInt8}{x:UInt8}(h:E pr K (x :: u))(hv:numForm v)(he:(pr v).2=0)(hx:isNb x=false):E pr (⟨3,[],(pr v).1,0⟩ :: K) (v ++ x :: u):=by
 have hne:=(num_uq hv).2
 have hw:isWd x=false:=by unfold isNb at hx;rw [Bool.or_eq_false_iff] at hx;exact hx.1
 have e1:wordLen (v ++ x :: u)=0:=by rw [wordLen_stop v u x hw,numForm_word hv]
 have e2:numLen (v ++ x :: u)=v.length:=by rw [numLen_stop v u x hne hx,numForm_len hv]
 have e3:(v ++ x :: u).take v.length=v:=List.take_left
 have hp:0 < v.length:=List.length_pos_iff.2 hne
 refine h.tok hne ?_ rfl
 unfold oneL
 rw [e1,e2,if_neg (by decide),if_pos hp,e3,he]
theorem E.quo {K:List Tok}{v u:List UInt8}(h:E pr K u)(h1:v.length≤32)(h2:v.all isPl=true):E pr (⟨4,v,0,0⟩ :: K) (quoL v ++ u):=by
 have e:=strL_esc v [] 1 h2 (by simpa using h1)
 have e2:=strL_app u (escL v ++ [34]).length (escL v ++ [34]) [] 1 (Nat.le_refl _) (by rw [e])
 rw [e] at e2
 have w0:wordLen (quoL v ++ u)=0:=rfl
 have n0:numLen (quoL v ++ u)=0:=rfl
 have e3:(quoL v ++ u).tail=escL v ++ [34] ++ u:=rfl
 have q:(quoL v ++ u).head?=some 34:=rfl
 refine h.tok (by simp [quoL]) ?_ rfl
 unfold oneL
 rw [w0,n0,if_neg (by decide),if_neg (by decide),if_pos q,e3,e2]
 simp [quoL];omega
theorem E.val (hp:∀ l,(pr l).2=0→numForm l){K:List Tok}{v u:List UInt8}{x:UInt8}(h:E pr K (x :: u))(h1:v.length≤32)(h2:v.all isPl=true)(hx:isUq x=false):E pr (tkV pr v :: K) (valS pr v ++ x :: u):=by
 have hn:isNb x=false:=by unfold isUq at hx;rw [Bool.or_eq_false_iff] at hx;exact hx.1
 have hw:isWd x=false:=by unfold isNb at hn;rw [Bool.or_eq_false_iff] at hn;exact hn.1
 unfold valS tkV
 split
 ·rename_i hv;exact h.nm hv hw
 ·split
  ·rename_i hv;exact h.num (hp v hv) hv hn
  ·exact h.quo h1 h2
def attK (pr:List UInt8→Int × Int)(a:Pr)(K:List Tok):List Tok:=tkN a.1 :: tkM 61 :: tkV pr a.2 :: K
def attTK (pr:List UInt8→Int × Int):List Pr→List Tok→List Tok
 | [],K=>tkM 93 :: K
 | a :: t,K=>tkM 44 :: attK pr a (attTK pr t K)
def attSK (pr:List UInt8→Int × Int):List Pr→List Tok→List Tok
 | [],K=>K
 | a :: t,K=>tkM 91 :: attK pr a (attTK pr t K)
def prtK (p:List UInt8)(K:List Tok):List Tok:=if p.isEmpty then K else tkM 58 :: tkN p :: K
def refK (r:Pr)(K:List Tok):List Tok:=tkN r.1 :: prtK r.2 K
def refTK (d:Bool):List Pr→List Tok→List Tok
 | [],K=>K
 | r :: t,K=>tkA d :: refK r (refTK d t K)
theorem E.att (hp:∀ l,(pr l).2=0→numForm l){K:List Tok}{a:Pr}{u:List UInt8}{x:UInt8}(h:E pr K (x :: u))(ha:isNm a.1=true∧a.2.length≤32∧a.2.all isPl=true)(hx:isUq x=false):E pr (attK pr a K) (attB pr a ++ x :: u):=by
 unfold attB
 rw [List.append_assoc,List.cons_append]
 exact ((h.val hp ha.2.1 ha.2.2 hx).mk 61 (by decide)).nm ha.1 (by decide)
theorem E.attT (hp:∀ l,(pr l).2=0→numForm l){K:List Tok}{u:List UInt8}(h:E pr K u):∀ {l:List Pr},attOk l→E pr (attTK pr l K) (attT pr l ++ u):=by
 intro l
 induction l with
 | nil=>intro _;exact h.mk 93 (by decide)
 | cons a t ih =>
  intro hl
  have h2:=ih (fun y hy=>hl y (List.mem_cons_of_mem _ hy))
  obtain ⟨x,q,e,hx⟩:=attT_head (pr:=pr) t u
  rw [e] at h2
  simp only [prt.attT,List.cons_append,List.append_assoc]
  rw [e]
  exact ((h2.att hp (hl a (by simp)) hx).sp).mk 44 (by decide)
theorem E.attS (hp:∀ l,(pr l).2=0→numForm l){K:List Tok}{u:List UInt8}(h:E pr K u){l:List Pr}(hl:attOk l):E pr (attSK pr l K) (attS pr l ++ u):=by
 cases l with
 | nil=>exact h
 | cons a t =>
  have h2:=h.attT hp (l:=t) (fun y hy=>hl y (List.mem_cons_of_mem _ hy))
  obtain ⟨x,q,e,hx⟩:=attT_head (pr:=pr) t u
  rw [e] at h2
  simp only [prt.attS,List.cons_append,List.append_assoc]
  rw [e]
  exact (h2.att hp (hl a (by simp)) hx).mk 91 (by decide)
theorem E.aft (hp:∀ l,(pr l).2=0→numForm l){K:List Tok}{u:List UInt8}(h:E pr K u){l:List Pr}(hl:attOk l):E pr (attSK pr l K) (aft pr l ++ u):=by
 unfold prt.aft
 split
 ·rename_i he
  have:l=[]:=List.isEmpty_iff.1 he
  subst this;exact h
 ·exact (h.attS hp hl).sp
theorem E.port {K:List Tok}{p u:List UInt8}(h:E pr K u)(hs:PStop u)(hw:p=[]∨isNm p=true):E pr (prtK p K) (prtP p ++ u):=by
 unfold prtP prtK
 split
 ·exact h
 ·rename_i hp
  obtain ⟨x,q,rfl,hx,-⟩:=hs.cons
  rcases hw with rfl | hw
  ·simp at hp
  ·exact (h.nm hw hx).mk 58 (by decide)
theorem E.ref {K:List Tok}{d:Bool}{r:Pr}{t:List Pr}{u:List UInt8}(h:E pr K (refT d t ++ u))(hs:RStop u)(hr:isNm r.1=true∧(r.2=[]∨isNm r.2=true)):E pr (refK r K) (r.1 ++ (prtP r.2 ++ (refT d t ++ u))):=by
 have h2:=h.port (refT_stop d t hs) hr.2
 obtain ⟨x,q,e,hx⟩:=prtP_head r.2 (refT_stop d t hs)
 rw [e] at h2 ⊢
 exact h2.nm hr.1 hx
theorem E.refT {K:List Tok}{d:Bool}{u:List UInt8}(h:E pr K u)(hs:RStop u):∀ {l:List Pr},refOk l→E pr (refTK d l K) (refT d l ++ u):=by
 intro l
 induction l with
 | nil=>intro _;exact h
 | cons r t ih =>
  intro hl
  have h2:=ih (fun y hy=>hl y (List.mem_cons_of_mem _ hy))
  simp only [prt.refT,List.cons_append,List.append_assoc]
  exact ((h2.ref hs (hl r (by simp))).sp.arrow d).sp
mutual
def stK (pr:List UInt8→Int × Int)(d:Bool):St→List Tok→List Tok
 | .mk k n r a b,K =>
  if k=1 then tkN n :: attSK pr a (tkM 59 :: K)
  else if k=2 then (match r with
   | []=>attSK pr a (tkM 59 :: K)
   | r :: t=>refK r (refTK d t (attSK pr a (tkM 59 :: K))))
  else if k=3 then tkK n :: (if a.isEmpty then tkM 91 :: tkM 93 :: tkM 59 :: K else attSK pr a (tkM 59 :: K))
  else if k=4 then tkK wSet :: tkN n :: tkM 61 :: tkV pr ((a.head?.map (·.2)).getD []) :: tkM 59 :: K
  else tkK wClu :: tkN n :: tkM 123 :: slK pr d b (tkM 125 :: K)
def slK (pr:List UInt8→Int × Int)(d:Bool):List St→List Tok→List Tok
 | [],K=>K
 | s :: t,K=>stK pr d s (slK pr d t K)
end
def txtK (pr:List UInt8→Int × Int)(T:Tr):List Tok:=tkK (wDir T.dir) :: tkN T.name :: tkM 123 :: slK pr T.dir T.body [tkM 125]
theorem stm_E (hp:∀ l,(pr l).2=0→numForm l):(∀ s:St,∀ d m K u,vS s→E pr K u→E pr (stK pr d s K) (stS pr d m s ++ u))∧∀ l:List St,∀ d m K u,vL l→E pr K u→E pr (slK pr d l K) (stL pr d m l ++ u):=by
 refine st_ind (fun kd n r a b hb d m K u hv hu=>?_) (fun d m K u _ hu=>hu) (fun s t ih1 ih2 d m K u hv hu=>?_)
 ·have hend:E pr (tkM 59 :: K) (59 :: 10 :: u):=hu.lf.mk 59 (by decide)
  have hvals:=hv.vals
  have hatt:=hv.att
  have hbody:=hv.body
  have hf:=hv.form
  clear hv
  cases hf with
  | node n a hn hk =>
   have e:stS pr d m (.mk 1 n [] a []) ++ u=List.replicate m 32 ++ (n ++ (aft pr a ++ 59 :: 10 :: u)):=by simp [stS]
   rw [e]
   have h2:=hend.aft hp (hatt (show (1:Int)≠4 by decide))
   obtain ⟨x,t,e2,hx⟩:=aft_head (pr:=pr) a (10 :: u)
   change E pr (attSK pr a (tkM 59 :: K)) (aft pr a ++ 59 :: 10 :: u) at h2
   rw [e2] at h2 ⊢
   exact (h2.nm hn hx).sps m
  | edge r r2 q a hr hk =>
   have e:stS pr d m (.mk 2 [] (r :: r2 :: q) a []) ++ u=List.replicate m 32 ++ (r.1 ++ (prtP r.2 ++ (refT d (r2 :: q) ++ (aft pr a ++ 59 :: 10 :: u)))):=by simp [stS,refS]
   rw [e]
   have h2:E pr (attSK pr a (tkM 59 :: K)) (aft pr a ++ 59 :: 10 :: u):=hend.aft hp (hatt (show (2:Int)≠4 by decide))
   have h3:=h2.refT (d:=d) (aft_stop (pr:=pr) a (10 :: u)) (l:=r2 :: q) (fun y hy=>hr y (List.mem_cons_of_mem _ hy))
   exact (h3.ref (aft_stop (pr:=pr) a (10 :: u)) (hr r (by simp))).sps m
  | dflt n a hn hk =>
   have e:stS pr d m (.mk 3 n [] a []) ++ u=List.replicate m 32 ++ (n ++ 32 :: ((if a.isEmpty then [91,93] else attS pr a) ++ 59 :: 10 :: u)):=by simp [stS]
   rw [e]
   have h2:E pr (if a.isEmpty then tkM 91 :: tkM 93 :: tkM 59 :: K else attSK pr a (tkM 59 :: K)) ((if a.isEmpty then [91,93] else attS pr a) ++ 59 :: 10 :: u):=by
    split
    ·exact (hend.mk 93 (by decide)).mk 91 (by decide)
    ·exact hend.attS hp (hatt (show (3:Int)≠4 by decide))
   exact (h2.sp.kw (w:=n) (by rcases hn with rfl | rfl <;> decide) (by decide)).sps m
  | sset n v hn =>
   have e:stS pr d m (.mk 4 n [] [([],v)] []) ++ u=List.replicate m 32 ++ (wSet ++ 32 :: (n ++ 32 :: 61 :: 32 :: (valS pr v ++ 59 :: 10 :: u))):=by simp [stS]
   rw [e]
   obtain ⟨q1,q2⟩:=hvals ([],v) (by simp [St.attrs])
   have h2:=(((hend.val hp q1 q2 (by decide)).sp.mk 61 (by decide)).sp.nm hn (by decide)).sp
   exact (h2.kw (w:=wSet) (by decide) (by decide)).sps m
  | clus n b hn =>
   have e:stS pr d m (.mk 5 n [] [] b) ++ u=List.replicate m 32 ++ (wClu ++ 32 :: (n ++ 32 :: 123 :: 10 :: (stL pr d (m+4) b ++ (List.replicate m 32 ++ 125 :: 10 :: u)))):=by simp [stS]
   rw [e]
   have h1:E pr (tkM 125 :: K) (List.replicate m 32 ++ 125 :: 10 :: u):=(hu.lf.mk 125 (by decide)).sps m
   have h2:=(((hb d (m+4) _ _ hbody h1).lf.mk 123 (by decide)).sp.nm hn (by decide)).sp
   exact (h2.kw (w:=wClu) (by decide) (by decide)).sps m
 ·simp only [stL,List.append_assoc]
  exact ih1 d m _ _ hv.cons.1 (ih2 d m K u hv.cons.2 hu)
theorem txt_E (hp:∀ l,(pr l).2=0→numForm l){T:Tr}(h:validT T=0):E pr (txtK pr T) (txtT pr T):=by
 obtain ⟨hn,_,hv⟩:=(valid_iff T).1 h
 unfold txtT
 have h1:E pr [tkM 125] [125,10]:=(E.nil.lf).mk 125 (by decide)
 have h2:=(((stm_E hp).2 T.body T.dir 4 _ _ ⟨0,hv⟩ h1).lf.mk 123 (by decide)).sp.nm hn (by decide)
 exact h2.sp.kw (w:=wDir T.dir) (by cases T.dir <;> decide) (by decide)
end
inductive Rz (α:Type) where
 | ok (a:α) (r:List Tok)
 | er (e:Int) (r:List Tok)
def Rz.bnd {α β:Type}:Rz α→(α→List Tok→Rz β)→Rz β
 | .ok a r,f=>f a r
 | .er e r,_=>.er e r
theorem bnd_ok {α β:Type}(a:α)(r:List Tok)(f:α→List Tok→Rz β):(Rz.ok a r).bnd f=f a r:=rfl
def isT (k:Int)(c:List UInt8):List Tok→Bool
 | []=>false
 | t :: _=>decide (t.kind=k) && decide (t.text=c)
def wantM (c:List UInt8)(l:List Tok):Rz Unit:=if isT 5 c l then .ok () l.tail else .er 4 l
def nameR:List Tok→Rz (List UInt8)
 | []=>.er 4 []
 | t :: r=>if t.kind=1 then .ok t.text r else .er 4 (t :: r)
section
variable (fm:Int→List UInt8)
def valR:List Tok→Rz (List UInt8)
 | []=>.er 4 []
 | t :: r=>if t.kind=1∨t.kind=4 then .ok t.text r else if t.kind=3 then .ok (fm t.num) r else .er 4 (t :: r)
def attR (l:List Tok):Rz Pr:=(nameR l).bnd fun k l=>(wantM [61] l).bnd fun _ l=>(valR fm l).bnd fun v l=>.ok (k,v) l
def attrsF:Nat→List Tok→Rz (List Pr)
 | 0,l=>.er 4 l
 | n+1,l=>(attR fm l).bnd fun a l=>if isT 5 [44] l then (attrsF n l.tail).bnd fun aq l=>.ok (a :: aq) l else (wantM [93] l).bnd fun _ l=>.ok [a] l
def attrsR (l:List Tok):Rz (List Pr):=(wantM [91] l).bnd fun _ l=>if isT 5 [93] l then .ok [] l.tail else attrsF fm (l.length+1) l
def refR (l:List Tok):Rz Pr:=(nameR l).bnd fun n l=>if isT 5 [58] l then (nameR l.tail).bnd fun p l=>.ok (n,p) l else .ok (n,[]) l
def arrow (d:Bool):List UInt8:=[45,if d then 62 else 45]
def refsF (d:Bool):Nat→List Tok→Rz (List Pr)
 | 0,l=>.ok [] l
 | n+1,l=>if isT 5 (arrow d) l then (refR l.tail).bnd fun r l=>(refsF d n l).bnd fun rs l=>.ok (r :: rs) l else .ok [] l
def optR (l:List Tok):Rz (List Pr):=if isT 5 [91] l then attrsR fm l else .ok [] l
def chainR (d:Bool)(l:List Tok):Rz St:=(refR l).bnd fun f l =>
 if f.2≠[]∨isT 5 (arrow d) l=true then (wantM (arrow d) l).bnd fun _ l=>(refR l).bnd fun r l=>(refsF d (l.length+1) l).bnd fun rs l=>(optR fm l).bnd fun a l=>(wantM [59] l).bnd fun _ l=>.ok (.mk 2 [] (f :: r :: rs) a []) l
 else (optR fm l).bnd fun a l=>(wantM [59] l).bnd fun _ l=>.ok (.mk 1 f.1 [] a []) l
mutual
def stmtF (d:Bool):Nat→Nat→List Tok→Rz St
 | 0,_,l=>.er 4 l
 | n+1,dep,l =>
  if isT 2 wNode l then (attrsR fm l.tail).bnd fun a l=>(wantM [59] l).bnd fun _ l=>.ok (.mk 3 wNode [] a []) l
  else if isT 2 wEdge l then (attrsR fm l.tail).bnd fun a l=>(wantM [59] l).bnd fun _ l=>.ok (.mk 3 wEdge [] a []) l
  else if isT 2 wSet l then (nameR l.tail).bnd fun x l=>(wantM [61] l).bnd fun _ l=>(valR fm l).bnd fun v l=>(wantM [59] l).bnd fun _ l=>.ok (.mk 4 x [] [([],v)] []) l
  else if isT 2 wClu l then (nameR l.tail).bnd fun x l=>if isT 5 [123] l=true∧6≤dep then .er 2 l else (wantM [123] l).bnd fun _ l=>(stmtsF d n (dep+1) l).bnd fun b l=>.ok (.mk 5 x [] [] b) l
  else chainR fm d l
def stmtsF (d:Bool):Nat→Nat→List Tok→Rz (List St)
 | 0,_,l=>.er 4 l
 | n+1,dep,l=>if isT 5 [125] l then .ok [] l.tail else (stmtF d n dep l).bnd fun s l=>(stmtsF d n dep l).bnd fun t l=>.ok (s :: t) l
end
def endR {α:Type}(x:Rz α):Rz α:=x.bnd fun a l=>if l.isEmpty then .ok a l else .er 4 l
def treeR (l:List Tok):Rz Tr :=
 if isT 2 (wDir true) l=true∨isT 2 (wDir false) l=true then (nameR l.tail).bnd fun x l'=>(wantM [123] l').bnd fun _ l'=>(stmtsF fm (isT 2 (wDir true) l) (l'.length+1) 0 l').bnd fun b l'=>.ok ⟨x,isT 2 (wDir true) l,b⟩ l'
 else .er 4 l
theorem isT_cons (k:Int)(c:List UInt8)(t:Tok)(r:List Tok):isT k c (t :: r)=(decide (t.kind=k) && decide (t.text=c)):=rfl
theorem want_M (c:UInt8)(K:List Tok):wantM [c] (tkM c :: K)=.ok () K:=by unfold wantM;rw [isT_cons];simp [tkM]
theorem want_A (d:Bool)(K:List Tok):wantM (arrow d) (tkA d :: K)=.ok () K:=by unfold wantM;rw [isT_cons];simp [tkA,arrow]
theorem isT_M (c x:UInt8)(K:List Tok):isT 5 [c] (tkM x :: K)=decide (x=c):=by rw [isT_cons];simp [tkM]
theorem isT_A (c:UInt8)(d:Bool)(K:List Tok):isT 5 [c] (tkA d :: K)=false:=by rw [isT_cons];simp [tkA]
theorem isA_A (d:Bool)(K:List Tok):isT 5 (arrow d) (tkA d :: K)=true:=by rw [isT_cons];simp [tkA,arrow]
theorem isA_M (d:Bool)(x:UInt8)(K:List Tok):isT 5 (arrow d) (tkM x :: K)=false:=by rw [isT_cons];simp [tkM,arrow]
theorem isT_N (c w:List UInt8)(K:List Tok):isT 5 c (tkN w :: K)=false:=by rw [isT_cons];simp [tkN]
theorem isK_N (c w:List UInt8)(K:List Tok):isT 2 c (tkN w :: K)=false:=by rw [isT_cons];simp [tkN]
theorem isK_K (c w:List UInt8)(K:List Tok):isT 2 c (tkK w :: K)=decide (w=c):=by rw [isT_cons];show (decide ((2:Int)=2) && decide (w=c))=decide (w=c);rw [show decide ((2:Int)=2)=true from rfl,Bool.true_and]
theorem isT_K (c w:List UInt8)(K:List Tok):isT 5 c (tkK w :: K)=false:=by rw [isT_cons];simp [tkK]
theorem name_N (w:List UInt8)(K:List Tok):nameR (tkN w :: K)=.ok w K:=rfl
section
variable {fm:Int→List UInt8} {pr:List UInt8→Int × Int}
theorem val_V (hc:∀ v,(pr v).2=0→fm (pr v).1=v)(v:List UInt8)(K:List Tok):valR fm (tkV pr v :: K)=.ok v K:=by
 unfold tkV
 split
 ·rfl
 ·split
  ·rename_i h;show Rz.ok (fm (pr v).1) K=_;rw [hc v h]
  ·rfl
theorem att_K (hc:∀ v,(pr v).2=0→fm (pr v).1=v)(a:Pr)(K:List Tok):attR fm (attK pr a K)=.ok a K:=by
 unfold attR attK
 rw [name_N,bnd_ok,want_M,bnd_ok,val_V hc];rfl
theorem attT_K (hc:∀ v,(pr v).2=0→fm (pr v).1=v):∀ (l:List Pr) (a:Pr) (K:List Tok) (n:Nat),l.length < n→attrsF fm n (attK pr a (attTK pr l K))=.ok (a :: l) K:=by
 intro l
 induction l with
 | nil =>
  intro a K n hn
  obtain ⟨n,rfl⟩:∃ m,n=m+1:=⟨n - 1,by omega⟩
  unfold attrsF
  rw [att_K hc,bnd_ok]
  show (if isT 5 [44] (tkM 93 :: K)=true then _ else (wantM [93] (tkM 93 :: K)).bnd _)=_
  rw [isT_M,if_neg (by decide),want_M];rfl
 | cons b t ih =>
  intro a K n hn
  rw [List.length_cons] at hn
  obtain ⟨n,rfl⟩:∃ m,n=m+1:=⟨n - 1,by omega⟩
  unfold attrsF
  rw [att_K hc,bnd_ok]
  show (if isT 5 [44] (tkM 44 :: attK pr b (attTK pr t K))=true then (attrsF fm n (attK pr b (attTK pr t K))).bnd _ else _)=_
  rw [isT_M,if_pos (by decide),ih b K n (by omega)];rfl
theorem attTK_len (l:List Pr)(K:List Tok):l.length≤(attTK pr l K).length:=by
 induction l with
 | nil=>exact Nat.zero_le _
 | cons a t ih=>show t.length+1≤(tkM 44 :: attK pr a (attTK pr t K)).length;unfold attK;simp only [List.length_cons];omega
theorem attS_K (hc:∀ v,(pr v).2=0→fm (pr v).1=v){l:List Pr}(hl:l≠[])(K:List Tok):attrsR fm (attSK pr l K)=.ok l K:=by
 cases l with
 | nil=>exact absurd rfl hl
 | cons a t =>
  unfold attrsR attSK
  rw [want_M,bnd_ok]
  rw [show isT 5 [93] (attK pr a (attTK pr t K))=false from isT_N _ _ _,if_neg (by decide)]
  refine attT_K hc t a K _ ?_
  have:=attTK_len (pr:=pr) t K
  unfold attK
  simp only [List.length_cons];omega
theorem isT_att (c:UInt8)(a:List Pr)(K:List Tok)(hc:c≠91)(hk:c≠59):isT 5 [c] (attSK pr a (tkM 59 :: K))=false:=by
 cases a with
 | nil=>show isT 5 [c] (tkM 59 :: K)=false;rw [isT_M];simpa using Ne.symm hk
 | cons a t=>show isT 5 [c] (tkM 91 :: _)=false;rw [isT_M];simpa using Ne.symm hc
theorem isA_att (d:Bool)(a:List Pr)(K:List Tok):isT 5 (arrow d) (attSK pr a (tkM 59 :: K))=false:=by
 cases a with
 | nil=>exact isA_M _ _ _
 | cons a t=>exact isA_M _ _ _
theorem opt_K (hc:∀ v,(pr v).2=0→fm (pr v).1=v)(a:List Pr)(K:List Tok):optR fm (attSK pr a (tkM 59 :: K))=.ok a (tkM 59 :: K):=by
 unfold optR
 cases a with
 | nil=>rw [show attSK pr [] (tkM 59 :: K)=tkM 59 :: K from rfl,isT_M,if_neg (by decide)]
 | cons b t =>
  rw [show isT 5 [91] (attSK pr (b :: t) (tkM 59 :: K))=true from isT_M _ _ _,if_pos rfl]
  exact attS_K hc (by simp) _
theorem ref_K (r:Pr)(K:List Tok)(h:isT 5 [58] K=false):refR (refK r K)=.ok r K:=by
 obtain ⟨n,p⟩:=r
 unfold refR refK prtK
 rw [name_N,bnd_ok]
 cases p with
 | nil=>simp only [List.isEmpty_nil,if_true];rw [h,if_neg (by decide)]
 | cons x p=>simp only [List.isEmpty_cons,Bool.false_eq_true,if_false];rw [isT_M,if_pos (by decide)];rfl
theorem isT_refT (d:Bool)(l:List Pr)(a:List Pr)(K:List Tok):isT 5 [58] (refTK d l (attSK pr a (tkM 59 :: K)))=false:=by
 cases l with
 | nil=>exact isT_att _ _ _ (by decide) (by decide)
 | cons r t=>exact isT_A _ _ _
theorem refT_K (d:Bool)(a:List Pr)(K:List Tok):∀ (l:List Pr) (n:Nat),l.length < n→refsF d n (refTK d l (attSK pr a (tkM 59 :: K)))=.ok l (attSK pr a (tkM 59 :: K)):=by
 intro l
 induction l with
 | nil =>
  intro n hn
  obtain ⟨n,rfl⟩:∃ m,n=m+1:=⟨n - 1,by omega⟩
  unfold refsF
  rw [show refTK d [] (attSK pr a (tkM 59 :: K))=attSK pr a (tkM 59 :: K) from rfl,isA_att,if_neg (by decide)]
 | cons r t ih =>
  intro n hn
  rw [List.length_cons] at hn
  obtain ⟨n,rfl⟩:∃ m,n=m+1:=⟨n - 1,by omega⟩
  unfold refsF
  rw [show refTK d (r :: t) (attSK pr a (tkM 59 :: K))=tkA d :: refK r (refTK d t (attSK pr a (tkM 59 :: K))) from rfl,isA_A,if_pos rfl,List.tail_cons,ref_K r _ (isT_refT d t a K),bnd_ok,ih n (by omega)]
  rfl
theorem refTK_len (d:Bool)(l:List Pr)(K:List Tok):l.length≤(refTK d l K).length:=by
 induction l with
 | nil=>exact Nat.zero_le _
 | cons a t ih=>show t.length+1≤(tkA d :: refK a (refTK d t K)).length;unfold refK prtK;split <;> simp only [List.length_cons] <;> omega
theorem sl_len (d:Bool):(∀ s:St,vS s→∀ K,2*cnt [s]+K.length≤(stK pr d s K).length)∧∀ l:List St,vL l→∀ K,2*cnt l+K.length≤(slK pr d l K).length:=by
 have attSK_len:∀ (l:List Pr) (K:List Tok),K.length≤(attSK pr l K).length:=by
  intro l K
  have h:∀ l:List Pr,K.length≤(attTK pr l K).length:=by
   intro l
   induction l with
   | nil=>exact Nat.le_succ _
   | cons a t ih=>show K.length≤(tkM 44 :: attK pr a (attTK pr t K)).length;unfold attK;simp only [List.length_cons];omega
  cases l with
  | nil=>exact Nat.le_refl _
  | cons a t=>show K.length≤(tkM 91 :: attK pr a (attTK pr t K)).length;have:=h t;unfold attK;simp only [List.length_cons];omega
 refine st_ind (fun kd n r a b hb hv K=>?_) (fun _ K=>by rw [cnt_nil];show _≤K.length;omega) (fun s t h1 h2 hv K=>?_)
 ·have hbody:=hv.body
  have hf:=hv.form
  have hk:∀ b:List St,cnt [.mk kd n r a b]=1+cnt b:=fun b=>by rw [cnt_cons,cnt_nil];rfl
  clear hv
  cases hf with
  | node n a hn hk =>
   have:=attSK_len a (tkM 59 :: K)
   rw [cnt_cons,cnt_nil]
   show 2*(1+cnt []+0)+K.length≤(tkN n :: attSK pr a (tkM 59 :: K)).length
   rw [cnt_nil];simp only [List.length_cons] at this ⊢;omega
  | edge r r2 q a hr hk =>
   have:=attSK_len a (tkM 59 :: K)
   rw [cnt_cons,cnt_nil]
   show 2*(1+cnt []+0)+K.length≤(refK r (refTK d (r2 :: q) (attSK pr a (tkM 59 :: K)))).length
   have h2:∀ (l:List Pr) (M:List Tok),M.length≤(refTK d l M).length:=by
    intro l M
    induction l with
    | nil=>exact Nat.le_refl _
    | cons a t ih=>show M.length≤(tkA d :: refK a (refTK d t M)).length;unfold refK prtK;split <;> simp only [List.length_cons] <;> omega
   have h3:=h2 (r2 :: q) (attSK pr a (tkM 59 :: K))
   have h4:∀ (r:Pr) (M:List Tok),M.length+1≤(refK r M).length:=fun r M=>by unfold refK prtK;split <;> simp only [List.length_cons] <;> omega
   have h5:=h4 r (refTK d (r2 :: q) (attSK pr a (tkM 59 :: K)))
   rw [cnt_nil];simp only [List.length_cons] at this ⊢;omega
  | dflt n a hn hk =>
   have:=attSK_len a (tkM 59 :: K)
   rw [cnt_cons,cnt_nil]
   show 2*(1+cnt []+0)+K.length≤(tkK n :: (if a.isEmpty then tkM 91 :: tkM 93 :: tkM 59 :: K else attSK pr a (tkM 59 :: K))).length
   rw [cnt_nil];split <;> simp only [List.length_cons] at this ⊢ <;> omega
  | sset n v hn =>
   rw [cnt_cons,cnt_nil]
   show 2*(1+cnt []+0)+K.length≤(tkK wSet :: tkN n :: tkM 61 :: tkV pr v :: tkM 59 :: K).length
   rw [cnt_nil];simp only [List.length_cons];omega
  | clus n b hn =>
   rw [cnt_cons,cnt_nil]
   show 2*(1+cnt b+0)+K.length≤(tkK wClu :: tkN n :: tkM 123 :: slK pr d b (tkM 125 :: K)).length
   have:=hb hbody (tkM 125 :: K)
   simp only [List.length_cons] at this ⊢;omega
 ·have e1:=h1 hv.cons.1 (slK pr d t K)
  have e2:=h2 hv.cons.2 K
  rw [cnt_cons]
  rw [cnt_cons,cnt_nil] at e1
  show _≤(stK pr d s (slK pr d t K)).length
  omega
end
end
end Go.Proofs.YtgmidodmmlmmeaaGreatDoor.par
