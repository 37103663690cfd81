/-
  Plain facts on the export of graphs (layer 13): the tree that a graph is written as; ports are read back. No function of the program is named here; conditions as each theorem states them.
  The memory of what is written (layer 13): blocks known whole, rows that a call makes, what holds in every world that agrees on their blocks. No function of the program is named here; no condition.
  What the small functions of the reference of layer 13 return: the name of a side, the statement that sets an option. Conditions as each theorem states them.
  A region that draws its order, where the last store may change what the reads ahead of it saw: S is asked behind every operation but number z, and z waits for whatever was read under S. No function of the program is named here; no condition.
  A statement that is being made, in memory: its attributes grow by one (layer 13). Conditions: as each theorem states them.
  What the small functions of the landed export return (layer 13): the word for a side, for a mode of layout. Condition: a side, a mode.
  Plain facts on the export of graphs (layer 13): the attributes of nodes and edges are accepted, and read back to them. No function of the program is named here; conditions as each theorem states them.
  Plain facts on the export of graphs (layer 13): the tree that a graph is written as is normalized to the graph. No function of the program is named here; conditions as each theorem states them.
-/
import Derived.Test.YtgmidodmmlmmeaaGreatDoorMga
import Derived.Test.YtgmidodmmlmmeaaGreatDoorMnb
namespace Go.Proofs.YtgmidodmmlmmeaaGreatDoor.xpt
open lex tre att nor
def sideW (n:Int):List UInt8:=sides.getD n.toNat []
def portT (p:gra.Pt):List UInt8:=p.1 ++ 32 :: sideW p.2
def portsT:List gra.Pt→List UInt8
 | []=>[]
 | [p]=>portT p
 | p :: q :: t=>portT p ++ 44 :: 32 :: portsT (q :: t)
def nodeA (x:gra.Nd):List Pr :=
 (if x.h=10000 then [] else [(wHeight,fmtL x.h)]) ++ ((if x.lb=x.nm then [] else [(wLabel,x.lb)]) ++ ((if x.ps=[] then [] else [(wPorts,portsT x.ps)]) ++ (if x.w=20000 then [] else [(wWidth,fmtL x.w)])))
def nodeS (x:gra.Nd):St:=.mk 1 x.nm [] (nodeA x) []
def ndAt (ns:List gra.Nd)(v:Int):gra.Nd:=ns.getD v.toNat ⟨[],[],0,0,0,[]⟩
def refP (x:gra.Nd)(p:Int):Pr:=(x.nm,if p < 0 then [] else (x.ps.getD p.toNat ([],0)).1)
def edgeA (e:gra.Ed):List Pr :=
 (if e.lb=[] then [] else [(wLabel,e.lb)]) ++ ((if e.ln=1 then [] else [(wLen,fmtL (1000*e.ln))]) ++ (if e.wt=1 then [] else [(wWeight,fmtL (1000*e.wt))]))
def edgeS (ns:List gra.Nd)(e:gra.Ed):St:=.mk 2 [] [refP (ndAt ns e.fr) e.fp,refP (ndAt ns e.to) e.tp] (edgeA e) []
def inC (g:gra.Gr)(n k:Nat):Bool:=(gra.mems g k).contains n || (gra.mems g k).isEmpty
def blkW (g:gra.Gr):Nat→Int→Nat→Nat→List St × Nat × Nat
 | 0,_,n,k=>([],n,k)
 | f+1,c,n,k =>
  match g.cs[k]? with
  | some x =>
   if x.2=c∧inC g n k=true then
    (.mk 5 x.1 [] [] (blkW g f k n (k+1)).1 :: (blkW g f c (blkW g f k n (k+1)).2.1 (blkW g f k n (k+1)).2.2).1,(blkW g f c (blkW g f k n (k+1)).2.1 (blkW g f k n (k+1)).2.2).2)
   else match g.ns[n]? with
    | some y=>if y.cl=c then (nodeS y :: (blkW g f c (n+1) k).1,(blkW g f c (n+1) k).2) else ([],n,k)
    | none=>([],n,k)
  | none=>match g.ns[n]? with
      | some y=>if y.cl=c then (nodeS y :: (blkW g f c (n+1) k).1,(blkW g f c (n+1) k).2) else ([],n,k)
      | none=>([],n,k)
def setS (k v:List UInt8):St:=.mk 4 k [] [([],v)] []
def optS (o:Op'):List St :=
 (if o.mode=0 then [] else [setS wMode (modes.getD o.mode.toNat [])]) ++ ((if o.ns=10000 then [] else [setS wNodesep (fmtL o.ns)]) ++ ((if o.rs=20000 then [] else [setS wRanksep (fmtL o.rs)]) ++ ((if o.mg=5000 then [] else [setS wMargin (fmtL o.mg)]) ++ (if o.rd=8 then [] else [setS wRounds (fmtL (1000*o.rd))]))))
def blk0 (g:gra.Gr):List St × Nat × Nat:=blkW g (g.ns.length+g.cs.length+1) (-1) 0 0
def treeG (g:gra.Gr)(o:Op'):Tr:=⟨g.nm,g.dir,optS o ++ ((blk0 g).1 ++ g.es.map (edgeS g.ns))⟩
def emT:Tr:=⟨[],false,[]⟩
def treeE (g:gra.Gr)(o:Op'):Tr × Int :=
 if gra.validE g≠0∨okO o=false then (emT,1)
 else if (blk0 g).2.1 < g.ns.length∨(blk0 g).2.2 < g.cs.length then (emT,1)
 else if validT (treeG g o)≠0 then (emT,validT (treeG g o))
 else (treeG g o,0)
def PtV (p:gra.Pt):Prop:=isNm p.1=true∧0≤p.2∧p.2≤3
theorem ports_ne:∀ {ps:List gra.Pt},ps≠[]→portsT ps≠[]
 | [],h=>absurd rfl h
 | [p],_=>by rw [portsT];unfold portT;simp
 | p :: q :: t,_=>by rw [portsT];unfold portT;simp
end Go.Proofs.YtgmidodmmlmmeaaGreatDoor.xpt
namespace Go.Proofs.YtgmidodmmlmmeaaGreatDoor.xpt
open Go.RowKit lex tre att
def blk (W:World)(g:Nat)(t:TypeId)(arr:Array Value):Prop:=W.heap[g]?=some (.cells arr t (0,0))
theorem blk_cell {W:World}{g o:Nat}{t:TypeId}{arr:Array Value}(h:blk W g t arr):W.cell? ⟨g,o,none⟩=arr[o]?:=by
 unfold blk at h;simp [World.cell?,h]
theorem blk_free {W:World}{g o:Nat}{t:TypeId}{arr:Array Value}(h:blk W g t arr):W.frozen? ⟨g,o,none⟩=false:=by
 unfold blk at h;simp [World.frozen?,h]
theorem blk_lt {W:World}{g:Nat}{t:TypeId}{arr:Array Value}(h:blk W g t arr):g < W.heap.size:=by
 rcases Nat.lt_or_ge g W.heap.size with q | q
 ·exact q
 ·unfold blk at h;rw [Array.getElem?_eq_none (by omega)] at h;cases h
theorem blk_set {W:World}{g o:Nat}{t:TypeId}{arr:Array Value}(h:blk W g t arr)(u:Value):blk (W.setCell ⟨g,o,none⟩ u) g t (arr.setIfInBounds o u):=by
 unfold blk at h ⊢
 unfold World.setCell
 rw [Array.getElem?_modify,if_pos rfl,h]
 rfl
theorem blk_new (w:World)(c:Array Value)(t:TypeId):blk (w.alloc (.cells c t)) w.heap.size t c:=heap_alloc_new w _
theorem flat_len {X:Type}(f:X→List Value)(k:Nat)(hk:∀ x,(f x).length=k)(l:List X):(l.flatMap f).length=l.length*k:=by
 induction l with
 | nil=>simp
 | cons x t ih=>rw [List.flatMap_cons,List.length_append,ih,hk,List.length_cons,Nat.add_mul];omega
theorem flat_get {X:Type}(f:X→List Value)(k:Nat)(hk:∀ x,(f x).length=k):∀ (l:List X) (i j:Nat) (h:i < l.length),j < k→(l.flatMap f)[i*k+j]?=(f l[i])[j]?:=by
 intro l
 induction l with
 | nil=>intro i j h;simp at h
 | cons x t ih =>
  intro i j h hj
  rw [List.flatMap_cons]
  cases i with
  | zero=>rw [Nat.zero_mul,Nat.zero_add,List.getElem?_append_left (by rw [hk];exact hj)];rfl
  | succ i =>
   rw [List.getElem?_append_right (by rw [hk,Nat.add_mul];omega),hk,show (i+1)*k+j - k=i*k+j by rw [Nat.add_mul];omega]
   exact ih i j (by simpa using h) hj
theorem own_blk {w:World}{B s n:Nat}{t:TypeId}{v:Value}{xs:List Value}(h:w.ownsRow B t s v n xs)(hn:0 < n):∃ g cap arr,v=.slice (some ⟨g,0,none⟩) n cap∧B≤g∧blk w g t arr∧n≤cap∧cap≤maxLen∧∀ j,j < n*s→arr[j]?=xs[j]?:=by
 rcases h.2 with ⟨_,rfl⟩ | ⟨g,cap,cur,rfl,hB,hk,h1,h2,h3,h4⟩
 ·omega
 ·refine ⟨g,cap,cur,rfl,hB,hk,h1,h2,fun j hj=>?_⟩
  rw [← h4,List.getElem?_take_of_lt hj,Array.getElem?_toList]
theorem info_clr:(Tryz.prog.info? 121).map (fun i=>(i.zero,i.size,i.bytes))=some (some (.agg #[.string ⟨#[]⟩,.string ⟨#[]⟩]),2,32):=by kernel_rfl
theorem info_of_clr:∃ i,Tryz.prog.info? 121=some i∧i.zero=some (.agg #[.string ⟨#[]⟩,.string ⟨#[]⟩])∧i.size=2∧i.bytes=32:=by
 have h:=info_clr
 cases hq:Tryz.prog.info? 121 with
 | none=>rw [hq] at h;cases h
 | some i =>
  rw [hq] at h
  simp only [Option.map_some,Option.some.injEq,Prod.mk.injEq] at h
  exact ⟨i,rfl,h.1,h.2.1,h.2.2⟩
theorem info_cla:(Tryz.prog.info? 69).map (fun i=>(i.zero,i.size,i.bytes))=some (some (.agg #[.string ⟨#[]⟩,.string ⟨#[]⟩]),2,32):=by kernel_rfl
theorem info_of_cla:∃ i,Tryz.prog.info? 69=some i∧i.zero=some (.agg #[.string ⟨#[]⟩,.string ⟨#[]⟩])∧i.size=2∧i.bytes=32:=by
 have h:=info_cla
 cases hq:Tryz.prog.info? 69 with
 | none=>rw [hq] at h;cases h
 | some i =>
  rw [hq] at h
  simp only [Option.map_some,Option.some.injEq,Prod.mk.injEq] at h
  exact ⟨i,rfl,h.1,h.2.1,h.2.2⟩
theorem info_cls:(Tryz.prog.info? 67).map (fun i=>(i.zero,i.size,i.bytes))=some (some (.agg #[.int .i64 0,.string ⟨#[]⟩,.slice none 0 0,.slice none 0 0,.slice none 0 0]),5,96):=by kernel_rfl
theorem info_of_cls:∃ i,Tryz.prog.info? 67=some i∧i.zero=some (.agg #[.int .i64 0,.string ⟨#[]⟩,.slice none 0 0,.slice none 0 0,.slice none 0 0])∧i.size=5∧i.bytes=96:=by
 have h:=info_cls
 cases hq:Tryz.prog.info? 67 with
 | none=>rw [hq] at h;cases h
 | some i =>
  rw [hq] at h
  simp only [Option.map_some,Option.some.injEq,Prod.mk.injEq] at h
  exact ⟨i,rfl,h.1,h.2.1,h.2.2⟩
structure Sv where
 s:St
 rv:Value
 av:Value
 bv:Value
def svC (x:Sv):List Value:=[.int .i64 x.s.kind,.string (bb x.s.name),x.rv,x.av,x.bv]
def svOk (w:World)(x:Sv):Prop:=x.s.name.length≤maxLen∧Prs w x.rv x.s.refs∧Prs w x.av x.s.attrs∧Sts w x.bv x.s.body
def agree (lo hi:Nat)(w W:World):Prop:=∀ q,lo≤q→q < hi→W.heap[q]?=w.heap[q]?
def selfP (lo:Nat)(w:World)(v:Value)(l:List Pr):Prop:=∀ W,agree lo w.heap.size w W→Prs W v l
def selfL (lo:Nat)(w:World)(v:Value)(l:List St):Prop:=∀ W,agree lo w.heap.size w W→Sts W v l
theorem agree.self (lo hi:Nat)(w:World):agree lo hi w w:=fun _ _ _=>rfl
structure Pk (R:Nat)(w w':World):Prop where
 os:w'.os=w.os
 tape:w'.tape=w.tape
 output:w'.output=w.output
 size:w.heap.size≤w'.heap.size
 block:∀ q,q≠R→q < w.heap.size→w'.heap[q]?=w.heap[q]?
theorem Pk.refl (R:Nat)(w:World):Pk R w w:=⟨rfl,rfl,rfl,Nat.le_refl _,fun _ _ _=>rfl⟩
theorem Pk.trans {R:Nat}{a b c:World}(h:Pk R a b)(k:Pk R b c):Pk R a c :=
 ⟨k.os.trans h.os,k.tape.trans h.tape,k.output.trans h.output,Nat.le_trans h.size k.size,fun q h1 h2=>(k.block q h1 (Nat.lt_of_lt_of_le h2 h.size)).trans (h.block q h1 h2)⟩
theorem Pk.below {R:Nat}{a b:World}(h:Below a.heap.size a b):Pk R a b:=⟨h.os,h.tape,h.output,h.size,fun q _ h2=>h.block q h2⟩
theorem Pk.set (R:Nat)(a:World)(o:Nat)(u:Value):Pk R a (a.setCell ⟨R,o,none⟩ u):=⟨rfl,rfl,rfl,by simp [World.setCell],fun q h1 _=>Below.heap_setCell _ _ _ _ h1⟩
theorem Pk.alloc {R:Nat}{a b:World}(h:Pk R a b)(o:Obj):Pk R a (b.alloc o):=h.trans (Pk.below (al1 b o))
theorem Pk.drew {R:Nat}{a b:World}(h:Pk R a b):Pk R a b.drew:=h.trans ⟨rfl,rfl,rfl,Nat.le_refl _,fun _ _ _=>rfl⟩
theorem Pk.grown {R:Nat}{a b c:World}{row:Option Nat}(h:Pk R a b)(hg:b.grownBy c row)(hr:∀ q,row=some q→a.heap.size≤q):Pk R a c :=
 ⟨hg.os.trans h.os,hg.tape.trans h.tape,hg.output.trans h.output,Nat.le_trans h.size hg.size,fun q h1 h2=>(hg.block q (Nat.lt_of_lt_of_le h2 h.size) (fun e=>by have:=hr q e.symm;omega)).trans (h.block q h1 h2)⟩
theorem Pk.store {R:Nat}{a b:World}(h:Pk R a b){g o:Nat}(hg:a.heap.size≤g)(u:Value):Pk R a (b.setCell ⟨g,o,none⟩ u) :=
 ⟨h.os,h.tape,h.output,by simpa [World.setCell] using h.size,fun q h1 h2=>by rw [Below.heap_setCell _ _ _ _ (show q≠g by omega)];exact h.block q h1 h2⟩
theorem Pk.cell {R:Nat}{a b:World}(h:Pk R a b){g o:Nat}{v:Value}(hg:g≠R)(k:a.cell? ⟨g,o,none⟩=some v):b.cell? ⟨g,o,none⟩=some v:=by
 rw [World.cell?_of_block (w:=a) (h.block g hg (World.block_lt_of_cell? a _ k))];exact k
theorem Pk.blk {R:Nat}{a b:World}(h:Pk R a b){g:Nat}{t:TypeId}{arr:Array Value}(hg:g≠R)(k:blk a g t arr):blk b g t arr:=by
 have:=h.block g hg (blk_lt k)
 unfold xpt.blk at k ⊢;rw [this];exact k
theorem Pk.own {R:Nat}{a b:World}(h:Pk R a b){B s n:Nat}{t:TypeId}{v:Value}{xs:List Value}(hB:R < B)(k:a.ownsRow B t s v n xs):b.ownsRow B t s v n xs:=by
 obtain ⟨h1,h2⟩:=k
 refine ⟨h1,h2.imp id ?_⟩
 rintro ⟨g,cap,cur,rfl,hg,hc,h3⟩
 have hlt:g < a.heap.size:=by
  rcases Nat.lt_or_ge g a.heap.size with h | h
  ·exact h
  ·rw [Array.getElem?_eq_none (by omega)] at hc;cases hc
 exact ⟨g,cap,cur,rfl,hg,by rw [h.block g (by omega) hlt];exact hc,h3⟩
theorem agree_later {R lo lo':Nat}{w w' W:World}(h:agree lo' w'.heap.size w' W)(hb:Pk R w w')(hz:R < lo)(hl:lo'≤lo):agree lo w.heap.size w W:=fun q h1 h2=>by
 rw [h q (by omega) (Nat.lt_of_lt_of_le h2 hb.size)];exact hb.block q (by omega) h2
theorem selfP.later {R lo lo':Nat}{w w':World}{v:Value}{l:List Pr}(h:selfP lo w v l)(hb:Pk R w w')(hz:R < lo)(hl:lo'≤lo):selfP lo' w' v l:=fun W hW=>h W (agree_later hW hb hz hl)
theorem selfL.later {R lo lo':Nat}{w w':World}{v:Value}{l:List St}(h:selfL lo w v l)(hb:Pk R w w')(hz:R < lo)(hl:lo'≤lo):selfL lo' w' v l:=fun W hW=>h W (agree_later hW hb hz hl)
theorem selfP.nil (lo:Nat)(w:World):selfP lo w (.slice none 0 0) []:=fun W _=>Prs.nil W
theorem selfL.nil (lo:Nat)(w:World):selfL lo w (.slice none 0 0) []:=fun W _=>Sts.nil W
theorem selfP.form {lo:Nat}{w:World}{v:Value}{l:List Pr}(h:selfP lo w v l):∃ ao cap,v=.slice ao l.length cap:=by
 obtain ⟨ao,cap,e,_⟩:=h w (agree.self _ _ _);exact ⟨ao,cap,e⟩
theorem selfL.form {lo:Nat}{w:World}{v:Value}{l:List St}(h:selfL lo w v l):∃ ao cap,v=.slice ao l.length cap:=by
 obtain ⟨ao,cap,e,_⟩:=h w (agree.self _ _ _);exact ⟨ao,cap,e⟩
theorem own_form {w:World}{B s n:Nat}{t:TypeId}{v:Value}{xs:List Value}(h:w.ownsRow B t s v n xs):∃ ao cap,v=.slice ao n cap∧n≤cap∧cap≤maxLen:=by
 rcases h.2 with ⟨rfl,rfl⟩ | ⟨g,cap,cur,rfl,_,_,h1,h2,_⟩
 ·exact ⟨_,0,rfl,Nat.le_refl _,by decide⟩
 ·exact ⟨_,cap,rfl,h1,h2⟩
theorem own_selfP {w:World}{B lo:Nat}{t:TypeId}{v:Value}{l:List Pr}(h:w.ownsRow B t 2 v l.length (l.flatMap prC))(hB:lo≤B)(hl:∀ r∈l,r.1.length≤maxLen∧r.2.length≤maxLen):selfP lo w v l:=by
 intro W hW
 by_cases h0:l.length=0
 ·obtain ⟨ao,cap,rfl,h1,h2⟩:=own_form h
  exact ⟨ao,cap,rfl,h1,h2,fun hn=>by omega⟩
 ·obtain ⟨g,cap,arr,rfl,hB',hk,h1,h2,h3⟩:=own_blk h (by omega)
  have hkW:blk W g t arr:=by unfold blk at hk ⊢;rw [hW g (by omega) (blk_lt hk)];exact hk
  refine ⟨_,cap,rfl,h1,h2,fun _=>⟨_,rfl,fun i hi=>?_⟩⟩
  have e0:=flat_get prC 2 (fun _=>rfl) l i 0 hi (by decide)
  have e1:=flat_get prC 2 (fun _=>rfl) l i 1 hi (by decide)
  obtain ⟨p2,p3⟩:=hl l[i] (List.getElem_mem hi)
  refine ⟨?_,?_,p2,p3⟩
  ·rw [gra.add_at,Nat.zero_add,blk_cell hkW,← Nat.add_zero (i*2),h3 _ (by omega)];exact e0
  ·rw [gra.add_at]
   show W.cell? ⟨g,0+i*2+1,none⟩=_
   rw [Nat.zero_add,blk_cell hkW,h3 _ (by omega)];exact e1
def elS (lo0:Nat)(w:World)(ob:Option Nat)(x:Sv):Prop:=∃ lo hi,lo0≤lo∧hi≤w.heap.size∧(∀ q,ob=some q→¬ (lo≤q∧q < hi))∧∀ W,agree lo hi w W→svOk W x
theorem elS.later {R lo0:Nat}{w w':World}{ob:Option Nat}{x:Sv}(h:elS lo0 w ob x)(hb:Pk R w w')(hR:R < lo0):elS lo0 w' ob x:=by
 obtain ⟨lo,hi,h1,h2,h3,h4⟩:=h
 refine ⟨lo,hi,h1,Nat.le_trans h2 hb.size,h3,fun W hW=>h4 W (fun q q1 q2=>?_)⟩
 rw [hW q q1 q2];exact hb.block q (by omega) (by omega)
theorem elS.app {lo0:Nat}{w w':World}{ob:Option Nat}{g:Nat}{x:Sv}(h:elS lo0 w ob x)(hg:w.grownBy w' ob)(hat:ob=some g∨w.heap.size≤g)(hsz:w.heap.size≤w'.heap.size):elS lo0 w' (some g) x:=by
 obtain ⟨lo,hi,h1,h2,h3,h4⟩:=h
 refine ⟨lo,hi,h1,Nat.le_trans h2 hsz,fun q hq e=>?_,fun W hW=>h4 W (fun q q1 q2=>?_)⟩
 ·have hq:=Option.some.inj hq
  rcases hat with hat | hat
  ·exact h3 g hat (by omega)
  ·omega
 ·rw [hW q q1 q2]
  exact hg.block q (by omega) (fun e=>h3 q e.symm ⟨q1,q2⟩)
theorem svC_len (x:Sv):(svC x).length=5:=rfl
theorem row_selfL {w:World}{B lo0:Nat}{v:Value}{D:List Sv}{ob:Option Nat}(h:w.ownsRow B 67 5 v D.length (D.flatMap svC))(hB:lo0≤B)(hD:∀ x∈D,elS lo0 w ob x):selfL lo0 w v (D.map Sv.s):=by
 intro W hW
 by_cases h0:D.length=0
 ·obtain ⟨ao,cap,rfl,h1,h2⟩:=own_form h
  exact ⟨ao,cap,by rw [List.length_map],by rw [List.length_map];exact h1,h2,fun hn=>by rw [List.length_map] at hn;omega⟩
 ·obtain ⟨g,cap,arr,rfl,hBg,hk,h1,h2,h3⟩:=own_blk h (by omega)
  have hkW:blk W g 67 arr:=by unfold blk at hk ⊢;rw [hW g (by omega) (blk_lt hk)];exact hk
  refine ⟨_,cap,by rw [List.length_map],by rw [List.length_map];exact h1,h2,fun _=>⟨_,rfl,stsAt_of fun j hj=>?_⟩⟩
  have hj':j < D.length:=by simpa using hj
  obtain ⟨lo,hi,q1,q2,_,q4⟩:=hD D[j] (List.getElem_mem hj')
  obtain ⟨hn,hr,ha,hb⟩:=q4 W (fun q e1 e2=>hW q (by omega) (by omega))
  have hc:∀ i,i < 5→arr[j*5+i]?=(svC D[j])[i]?:=fun i hi'=>by rw [h3 _ (by omega)];exact flat_get svC 5 svC_len D j i hj' hi'
  have hs:(D.map Sv.s)[j]=D[j].s:=by rw [List.getElem_map]
  rw [hs,Nat.zero_add,gra.add_at,Nat.zero_add]
  refine (stAt_eq _ _ _).2 ⟨?_,?_,hn,⟨_,?_,hr⟩,⟨_,?_,ha⟩,_,?_,hb⟩
  ·rw [blk_cell hkW,← Nat.add_zero (j*5),hc 0 (by omega)];rfl
  ·show W.cell? ⟨g,j*5+1,none⟩=_;rw [blk_cell hkW,hc 1 (by omega)];rfl
  ·show W.cell? ⟨g,j*5+2,none⟩=_;rw [blk_cell hkW,hc 2 (by omega)];rfl
  ·show W.cell? ⟨g,j*5+3,none⟩=_;rw [blk_cell hkW,hc 3 (by omega)];rfl
  ·show W.cell? ⟨g,j*5+4,none⟩=_;rw [blk_cell hkW,hc 4 (by omega)];rfl
theorem app_pr {w:World}{ops:Array Oper}{rest:List Oper}{o:Oper}{a:Act}{Q:Exit→Act→World→Prop}{T E:TypeId}(hT:Tryz.prog.underlying T=some (.slice E))(hE:∃ i,Tryz.prog.info? E=some i∧i.zero=some (.agg #[.string ⟨#[]⟩,.string ⟨#[]⟩])∧i.size=2∧i.bytes=32)
    (hg:o.guard=none) (p y:Operand) (ho:o.op=.call { callee:=.builtin .append,args:=#[p,y],argTypes:=#[T,T] })
    (B:Nat) (v:Value) (l:List Pr) (x:Pr) (H:Nat) (hH:w.heap.size=H) (hs:a.eval p=v) (hx:a.eval y=.slice (some ⟨H,0,none⟩) 1 1) (h:Hid (w.ownsRow B E 2 v l.length (l.flatMap prC))) (hl:l.length≤1000000) (hB:B≤w.heap.size)
    (hK:∀ ao cap w',w'.ownsRow B E 2 (.slice ao (l.length+1) cap) (l ++ [x]).length ((l ++ [x]).flatMap prC)→w.grownBy w' v.ownBlock→wpList Tryz.prog ops Q rest (a.put o.dst (.slice ao (l.length+1) cap)) w'):wpList Tryz.prog ops Q (o :: rest) a (w.alloc (.cells #[.string (bb x.1),.string (bb x.2)] E)):=by
 subst hH
 obtain ⟨i0,hi,hz0,hz1,hz2⟩:=hE
 refine wpList_append_own _ hg p y T ho B E i0 _ 2 32 hT hi hz0 hz1 hz2 rfl (by decide) v l.length _ hs (World.ownsRow.alloc h.out _) ⟨w.heap.size,0,none⟩ 1 1 [.string (bb x.1),.string (bb x.2)] hx rfl ?_ (by simp [Value.oneCell']) (by unfold maxLen;omega) (by omega) (by simp;omega) ?_
 ·intro j u hj
  rw [gra.add_at,Nat.zero_add,blk_cell (blk_new w #[.string (bb x.1),.string (bb x.2)] E),← hj]
  simp
 ·intro v' w' hown hgrow _
  obtain ⟨ao,cap,rfl,_,_⟩:=own_form hown
  refine hK ao cap w' ?_ ?_
  ·rw [List.length_append,List.flatMap_append];exact hown
  ·refine ⟨hgrow.os,hgrow.tape,hgrow.output,Nat.le_trans (by simp) hgrow.size,fun k hk hne=>?_⟩
   rw [hgrow.block k (by simp;omega) hne,heap_alloc_old w _ hk]
theorem app_st {w:World}{ops:Array Oper}{rest:List Oper}{o:Oper}{a:Act}{Q:Exit→Act→World→Prop}(hg:o.guard=none)(p y:Operand)(ho:o.op=.call { callee:=.builtin .append,args:=#[p,y],argTypes:=#[31,31] })
    (B:Nat) (v:Value) (D:List Sv) (x:Sv) (k:Int) (n:ByteArray) (rv av bv:Value) (ex:svC x=[.int .i64 k,.string n,rv,av,bv]) (H:Nat) (hH:w.heap.size=H) (hs:a.eval p=v) (hx:a.eval y=.slice (some ⟨H,0,none⟩) 1 1) (h:Hid (w.ownsRow B 67 5 v D.length (D.flatMap svC))) (hl:D.length≤1000000) (hB:B≤w.heap.size)
    (h1:rv.oneCell'=true∧av.oneCell'=true∧bv.oneCell'=true)
    (hK:∀ g cap w',w'.ownsRow B 67 5 (.slice (some ⟨g,0,none⟩) (D.length+1) cap) (D ++ [x]).length ((D ++ [x]).flatMap svC)→w.grownBy w' v.ownBlock→(v.ownBlock=some g∨w.heap.size≤g)→wpList Tryz.prog ops Q rest (a.put o.dst (.slice (some ⟨g,0,none⟩) (D.length+1) cap)) w'):wpList Tryz.prog ops Q (o :: rest) a (w.alloc (.cells #[.int .i64 k,.string n,rv,av,bv] 67)):=by
 subst hH
 obtain ⟨i0,hi,hz0,hz1,hz2⟩:=info_of_cls
 refine wpList_append_lies _ hg p y 31 ho B 67 i0 _ 5 96 Tryz.underlying31 hi hz0 hz1 hz2 rfl (by decide) v D.length _ hs (World.ownsRow.alloc h.out _) ⟨w.heap.size,0,none⟩ 1 1 [.int .i64 k,.string n,rv,av,bv] hx rfl ?_ (by simp [Value.oneCell'];exact h1) (by decide) (by unfold maxLen;omega) (by omega) (by simp;omega) (w.heap.size+1) (by simp) ?_
 ·intro j u hj
  rw [gra.add_at,Nat.zero_add,blk_cell (blk_new w #[.int .i64 k,.string n,rv,av,bv] 67),← hj]
  simp
 ·intro g cap w' hown hgrow hat _
  refine hK g cap w' ?_ ?_ (hat.imp id (fun e=>by omega))
  ·rw [List.length_append,List.flatMap_append,List.flatMap_cons,List.flatMap_nil,List.append_nil,ex];exact hown
  ·refine ⟨hgrow.os,hgrow.tape,hgrow.output,Nat.le_trans (by simp) hgrow.size,fun k hk hne=>?_⟩
   rw [hgrow.block k (by simp;omega) hne,heap_alloc_old w _ hk]
end Go.Proofs.YtgmidodmmlmmeaaGreatDoor.xpt
namespace Go.Proofs.YtgmidodmmlmmeaaGreatDoor.xpt
open Go.RowKit lex tre att nor
def VSt (s:St)(w w':World)(v:Value):Prop:=∃ ro rc ao ac bo bc,v=.agg #[.int .i64 s.kind,.string (bb s.name),.slice ro s.refs.length rc,.slice ao s.attrs.length ac,.slice bo s.body.length bc] ∧
 ∀ W,agree w.heap.size w'.heap.size w' W→svOk W ⟨s,.slice ro s.refs.length rc,.slice ao s.attrs.length ac,.slice bo s.body.length bc⟩
theorem ba_of {s:ByteArray}{l:List UInt8}(h:s.data.toList=l):bb l=s:=by rw [← h]
theorem prs_one {W:World}{g:Nat}{t:TypeId}{a b:List UInt8}(h:blk W g t #[.string (bb a),.string (bb b)])(la:a.length≤maxLen)(lb:b.length≤maxLen):Prs W (.slice (some ⟨g,0,none⟩) 1 1) [(a,b)]:=by
 refine ⟨_,1,rfl,Nat.le_refl _,by decide,fun _=>⟨_,rfl,fun i hi=>?_⟩⟩
 obtain rfl:i=0:=by simpa using hi
 refine ⟨?_,?_,la,lb⟩
 ·rw [gra.add_at,blk_cell h];rfl
 ·show W.cell? ⟨g,_,none⟩=_;rw [blk_cell h];rfl
theorem agree.blk {lo hi g:Nat}{w W:World}{t:TypeId}{arr:Array Value}(h:agree lo hi w W)(h1:lo≤g)(h2:g < hi)(k:xpt.blk w g t arr):xpt.blk W g t arr:=by
 unfold xpt.blk at k ⊢;rw [h g h1 h2];exact k
end Go.Proofs.YtgmidodmmlmmeaaGreatDoor.xpt
namespace Go.Proofs.YtgmidodmmlmmeaaGreatDoor.xpt
section
variable {P:Program} {ops:Array Oper} {Q:Exit→Act→World→Prop} {md:Region.Mode} {S:World→Prop} {z:Nat}
def Shd (md:Region.Mode)(ops:Array Oper)(L:Array Bool):Prop:=∀ j oj,ops[j]?=some oj→L.getD j false=true→∀ e∈oj.after,Region.binds md e=true→L.getD e.on false=true
def rch (md:Region.Mode)(ops:Array Oper)(i:Nat):Nat→Nat→Bool
 | 0,_=>false
 | f+1,t=>Region.waitsFor md ops t i || (List.range ops.size).any fun j=>Region.waitsFor md ops t j && rch md ops i f j
theorem rch_no {i:Nat}{L:Array Bool}(hL:Shd md ops L)(hi:L.getD i true=false):∀ (f t:Nat),rch md ops i f t=true→(∀ oj,ops[t]?=some oj→∀ e∈oj.after,Region.binds md e=true→L.getD e.on false=true)→False:=by
 intro f
 induction f with
 | zero=>intro t h;cases h
 | succ f ih =>
  intro t h ht
  unfold rch at h
  rw [Bool.or_eq_true] at h
  rcases h with h | h
  ·obtain ⟨oj,hj,e,he,hb,hon⟩:=Region.waitsFor_spec h
   have:=ht oj hj e he hb
   rw [hon,getD_both hi] at this
   cases this
  ·obtain ⟨j,-,h2⟩:=List.any_eq_true.1 h
   rw [Bool.and_eq_true] at h2
   obtain ⟨oj,hj,e,he,hb,hon⟩:=Region.waitsFor_spec h2.1
   have:=ht oj hj e he hb
   rw [hon] at this
   exact ih j h2.2 fun ok hk e' he' hb'=>hL j ok hk this e' he' hb'
def wpZ (P:Program)(md:Region.Mode)(ops:Array Oper)(Q:Exit→Act→World→Prop)(S:World→Prop)(z:Nat):Nat→Array Bool→Act→World→Prop
 | 0,L,a,w=>Region.ready md ops L=[]∧Q .normal a w
 | f+1,L,a,w=>(Region.ready md ops L=[]→Q .normal a w)∧∀ i∈Region.ready md ops L,wpOp P ops Q i (fun a' w'=>(i≠z→S w')∧wpZ P md ops Q S z f (L.setIfInBounds i true) a' w') a w
theorem any_of_z:∀ (f:Nat) (L:Array Bool) (a:Act) (w:World),wpZ P md ops Q S z f L a w→wpAny P md ops Q f L a w
 | 0,_,_,_,h=>h
 | f+1,_,_,_,h=>⟨h.1,fun i hi=>wpOp_mono (fun a' w' h'=>any_of_z f _ a' w' h'.2) (h.2 i hi)⟩
theorem shd_set {i:Nat}{L:Array Bool}(hL:Shd md ops L)(hi:i∈Region.ready md ops L):Shd md ops (L.setIfInBounds i true):=by
 obtain ⟨_,oi,hoi,hall⟩:=mem_ready.1 hi
 intro j oj hj hl e he hb
 by_cases hij:i=j
 ·subst hij
  have:oj=oi:=Option.some.inj (hj.symm.trans hoi)
  subst this
  exact getD_set_true (hall e he hb)
 ·rw [getD_set_ne false hij] at hl
  exact getD_set_true (hL j oj hj hl e he hb)
theorem z_first {i:Nat}{oi:Oper}{v:Value}(hi:ops[i]?=some oi)(hsel:∀ (j:Nat) (o:Oper) cs b,ops[j]?=some o→o.op≠.select cs b)
    (hQ:∀ c a w,Q (.panic c) (a.put oi.dst v) w→Q (.panic c) a w) (d:Nat) (hz:rch md ops i d z=true) :
    ∀ (f:Nat) (L:Array Bool) (a:Act) (w:World),
     (∀ j oj,ops[j]?=some oj→j≠i→L.getD j true=false→(∀ e∈oj.after,Region.binds md e=true→e.on≠i)→oi.apart ops oj=true)→Shd md ops L →
     i∈Region.ready md ops L→YieldsIf P ops S oi v a→S w →
     wpZ P md ops Q S z f (L.setIfInBounds i true) (a.put oi.dst v) w→wpZ P md ops Q S z (f+1) L a w:=by
 intro f
 induction f with
 | zero =>
  intro L a w _ hL hr hy hS H
  refine ⟨fun h=>(by rw [h] at hr;cases hr),fun j hj=>?_⟩
  by_cases hji:j=i
  ·subst hji;exact hy.wpOp hi hS ⟨fun _=>hS,H⟩
  ·have:=ready_mono hj hji
   rw [H.1] at this
   cases this
 | succ f ih =>
  intro L a w hfree hL hr hy hS H
  refine ⟨fun h=>(by rw [h] at hr;cases hr),fun j hj=>?_⟩
  by_cases hji:j=i
  ·subst hji;exact hy.wpOp hi hS ⟨fun _=>hS,H⟩
  ·have h1:=H.2 j (ready_mono hj hji)
   obtain ⟨hjun,oj,hoj,hall⟩:=mem_ready.1 hj
   have hun:=(mem_ready.1 hr).1
   have hjz:j≠z:=fun e=>by
    subst e
    exact rch_no hL hun d j hz fun ok hk=>by rw [hoj] at hk;cases hk;exact hall
   have hnot:∀ e∈oj.after,Region.binds md e=true→e.on≠i:=fun e he hb heq=>by
    have h1:=hall e he hb
    rw [heq,getD_both hun] at h1
    cases h1
   have h2:=wpOp_putIf hoj (hfree j oj hoj hji hjun hnot) (fun cs b=>hsel i oi cs b hi) (fun cs b=>hsel j oj cs b hoj) hQ hy h1
   have hfree':∀ k ok,ops[k]?=some ok→k≠i→(L.setIfInBounds j true).getD k true=false →
       (∀ e∈ok.after,Region.binds md e=true→e.on≠i)→oi.apart ops ok=true:=fun k ok hk hki hun' hno=>by
    refine hfree k ok hk hki ?_ hno
    by_cases hjk:j=k
    ·subst hjk;exact hjun
    ·rw [getD_set_ne true hjk] at hun';exact hun'
   refine wpOp_mono (fun a' w' h3=>⟨h3.2.1,ih (L.setIfInBounds j true) a' w' hfree' (shd_set hL hj) (ready_mono hr (Ne.symm hji)) h3.1 (h3.2.1 hjz) ?_⟩) h2
   rw [Array.setIfInBounds_comm _ _ hji]
   exact h3.2.2
def wpS (P:Program)(md:Region.Mode)(ops:Array Oper)(Q:Exit→Act→World→Prop)(S:World→Prop)(z:Nat)(f:Nat)(L:Array Bool)(a:Act)(w:World):Prop:=Shd md ops L→wpZ P md ops Q S z f L a w
theorem ton {f:Nat}{L:Array Bool}{a:Act}{w:World}(i k:Nat)(v:Value)(h:wpS P md ops Q S z f (L.setIfInBounds i true) ⟨a.tmps.setIfInBounds k v,a.defers⟩ w)
    (hd:(ops[i]?).map (·.dst)=some (some k):=by kernel_rfl) (hs:Region.noSelect ops=true:=by kernel_rfl) (hf:Region.free md ops L i=true:=by kernel_rfl) (hr:(Region.ready md ops L).contains i=true:=by kernel_rfl)
    (hz:rch md ops i 9 z=true:=by kernel_rfl) (hQ:∀ c (d:Tmp) v a w,Q (.panic c) (a.put (some d) v) w→Q (.panic c) a w:=by exact fun _ _ _ _ _ h=>by first | exact h | cases h.1)
    (hy:∀ oi,ops[i]?=some oi→Region.wanted oi (yielded ops a.tmps)=true∧∀ W,S W→(execOp a.eval oi).run P W=.ok (.value v) W:=by (rintro oi h;cases h;refine ⟨by rfl,?_⟩;intro W hSw;(try dsimp only at hSw);go_simp)) (hS:S w:=by assumption):wpS P md ops Q S z (f+1) L a w:=fun hL=>by
 obtain ⟨oi,hi⟩:∃ oi,ops[i]?=some oi:=by
  cases h:ops[i]? with
  | none=>rw [h] at hd;cases hd
  | some o=>exact ⟨o,rfl⟩
 have e:oi.dst=some k:=by rw [hi] at hd;simpa using hd
 have hr2:i∈Region.ready md ops L:=by simpa using hr
 refine z_first hi (Region.noSelect_spec hs) (fun c a w=>by rw [e];exact hQ c _ _ a w) 9 hz f L a w (Region.free_spec hi hf) hL hr2 (Or.inl (hy oi hi)) hS ?_
 rw [e]
 exact h (shd_set hL hr2)
theorem tgo {i:Nat}{o:Oper}{f:Nat}{L:Array Bool}{a:Act}{w:World}(hr:Region.ready md ops L=[i])(ho:ops[i]?=some o)
    (h:∀ K':Act→World→Prop,Shut (∀ a w,(i≠z→S w)→((i≠z→S w)→wpS P md ops Q S z f (L.setIfInBounds i true) a w)→K' a w)→if Region.wanted o (yielded ops a.tmps)=true then Oper.wp P o a w K' Q else K' (a.put o.dst undef) w):wpS P md ops Q S z (f+1) L a w:=fun hL =>
 ⟨fun h0=>(by rw [hr] at h0;cases h0),fun j hj=>by
  have hj2:=hj
  rw [hr] at hj2
  obtain rfl:j=i:=by simpa using hj2
  exact wpOp_step ho (fun K' hK=>h K' (fun a w hS hW=>hK a w ⟨hS,hW hS (shd_set hL hj)⟩))⟩
theorem tgo2 {i j:Nat}{o o':Oper}{f:Nat}{L:Array Bool}{a:Act}{w:World}(hr:Region.ready md ops L=[i,j])(ho:ops[i]?=some o)(ho':ops[j]?=some o')
    (h:∀ K':Act→World→Prop,Shut (∀ a w,(i≠z→S w)→((i≠z→S w)→wpS P md ops Q S z f (L.setIfInBounds i true) a w)→K' a w)→if Region.wanted o (yielded ops a.tmps)=true then Oper.wp P o a w K' Q else K' (a.put o.dst undef) w)
    (h':∀ K':Act→World→Prop,Shut (∀ a w,(j≠z→S w)→((j≠z→S w)→wpS P md ops Q S z f (L.setIfInBounds j true) a w)→K' a w)→if Region.wanted o' (yielded ops a.tmps)=true then Oper.wp P o' a w K' Q else K' (a.put o'.dst undef) w):wpS P md ops Q S z (f+1) L a w:=fun hL =>
 ⟨fun h0=>(by rw [hr] at h0;cases h0),fun m hm=>by
  have hm2:=hm
  rw [hr] at hm2
  rcases (by simpa using hm2:m=i∨m=j) with rfl | rfl
  ·exact wpOp_step ho (fun K' hK=>h K' (fun a w hS hW=>hK a w ⟨hS,hW hS (shd_set hL hm)⟩))
  ·exact wpOp_step ho' (fun K' hK=>h' K' (fun a w hS hW=>hK a w ⟨hS,hW hS (shd_set hL hm)⟩))⟩
theorem tdone {L:Array Bool}{a:Act}{w:World}(hr:Region.ready md ops L=[])(h:Q .normal a w):∀ f,wpS P md ops Q S z f L a w
 | 0=>fun _=>⟨hr,h⟩
 | _+1=>fun _=>⟨fun _=>h,by rw [hr];simp⟩
theorem tstart {id:Nat}{a:Act}{w:World}(S:World→Prop)(z:Nat)(hm:P.follows .mixedOrders=true)(hS:S w.drew)
    (h:S w.drew→wpS P .any ops Q S z ops.size (Array.replicate ops.size false) a w.drew):(Code.region id ops true).wp P Q a w :=
 wp_region_any hm (any_of_z _ _ _ _ (h hS (fun j oj _ hl=>by rw [getD_replicate_false] at hl;cases hl)))
end
end Go.Proofs.YtgmidodmmlmmeaaGreatDoor.xpt
namespace Go.Proofs.YtgmidodmmlmmeaaGreatDoor.xpt
open Go.RowKit lex tre att nor
theorem seq_mid {P:Program}{x y:Code}{Q:Exit→Act→World→Prop}{a:Act}{w:World}(M:Act→World→Prop)(h1:x.wp P (fun e a' w'=>e=.normal∧M a' w') a w)(h2:∀ a' w',M a' w'→y.wp P Q a' w'):(Code.seq x y).wp P Q a w :=
 wp_seq (wp_mono h1 fun e a' w' hh=>by obtain ⟨he,hm⟩:=hh;subst he;exact h2 a' w' hm)
theorem then_mid {P:Program}{c:Code}{K:Act→World→Prop}{Q:Exit→Act→World→Prop}{a:Act}{w:World}(M:Act→World→Prop)(h1:c.wp P (fun e a' w'=>e=.normal∧M a' w') a w)(h2:∀ a' w',M a' w'→K a' w'):c.wp P (Exit.then K Q) a w :=
 wp_mono h1 fun e a' w' hh=>by obtain ⟨he,hm⟩:=hh;subst he;exact h2 a' w' hm
theorem Pk.low {R:Nat}{a b c:World}(h:Pk R a b)(hb:Below a.heap.size b c):Pk R a c :=
 ⟨hb.os.trans h.os,hb.tape.trans h.tape,hb.output.trans h.output,Nat.le_trans h.size hb.size,fun q h1 h2=>(hb.block q h2).trans (h.block q h1 h2)⟩
theorem s_drew {W:World}{A:Addr}{v:Value}(h:W.cell? A=some v):W.drew.cell? A=some v:=h
theorem s_alloc {W:World}{A:Addr}{v:Value}{o:Obj}(h:W.cell? A=some v):(W.alloc o).cell? A=some v:=cell_later' (al1 ..) h
theorem s_set {W:World}{A:Addr}{v u:Value}{b o:Nat}(h0:A.block≠b)(h:W.cell? A=some v):(W.setCell ⟨b,o,none⟩ u).cell? A=some v:=by rw [World.cell?_setCell_far W ⟨b,o,none⟩ A u (Ne.symm h0)];exact h
theorem b_drew (w:World):Below w.heap.size w w.drew:=(Below.refl w.heap.size w).drew
theorem grown_blk {V V':World}{B s n g:Nat}{t0 t:TypeId}{v:Value}{xs:List Value}{arr:Array Value}(hr:V.ownsRow B t0 s v n xs)(hg:V.grownBy V' v.ownBlock)(h:blk V g t arr)(ht:t≠t0):blk V' g t arr:=by
 unfold xpt.blk at h ⊢
 rw [hg.block g (blk_lt h) (fun e=>?_)]
 ·exact h
 ·rcases hr.2 with ⟨rfl,-⟩ | ⟨q,cap,cur,rfl,-,hk,-⟩
  ·cases e
  ·obtain rfl:g=q:=Option.some.inj e
   rw [hk] at h;cases h;exact ht rfl
theorem grown_below {V V':World}{B s n:Nat}{t0:TypeId}{v:Value}{xs:List Value}(hr:V.ownsRow B t0 s v n xs)(hg:V.grownBy V' v.ownBlock)(hB:B≤V.heap.size):Below B V V' :=
 ⟨hg.os,hg.tape,hg.output,hg.size,fun q hq=>hg.block q (by omega) (fun e=>by
  rcases hr.2 with ⟨rfl,-⟩ | ⟨b,cap,cur,rfl,hb,-⟩
  ·cases e
  ·obtain rfl:q=b:=Option.some.inj e
   omega)⟩
theorem blk_keep {w w':World}{b:Nat}{t:TypeId}{arr:Array Value}(hb:Below w.heap.size w w')(h:blk w b t arr):blk w' b t arr:=by unfold xpt.blk at h ⊢;rw [hb.block b (blk_lt h)];exact h
theorem blk_far {w:World}{b g o:Nat}{t:TypeId}{arr:Array Value}(h:blk w b t arr)(hb:b≠g)(u:Value):blk (w.setCell ⟨g,o,none⟩ u) b t arr:=by
 unfold xpt.blk at h ⊢;rw [Below.heap_setCell _ _ _ _ hb];exact h
def Kp (B:Nat)(t0:TypeId)(V V':World):Prop:=Below B V V'∧∀ g t arr,blk V g t arr→t≠t0→blk V' g t arr
theorem ls_pr {E0:TypeId}{ops:Array Oper}{o:Oper}{rest:List Oper}{a:Act}{Q:Exit→Act→World→Prop}{T:TypeId}(hT:Tryz.prog.underlying T=some (.slice E0))(hE:∃ i,Tryz.prog.info? E0=some i∧i.zero=some (.agg #[.string ⟨#[]⟩,.string ⟨#[]⟩])∧i.size=2∧i.bytes=32)
    (hgd:o.guard=none) (p y:Operand) (ho:o.op=.call { callee:=.builtin .append,args:=#[p,y],argTypes:=#[T,T] }) (B:Nat) (V:World) (v:Value) (l:List Pr) (x:Pr) (k c:ByteArray) (hx:prC x=[.string k,.string c]) (H:Nat)
    (hs:a.eval p=v) (hy:a.eval y=.slice (some ⟨H,0,none⟩) 1 1) (hr:Hid (V.ownsRow B E0 2 v l.length (l.flatMap prC))) (hn:Hid (blk V H E0 #[.string k,.string c])) (hl:l.length≤1000000) (hB:B≤V.heap.size)
    (h:∀ g cap V',Hid (V'.ownsRow B E0 2 (.slice (some ⟨g,0,none⟩) (l.length+1) cap) (l ++ [x]).length ((l ++ [x]).flatMap prC))→Hid (Kp B E0 V V')→wpList Tryz.prog ops Q rest (a.put o.dst (.slice (some ⟨g,0,none⟩) (l.length+1) cap)) V') :
    wpList Tryz.prog ops Q (o :: rest) a V:=by
 obtain ⟨i0,hi,hz0,hz1,hz2⟩:=hE
 refine wpList_append_lies _ hgd p y T ho B E0 i0 _ 2 32 hT hi hz0 hz1 hz2 rfl (by decide) v l.length _ hs hr.out ⟨H,0,none⟩ 1 1 [.string k,.string c] hy rfl ?_ (by simp [Value.oneCell']) (by decide) (by unfold maxLen;omega) (by omega) hB V.heap.size rfl ?_
 ·intro j u hj
  rw [gra.add_at,Nat.zero_add,blk_cell hn.out,← hj]
  simp
 ·intro g cap V' hown hgrow _ _
  refine h g cap V' (Lh ?_) (Lh ⟨grown_below hr.out hgrow hB,fun g t arr k q=>grown_blk hr.out hgrow k q⟩)
  rw [List.length_append,List.flatMap_append,List.flatMap_cons,List.flatMap_nil,List.append_nil,hx];exact hown
theorem blk_set5 {W:World}{g:Nat}{t:TypeId}{a0 a1 a2 a3 a4:Value}(h:blk W g t #[a0,a1,a2,a3,a4])(c0 c1 c2 c3 c4:Value):blk (((((W.setCell ⟨g,0,none⟩ c0).setCell ⟨g,1,none⟩ c1).setCell ⟨g,2,none⟩ c2).setCell ⟨g,3,none⟩ c3).setCell ⟨g,4,none⟩ c4) g t #[c0,c1,c2,c3,c4]:=by
 have h0:blk (W.setCell ⟨g,0,none⟩ c0) g t #[c0,a1,a2,a3,a4]:=blk_set h c0
 have h1:blk ((W.setCell ⟨g,0,none⟩ c0).setCell ⟨g,1,none⟩ c1) g t #[c0,c1,a2,a3,a4]:=blk_set h0 c1
 have h2:blk (((W.setCell ⟨g,0,none⟩ c0).setCell ⟨g,1,none⟩ c1).setCell ⟨g,2,none⟩ c2) g t #[c0,c1,c2,a3,a4]:=blk_set h1 c2
 have h3:blk ((((W.setCell ⟨g,0,none⟩ c0).setCell ⟨g,1,none⟩ c1).setCell ⟨g,2,none⟩ c2).setCell ⟨g,3,none⟩ c3) g t #[c0,c1,c2,c3,a4]:=blk_set h2 c3
 exact blk_set h3 c4
theorem blk_far5 {W:World}{b g:Nat}{t:TypeId}{arr:Array Value}(h:blk W b t arr)(hb:b≠g)(c0 c1 c2 c3 c4:Value):blk (((((W.setCell ⟨g,0,none⟩ c0).setCell ⟨g,1,none⟩ c1).setCell ⟨g,2,none⟩ c2).setCell ⟨g,3,none⟩ c3).setCell ⟨g,4,none⟩ c4) b t arr :=
 blk_far (blk_far (blk_far (blk_far (blk_far h hb _) hb _) hb _) hb _) hb _
theorem below_set5 {B:Nat}{a W:World}{g:Nat}(h:Below B a W)(hg:B≤g)(c0 c1 c2 c3 c4:Value):Below B a (((((W.setCell ⟨g,0,none⟩ c0).setCell ⟨g,1,none⟩ c1).setCell ⟨g,2,none⟩ c2).setCell ⟨g,3,none⟩ c3).setCell ⟨g,4,none⟩ c4):=((((h.setCell hg _).setCell hg _).setCell hg _).setCell hg _).setCell hg _
theorem row_set5 {W:World}{B c n g:Nat}{t u:TypeId}{v:Value}{xs:List Value}{a0 a1 a2 a3 a4:Value}(h:W.ownsRow B t c v n xs)(hg:blk W g u #[a0,a1,a2,a3,a4])(hu:t≠u)(c0 c1 c2 c3 c4:Value):(((((W.setCell ⟨g,0,none⟩ c0).setCell ⟨g,1,none⟩ c1).setCell ⟨g,2,none⟩ c2).setCell ⟨g,3,none⟩ c3).setCell ⟨g,4,none⟩ c4).ownsRow B t c v n xs:=by
 have h0:blk (W.setCell ⟨g,0,none⟩ c0) g u #[c0,a1,a2,a3,a4]:=blk_set hg c0
 have h1:blk ((W.setCell ⟨g,0,none⟩ c0).setCell ⟨g,1,none⟩ c1) g u #[c0,c1,a2,a3,a4]:=blk_set h0 c1
 have h2:blk (((W.setCell ⟨g,0,none⟩ c0).setCell ⟨g,1,none⟩ c1).setCell ⟨g,2,none⟩ c2) g u #[c0,c1,c2,a3,a4]:=blk_set h1 c2
 have h3:blk ((((W.setCell ⟨g,0,none⟩ c0).setCell ⟨g,1,none⟩ c1).setCell ⟨g,2,none⟩ c2).setCell ⟨g,3,none⟩ c3) g u #[c0,c1,c2,c3,a4]:=blk_set h2 c3
 exact row_set (row_set (row_set (row_set (row_set h hg hu c0) h0 hu c1) h1 hu c2) h2 hu c3) h3 hu c4
set_option maxRecDepth 100000 in
set_option maxHeartbeats 2000000 in
theorem cside_of (n:Int)(S:ByteArray)(w:World)(h0:0≤n)(h3:n≤3)(hs:Hid (bb (sideW n)=S)) :
    Calls Tryz.prog 241 #[.int .i64 n] w fun e w'=>e=.returned (.string S)∧Below w.heap.size w w':=by
 have h:n=0∨n=1∨n=2∨n=3:=by omega
 clear h0 h3
 have HB:=Lh (al1 w (.cells #[.string ⟨#[116,111,112]⟩,.string ⟨#[114,105,103,104,116]⟩,.string ⟨#[98,111,116,116,111,109]⟩,.string ⟨#[108,101,102,116]⟩] 312))
 rcases h with rfl | rfl | rfl | rfl
 ·obtain rfl:(⟨#[116,111,112]⟩:ByteArray)=S:=by rw [← hs.out];rfl
  clear hs
  go_enter Tryz.func241,Tryz.ntmps241
  go_wp2
  go_ret
  exact ⟨rfl,HB.out⟩
 ·obtain rfl:(⟨#[114,105,103,104,116]⟩:ByteArray)=S:=by rw [← hs.out];rfl
  clear hs
  go_enter Tryz.func241,Tryz.ntmps241
  go_wp2
  go_ret
  exact ⟨rfl,HB.out⟩
 ·obtain rfl:(⟨#[98,111,116,116,111,109]⟩:ByteArray)=S:=by rw [← hs.out];rfl
  clear hs
  go_enter Tryz.func241,Tryz.ntmps241
  go_wp2
  go_ret
  exact ⟨rfl,HB.out⟩
 ·obtain rfl:(⟨#[108,101,102,116]⟩:ByteArray)=S:=by rw [← hs.out];rfl
  clear hs
  go_enter Tryz.func241,Tryz.ntmps241
  go_wp2
  go_ret
  exact ⟨rfl,HB.out⟩
set_option maxRecDepth 100000 in
set_option maxHeartbeats 2000000 in
theorem cmode_of (n:Int)(S:ByteArray)(w:World)(h0:0≤n)(h3:n≤4)(hs:Hid (bb (modes.getD n.toNat [])=S)) :
    Calls Tryz.prog 69 #[.int .i64 n] w fun e w'=>e=.returned (.string S)∧Below w.heap.size w w':=by
 have h:n=0∨n=1∨n=2∨n=3∨n=4:=by omega
 clear h0 h3
 have HB:=Lh (al1 w (.cells #[.string ⟨#[108,97,121,101,114,101,100]⟩,.string ⟨#[111,114,116,104,111,103,111,110,97,108]⟩,.string ⟨#[115,116,114,97,105,103,104,116]⟩,.string ⟨#[116,105,100,121]⟩,.string ⟨#[114,97,100,105,97,108]⟩] 214))
 rcases h with rfl | rfl | rfl | rfl | rfl
 ·obtain rfl:(⟨#[108,97,121,101,114,101,100]⟩:ByteArray)=S:=by rw [← hs.out];rfl
  clear hs
  go_enter Tryz.func69,Tryz.ntmps69
  go_wp2
  go_ret
  exact ⟨rfl,HB.out⟩
 ·obtain rfl:(⟨#[111,114,116,104,111,103,111,110,97,108]⟩:ByteArray)=S:=by rw [← hs.out];rfl
  clear hs
  go_enter Tryz.func69,Tryz.ntmps69
  go_wp2
  go_ret
  exact ⟨rfl,HB.out⟩
 ·obtain rfl:(⟨#[115,116,114,97,105,103,104,116]⟩:ByteArray)=S:=by rw [← hs.out];rfl
  clear hs
  go_enter Tryz.func69,Tryz.ntmps69
  go_wp2
  go_ret
  exact ⟨rfl,HB.out⟩
 ·obtain rfl:(⟨#[116,105,100,121]⟩:ByteArray)=S:=by rw [← hs.out];rfl
  clear hs
  go_enter Tryz.func69,Tryz.ntmps69
  go_wp2
  go_ret
  exact ⟨rfl,HB.out⟩
 ·obtain rfl:(⟨#[114,97,100,105,97,108]⟩:ByteArray)=S:=by rw [← hs.out];rfl
  clear hs
  go_enter Tryz.func69,Tryz.ntmps69
  go_wp2
  go_ret
  exact ⟨rfl,HB.out⟩
end Go.Proofs.YtgmidodmmlmmeaaGreatDoor.xpt
namespace Go.Proofs.YtgmidodmmlmmeaaGreatDoor.xpt
open lex tre att nor
theorem mem_one {P:Prop}[Decidable P]{c v:List UInt8}{a:Pr}(h:a∈(if P then [] else [(c,v)])):a=(c,v)∧¬ P:=by
 by_cases hp:P
 ·rw [if_pos hp] at h;cases h
 ·rw [if_neg hp,List.mem_singleton] at h;exact ⟨h,hp⟩
structure NdV (x:gra.Nd):Prop where
 nm:isNm x.nm=true
 lb:x.lb.length≤32
 pl:x.lb.all isPl=true
 w:1≤x.w∧x.w≤1048576
 h:1≤x.h∧x.h≤1048576
 pv:∀ p∈x.ps,PtV p
 nd:(x.ps.map (·.1)).Nodup
 len:x.ps.length≤8
structure EdV (e:gra.Ed):Prop where
 lb:e.lb.length≤32
 pl:e.lb.all isPl=true
 wt:1≤e.wt∧e.wt≤1000
 ln:1≤e.ln∧e.ln≤64
theorem nodup_of {α β:Type}[BEq β][LawfulBEq β]{f:α→β}{l:List α}(h:∀ i x,l[i]?=some x→(l.take i).any (fun y=>f y == f x)=false):(l.map f).Nodup:=by
 unfold List.Nodup
 rw [List.pairwise_iff_getElem]
 intro i j hi hj hij e
 rw [List.length_map] at hi hj
 rw [List.getElem_map,List.getElem_map] at e
 have h1:=h j l[j] (List.getElem?_eq_getElem hj)
 rw [List.any_eq_false] at h1
 refine h1 l[i] (List.mem_take_iff_getElem.2 ⟨i,by omega,rfl⟩) ?_
 rw [e];simp
structure GV (g:gra.Gr):Prop where
 nl:g.ns.length≤64
 el:g.es.length≤256
 cl:g.cs.length≤16
 nm:isNm g.nm=true
 nd:∀ x∈g.ns,NdV x
 nn:(g.ns.map (·.nm)).Nodup
 cn:(g.cs.map (·.1)).Nodup
 nc:∀ x∈g.ns,∀ c∈g.cs,x.nm≠c.1
 cm:∀ c∈g.cs,isNm c.1=true
 ev:∀ e∈g.es,EdV e
 ef:∀ e∈g.es,0≤e.fr∧e.fr < g.ns.length∧0≤e.to∧e.to < g.ns.length∧-1≤e.fp∧e.fp < (ndAt g.ns e.fr).ps.length∧-1≤e.tp∧e.tp < (ndAt g.ns e.to).ps.length
theorem ndAt_some {ns:List gra.Nd}{v:Int}(h0:0≤v)(h:v < ns.length):ns[v.toNat]?=some (ndAt ns v):=by
 have hv:v.toNat < ns.length:=by omega
 unfold ndAt
 rw [List.getD_eq_getElem?_getD,List.getElem?_eq_getElem hv];rfl
theorem gv_of {g:gra.Gr}(h:gra.validE g=0):GV g:=by
 unfold gra.validE at h
 split at h
 ·exact absurd h (by decide)
 rename_i hlen
 split at h
 ·exact absurd h (by decide)
 rename_i hnm
 split at h
 ·rename_i hn;exact absurd h hn
 rename_i hn
 split at h
 ·rename_i hc;exact absurd h hc
 rename_i hc
 have hn':=gra.firstE_ok (f:=gra.nodeE g) (l:=g.ns) (pre:=[]) (by simpa using hn)
 have hc':=gra.firstE_ok (f:=gra.clusterE g) (l:=g.cs) (pre:=[]) (by simpa using hc)
 have he':=gra.firstE_ok (f:=fun _ x=>gra.edgeE g x) (l:=g.es) (pre:=[]) h
 have node:∀ i x,g.ns[i]?=some x→NdV x∧(g.ns.take i).any (fun y=>y.nm == x.nm)=false:=fun i x hx=>by
  have h:=hn' i x hx
  rw [List.nil_append] at h
  unfold gra.nodeE at h
  split at h
  ·exact absurd h (by decide)
  rename_i k1
  split at h
  ·exact absurd h (by decide)
  rename_i k2
  split at h
  ·exact absurd h (by decide)
  rename_i k3
  split at h
  ·exact absurd h (by decide)
  rename_i k4
  split at h
  ·exact absurd h (by decide)
  rename_i k5
  split at h
  ·exact absurd h (by decide)
  rename_i k6
  have hp:=gra.firstE_ok (f:=gra.portE) (l:=x.ps) (pre:=[]) h
  have port:∀ i p,x.ps[i]?=some p→PtV p∧(x.ps.take i).any (fun q=>q.1 == p.1)=false:=fun i p hq=>by
   have h:=hp i p hq
   rw [List.nil_append] at h
   unfold gra.portE at h
   split at h
   ·exact absurd h (by decide)
   rename_i m1
   split at h
   ·exact absurd h (by decide)
   rename_i m2
   split at h
   ·exact absurd h (by decide)
   rename_i m3
   exact ⟨⟨by simpa using m1,by omega,by omega⟩,Bool.eq_false_iff.2 m2⟩
  refine ⟨⟨by simpa using k1,by omega,by simpa [gra.plainB] using k4,by omega,by omega,fun p hp=>?_,nodup_of fun i p hq=>(port i p hq).2,by omega⟩,Bool.eq_false_iff.2 k2⟩
  obtain ⟨i,hi,rfl⟩:=List.mem_iff_getElem.1 hp
  exact (port i _ (List.getElem?_eq_getElem hi)).1
 have clu:∀ i x,g.cs[i]?=some x→isNm x.1=true∧(g.cs.take i).any (fun y=>y.1 == x.1)=false∧g.ns.any (fun y=>y.nm == x.1)=false:=fun i x hx=>by
  have h:=hc' i x hx
  rw [List.nil_append] at h
  unfold gra.clusterE at h
  split at h
  ·exact absurd h (by decide)
  rename_i k1
  split at h
  ·exact absurd h (by decide)
  rename_i k2
  split at h
  ·exact absurd h (by decide)
  rename_i k3
  exact ⟨by simpa using k1,Bool.eq_false_iff.2 k2,Bool.eq_false_iff.2 k3⟩
 have edge:∀ e∈g.es,gra.edgeE g e=0:=fun e hm=>by
  obtain ⟨i,hi,rfl⟩:=List.mem_iff_getElem.1 hm
  exact he' i _ (List.getElem?_eq_getElem hi)
 have edge2:∀ e∈g.es,EdV e∧0≤e.fr∧e.fr < g.ns.length∧0≤e.to∧e.to < g.ns.length∧-1≤e.fp∧e.fp < (ndAt g.ns e.fr).ps.length∧-1≤e.tp∧e.tp < (ndAt g.ns e.to).ps.length:=fun e hm=>by
  have h:=edge e hm
  unfold gra.edgeE at h
  split at h
  ·exact absurd h (by decide)
  rename_i k1
  have a:=ndAt_some (ns:=g.ns) (v:=e.fr) (by omega) (by omega)
  have b:=ndAt_some (ns:=g.ns) (v:=e.to) (by omega) (by omega)
  rw [a,b] at h
  simp only at h
  split at h
  ·exact absurd h (by decide)
  rename_i k2
  split at h
  ·exact absurd h (by decide)
  rename_i k3
  split at h
  ·exact absurd h (by decide)
  rename_i k4
  have k5:e.lb.all isPl=true:=by
   cases hq:e.lb.all isPl with
   | true=>rfl
   | false=>exact absurd (Or.inl hq) k4
  exact ⟨⟨by omega,k5,by omega,by omega⟩,by omega,by omega,by omega,by omega,by omega,by omega,by omega,by omega⟩
 refine ⟨by omega,by omega,by omega,by simpa using hnm,fun x hx=>?_,nodup_of fun i x hx=>(node i x hx).2,nodup_of fun i x hx=>(clu i x hx).2.1,fun x hx c hc e=>?_,fun c hc=>?_,fun e he=>(edge2 e he).1,fun e he=>(edge2 e he).2⟩
 ·obtain ⟨i,hi,rfl⟩:=List.mem_iff_getElem.1 hx
  exact (node i _ (List.getElem?_eq_getElem hi)).1
 ·obtain ⟨i,hi,rfl⟩:=List.mem_iff_getElem.1 hc
  have:=(clu i _ (List.getElem?_eq_getElem hi)).2.2
  rw [List.any_eq_false] at this
  exact this x hx (by rw [e];simp)
 ·obtain ⟨i,hi,rfl⟩:=List.mem_iff_getElem.1 hc
  exact (clu i _ (List.getElem?_eq_getElem hi)).1
end Go.Proofs.YtgmidodmmlmmeaaGreatDoor.xpt
