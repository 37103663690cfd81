/-
  Graphs in memory (layer 11): lists of ports, nodes, edges and clusters as slices hold them; a graph that comes in. No condition.
  What the small functions of the reference of layer 11 return: bytes, Find, ports. Conditions: a text's length; graphs in memory.
  What ports of the reference of layer 11 returns. Condition: a list of ports in memory.
  Lists of numbers in memory, and what SameInts of the reference of layer 11 returns. Condition: two lists in memory.
  What depth and Has of the reference of layer 11 return. Conditions: a graph in memory; clusters that lie in earlier ones.
  What cluster of the reference of layer 11 returns. Condition: a graph in memory; the clusters before lie in earlier ones.
-/
import Derived.Test.YtgmidodmmlmmeaaGreatDoorMad
import Derived.Test.YtgmidodmmlmmeaaGreatDoorGraPlain
import Derived.Lib.QuietBelow
namespace Go.Proofs.YtgmidodmmlmmeaaGreatDoor.gra
open Go.ChangeShapes Go.WideShapes Go.ChangeAt Go.RowKit Go.Joins lex
abbrev bb (l:List UInt8):ByteArray:=⟨l.toArray⟩
theorem bb_list (s:ByteArray):bb s.data.toList=s:=by cases s;simp
def Rw {α:Type}(c:Nat)(P:World→Addr→α→Prop)(w:World)(v:Value)(l:List α):Prop :=
 ∃ (ao:Option Addr) (cap:Nat),v=.slice ao l.length cap∧l.length≤cap∧cap≤maxLen∧(0 < l.length→∃ A,ao=some A∧∀ i (h:i < l.length),P w (A.add (i*c)) l[i])
theorem Rw.nil {α:Type}(c:Nat)(P:World→Addr→α→Prop)(w:World):Rw c P w (.slice none 0 0) []:=⟨none,0,rfl,Nat.le_refl _,by decide,fun h=>absurd h (by simp)⟩
theorem Rw.keep {α:Type}{c:Nat}{P:World→Addr→α→Prop}(hP:∀ {w1 w2:World} {A:Addr} {x:α},P w1 A x→Below w1.heap.size w1 w2→P w2 A x){w1 w2:World}{v:Value}{l:List α}(h:Rw c P w1 v l)(hb:Below w1.heap.size w1 w2):Rw c P w2 v l:=by
 obtain ⟨ao,cap,rfl,hc,hm,hA⟩:=h
 exact ⟨ao,cap,rfl,hc,hm,fun hn=>by obtain ⟨A,rfl,h2⟩:=hA hn;exact ⟨A,rfl,fun i hi=>hP (h2 i hi) hb⟩⟩
def ptAt (w:World)(A:Addr)(r:Pt):Prop :=
 w.cell? A=some (.string (bb r.1))∧w.cell? ⟨A.block,A.off+1,none⟩=some (.int .i64 r.2)∧r.1.length≤maxLen∧(Lit.int .i64 r.2).wf=true
theorem ptAt.keep {w1 w2:World}{A:Addr}{r:Pt}(h:ptAt w1 A r)(hb:Below w1.heap.size w1 w2):ptAt w2 A r:=⟨cell_later' hb h.1,cell_later' hb h.2.1,h.2.2⟩
abbrev Pts:=Rw 2 ptAt
theorem Pts.keep {w1 w2:World}{v:Value}{l:List Pt}(h:Pts w1 v l)(hb:Below w1.heap.size w1 w2):Pts w2 v l:=Rw.keep (P:=ptAt) (fun h hb=>ptAt.keep h hb) h hb
def ndAt (w:World)(A:Addr)(x:Nd):Prop :=
 w.cell? A=some (.string (bb x.nm))∧w.cell? ⟨A.block,A.off+1,none⟩=some (.string (bb x.lb))∧w.cell? ⟨A.block,A.off+2,none⟩=some (.int .i64 x.w)∧w.cell? ⟨A.block,A.off+3,none⟩=some (.int .i64 x.h) ∧
 w.cell? ⟨A.block,A.off+4,none⟩=some (.int .i64 x.cl)∧(∃ pv,w.cell? ⟨A.block,A.off+5,none⟩=some pv∧Pts w pv x.ps)∧x.nm.length≤maxLen∧x.lb.length≤maxLen ∧
 (Lit.int .i64 x.w).wf=true∧(Lit.int .i64 x.h).wf=true∧(Lit.int .i64 x.cl).wf=true
theorem ndAt.keep {w1 w2:World}{A:Addr}{x:Nd}(h:ndAt w1 A x)(hb:Below w1.heap.size w1 w2):ndAt w2 A x:=by
 obtain ⟨h0,h1,h2,h3,h4,⟨pv,h5,h6⟩,h7⟩:=h
 exact ⟨cell_later' hb h0,cell_later' hb h1,cell_later' hb h2,cell_later' hb h3,cell_later' hb h4,⟨pv,cell_later' hb h5,h6.keep hb⟩,h7⟩
abbrev Nds:=Rw 6 ndAt
theorem Nds.keep {w1 w2:World}{v:Value}{l:List Nd}(h:Nds w1 v l)(hb:Below w1.heap.size w1 w2):Nds w2 v l:=Rw.keep (P:=ndAt) (fun h hb=>ndAt.keep h hb) h hb
def edAt (w:World)(A:Addr)(x:Ed):Prop :=
 w.cell? A=some (.int .i64 x.fr)∧w.cell? ⟨A.block,A.off+1,none⟩=some (.int .i64 x.to)∧w.cell? ⟨A.block,A.off+2,none⟩=some (.int .i64 x.fp)∧w.cell? ⟨A.block,A.off+3,none⟩=some (.int .i64 x.tp) ∧
 w.cell? ⟨A.block,A.off+4,none⟩=some (.string (bb x.lb))∧w.cell? ⟨A.block,A.off+5,none⟩=some (.int .i64 x.wt)∧w.cell? ⟨A.block,A.off+6,none⟩=some (.int .i64 x.ln)∧x.lb.length≤maxLen ∧
 (Lit.int .i64 x.fr).wf=true∧(Lit.int .i64 x.to).wf=true∧(Lit.int .i64 x.fp).wf=true∧(Lit.int .i64 x.tp).wf=true∧(Lit.int .i64 x.wt).wf=true∧(Lit.int .i64 x.ln).wf=true
theorem edAt.keep {w1 w2:World}{A:Addr}{x:Ed}(h:edAt w1 A x)(hb:Below w1.heap.size w1 w2):edAt w2 A x:=by
 obtain ⟨h0,h1,h2,h3,h4,h5,h6,h7⟩:=h
 exact ⟨cell_later' hb h0,cell_later' hb h1,cell_later' hb h2,cell_later' hb h3,cell_later' hb h4,cell_later' hb h5,cell_later' hb h6,h7⟩
abbrev Eds:=Rw 7 edAt
theorem Eds.keep {w1 w2:World}{v:Value}{l:List Ed}(h:Eds w1 v l)(hb:Below w1.heap.size w1 w2):Eds w2 v l:=Rw.keep (P:=edAt) (fun h hb=>edAt.keep h hb) h hb
abbrev Cls:=Rw 2 ptAt
theorem Cls.keep {w1 w2:World}{v:Value}{l:List Cl}(h:Cls w1 v l)(hb:Below w1.heap.size w1 w2):Cls w2 v l:=Pts.keep h hb
def GrV (w:World)(v:Value)(g:Gr):Prop :=
 ∃ nv ev cv,v=.agg #[.string (bb g.nm),.bool g.dir,nv,ev,cv]∧g.nm.length≤maxLen∧Nds w nv g.ns∧Eds w ev g.es∧Cls w cv g.cs
theorem GrV.keep {w1 w2:World}{v:Value}{g:Gr}(h:GrV w1 v g)(hb:Below w1.heap.size w1 w2):GrV w2 v g:=by
 obtain ⟨nv,ev,cv,rfl,hm,h1,h2,h3⟩:=h;exact ⟨nv,ev,cv,rfl,hm,h1.keep hb,h2.keep hb,h3.keep hb⟩
instance:Inhabited Nd:=⟨⟨[],[],0,0,0,[]⟩⟩
instance:Inhabited Ed:=⟨⟨0,0,0,0,[],0,0⟩⟩
section
variable {H:Type} {enc:TypeId × Value→H} {w:World} {base:Nat} {spare:Nat→Bool} {held:Bool}
theorem trod_fields {t:TypeId}{fs:Array Field}{fuel:Nat}{cs:List Value}{x:DataW H × List MemPlace}(ht:Tryz.prog.underlying t=some (.struct fs))(h:DataW.trod enc Tryz.prog w base spare held fuel t cs=some x) :
    cs.length=Tryz.prog.cellsOf t∧∃ n,∀ (i:Nat) (f:Field),fs[i]?=some f→∃ y,DataW.trod enc Tryz.prog w base spare held n f.type ((cs.drop f.offset).take (Tryz.prog.cellsOf f.type))=some y:=by
 obtain ⟨xs,n,_,rfl,hl,hlen,hf⟩:=DataW.trod_struct ht h
 refine ⟨hl,n,fun i f hi=>?_⟩
 have hil:i < xs.length:=by
  rw [hlen]
  rcases Nat.lt_or_ge i fs.size with h | h
  ·exact h
  ·rw [Array.getElem?_eq_none h] at hi;exact nomatch hi
 exact ⟨xs[i],by have:=hf i f hi;rw [List.getElem?_eq_getElem hil] at this;simpa using this⟩
theorem open_rw {α:Type}[Inhabited α]{c:Nat}{P:World→Addr→α→Prop}{t e:TypeId}{fuel:Nat}{cs:List Value}{x:DataW H × List MemPlace}(ht:Tryz.prog.underlying t=some (.slice e))(hc:Tryz.prog.cellsOf e=c)
    (hel:∀ (A:Addr) (n:Nat) (cs:List Value) (y:DataW H × List MemPlace),cs.length=c→(∀ i,i < c→w.cell? (A.add i)=cs[i]?)→DataW.trod enc Tryz.prog w base spare held n e cs=some y→∃ a,P w A a)
    (h:DataW.trod enc Tryz.prog w base spare held fuel t cs=some x):∃ v l,cs=[v]∧Rw c P w v l:=by
 rcases Deep.open_slice ht h with ⟨rfl,_⟩ | ⟨a,len,cap,m,n,D,Pl,rfl,_,hl,hm,hmm,_,hi⟩
 ·exact ⟨_,[],rfl,Rw.nil c P w⟩
 ·have hlm:len≤m:=by rw [hmm];split <;> omega
  have key:∀ i,i < len→∃ r:α,P w (a.add (i*c)) r:=by
   intro i hil
   obtain ⟨cs',hc',ht'⟩:=hi i (by omega)
   rw [hc] at hc'
   obtain ⟨_,hcl,hat⟩:=World.cells?_some hc'
   exact hel _ _ _ _ hcl hat ht'
  obtain ⟨f,hf⟩:=Deep.choose_lt key
  have hlen:((List.range len).map f).length=len:=by simp
  refine ⟨_,(List.range len).map f,rfl,some a,cap,by rw [hlen],by rw [hlen];exact hl,hm,fun _=>⟨a,rfl,fun i hi'=>?_⟩⟩
  rw [hlen] at hi'
  simpa using hf i hi'
set_option maxRecDepth 100000 in
theorem open_ports {fuel:Nat}{cs:List Value}{x:DataW H × List MemPlace}(h:DataW.trod enc Tryz.prog w base spare held fuel 57 cs=some x):∃ v l,cs=[v]∧Pts w v l:=by
 refine open_rw Tryz.underlying57 (by kernel_rfl) (fun A n cs y hl hat ht=>?_) h
 obtain ⟨_,q,hf⟩:=trod_fields Tryz.underlying192 ht
 obtain ⟨c0,c1,rfl⟩:∃ c0 c1,cs=[c0,c1]:=by
  match cs,hl with
  | [c0,c1],_=>exact ⟨c0,c1,rfl⟩
 have hci:Tryz.prog.cellsOf 3=1:=by kernel_rfl
 have hcs:Tryz.prog.cellsOf 9=1:=by kernel_rfl
 obtain ⟨y0,k0⟩:=hf 0 _ rfl
 obtain ⟨y1,k1⟩:=hf 1 _ rfl
 simp [hci,hcs] at k0 k1
 obtain ⟨x0,e0,_,z0⟩:=DataW.trod_string Tryz.underlying9 k0
 obtain ⟨x1,e1,_,z1⟩:=DataW.trod_int Tryz.underlying3 k1
 simp at e0 e1
 subst e0 e1
 have j0:=hat 0 (by omega)
 have j1:=hat 1 (by omega)
 rw [add_one_of _ 1 (by omega)] at j1
 exact ⟨(x0.data.toList,x1),by show _=some (Value.string (bb x0.data.toList));rw [bb_list];exact j0,j1,by simpa using z0,z1⟩
set_option maxRecDepth 100000 in
theorem open_clusters {fuel:Nat}{cs:List Value}{x:DataW H × List MemPlace}(h:DataW.trod enc Tryz.prog w base spare held fuel 24 cs=some x):∃ v l,cs=[v]∧Cls w v l:=by
 refine open_rw Tryz.underlying24 (by kernel_rfl) (fun A n cs y hl hat ht=>?_) h
 obtain ⟨_,q,hf⟩:=trod_fields Tryz.underlying63 ht
 obtain ⟨c0,c1,rfl⟩:∃ c0 c1,cs=[c0,c1]:=by
  match cs,hl with
  | [c0,c1],_=>exact ⟨c0,c1,rfl⟩
 have hci:Tryz.prog.cellsOf 3=1:=by kernel_rfl
 have hcs:Tryz.prog.cellsOf 9=1:=by kernel_rfl
 obtain ⟨y0,k0⟩:=hf 0 _ rfl
 obtain ⟨y1,k1⟩:=hf 1 _ rfl
 simp [hci,hcs] at k0 k1
 obtain ⟨x0,e0,_,z0⟩:=DataW.trod_string Tryz.underlying9 k0
 obtain ⟨x1,e1,_,z1⟩:=DataW.trod_int Tryz.underlying3 k1
 simp at e0 e1
 subst e0 e1
 have j0:=hat 0 (by omega)
 have j1:=hat 1 (by omega)
 rw [add_one_of _ 1 (by omega)] at j1
 exact ⟨(x0.data.toList,x1),by show _=some (Value.string (bb x0.data.toList));rw [bb_list];exact j0,j1,by simpa using z0,z1⟩
set_option maxRecDepth 100000 in
theorem open_nodes {fuel:Nat}{cs:List Value}{x:DataW H × List MemPlace}(h:DataW.trod enc Tryz.prog w base spare held fuel 22 cs=some x):∃ v l,cs=[v]∧Nds w v l:=by
 refine open_rw Tryz.underlying22 (by kernel_rfl) (fun A n cs y hl hat ht=>?_) h
 obtain ⟨_,q,hf⟩:=trod_fields Tryz.underlying59 ht
 obtain ⟨c0,c1,c2,c3,c4,c5,rfl⟩:∃ c0 c1 c2 c3 c4 c5,cs=[c0,c1,c2,c3,c4,c5]:=by
  match cs,hl with
  | [c0,c1,c2,c3,c4,c5],_=>exact ⟨c0,c1,c2,c3,c4,c5,rfl⟩
 have hci:Tryz.prog.cellsOf 3=1:=by kernel_rfl
 have hcs:Tryz.prog.cellsOf 9=1:=by kernel_rfl
 have hcp:Tryz.prog.cellsOf 57=1:=by kernel_rfl
 obtain ⟨y0,k0⟩:=hf 0 _ rfl
 obtain ⟨y1,k1⟩:=hf 1 _ rfl
 obtain ⟨y2,k2⟩:=hf 2 _ rfl
 obtain ⟨y3,k3⟩:=hf 3 _ rfl
 obtain ⟨y4,k4⟩:=hf 4 _ rfl
 obtain ⟨y5,k5⟩:=hf 5 _ rfl
 simp [hci,hcs,hcp] at k0 k1 k2 k3 k4 k5
 obtain ⟨x0,e0,_,z0⟩:=DataW.trod_string Tryz.underlying9 k0
 obtain ⟨x1,e1,_,z1⟩:=DataW.trod_string Tryz.underlying9 k1
 obtain ⟨x2,e2,_,z2⟩:=DataW.trod_int Tryz.underlying3 k2
 obtain ⟨x3,e3,_,z3⟩:=DataW.trod_int Tryz.underlying3 k3
 obtain ⟨x4,e4,_,z4⟩:=DataW.trod_int Tryz.underlying3 k4
 obtain ⟨pv,ps,e5,hp⟩:=open_ports k5
 simp at e0 e1 e2 e3 e4 e5
 subst e0 e1 e2 e3 e4 e5
 have j0:=hat 0 (by omega)
 have j1:=hat 1 (by omega)
 have j2:=hat 2 (by omega)
 have j3:=hat 3 (by omega)
 have j4:=hat 4 (by omega)
 have j5:=hat 5 (by omega)
 rw [add_one_of _ 1 (by omega)] at j1
 rw [add_one_of _ 2 (by omega)] at j2
 rw [add_one_of _ 3 (by omega)] at j3
 rw [add_one_of _ 4 (by omega)] at j4
 rw [add_one_of _ 5 (by omega)] at j5
 exact ⟨⟨x0.data.toList,x1.data.toList,x2,x3,x4,ps⟩,by show _=some (Value.string (bb x0.data.toList));rw [bb_list];exact j0,by show _=some (Value.string (bb x1.data.toList));rw [bb_list];exact j1,j2,j3,j4,⟨_,j5,hp⟩,by simpa using z0,by simpa using z1,z2,z3,z4⟩
set_option maxRecDepth 100000 in
theorem open_edges {fuel:Nat}{cs:List Value}{x:DataW H × List MemPlace}(h:DataW.trod enc Tryz.prog w base spare held fuel 23 cs=some x):∃ v l,cs=[v]∧Eds w v l:=by
 refine open_rw Tryz.underlying23 (by kernel_rfl) (fun A n cs y hl hat ht=>?_) h
 obtain ⟨_,q,hf⟩:=trod_fields Tryz.underlying61 ht
 obtain ⟨c0,c1,c2,c3,c4,c5,c6,rfl⟩:∃ c0 c1 c2 c3 c4 c5 c6,cs=[c0,c1,c2,c3,c4,c5,c6]:=by
  match cs,hl with
  | [c0,c1,c2,c3,c4,c5,c6],_=>exact ⟨c0,c1,c2,c3,c4,c5,c6,rfl⟩
 have hci:Tryz.prog.cellsOf 3=1:=by kernel_rfl
 have hcs:Tryz.prog.cellsOf 9=1:=by kernel_rfl
 obtain ⟨y0,k0⟩:=hf 0 _ rfl
 obtain ⟨y1,k1⟩:=hf 1 _ rfl
 obtain ⟨y2,k2⟩:=hf 2 _ rfl
 obtain ⟨y3,k3⟩:=hf 3 _ rfl
 obtain ⟨y4,k4⟩:=hf 4 _ rfl
 obtain ⟨y5,k5⟩:=hf 5 _ rfl
 obtain ⟨y6,k6⟩:=hf 6 _ rfl
 simp [hci,hcs] at k0 k1 k2 k3 k4 k5 k6
 obtain ⟨x0,e0,_,z0⟩:=DataW.trod_int Tryz.underlying3 k0
 obtain ⟨x1,e1,_,z1⟩:=DataW.trod_int Tryz.underlying3 k1
 obtain ⟨x2,e2,_,z2⟩:=DataW.trod_int Tryz.underlying3 k2
 obtain ⟨x3,e3,_,z3⟩:=DataW.trod_int Tryz.underlying3 k3
 obtain ⟨x4,e4,_,z4⟩:=DataW.trod_string Tryz.underlying9 k4
 obtain ⟨x5,e5,_,z5⟩:=DataW.trod_int Tryz.underlying3 k5
 obtain ⟨x6,e6,_,z6⟩:=DataW.trod_int Tryz.underlying3 k6
 simp at e0 e1 e2 e3 e4 e5 e6
 subst e0 e1 e2 e3 e4 e5 e6
 have j0:=hat 0 (by omega)
 have j1:=hat 1 (by omega)
 have j2:=hat 2 (by omega)
 have j3:=hat 3 (by omega)
 have j4:=hat 4 (by omega)
 have j5:=hat 5 (by omega)
 have j6:=hat 6 (by omega)
 rw [add_one_of _ 1 (by omega)] at j1
 rw [add_one_of _ 2 (by omega)] at j2
 rw [add_one_of _ 3 (by omega)] at j3
 rw [add_one_of _ 4 (by omega)] at j4
 rw [add_one_of _ 5 (by omega)] at j5
 rw [add_one_of _ 6 (by omega)] at j6
 exact ⟨⟨x0,x1,x2,x3,x4.data.toList,x5,x6⟩,j0,j1,j2,j3,by show _=some (Value.string (bb x4.data.toList));rw [bb_list];exact j4,j5,j6,by simpa using z4,z0,z1,z2,z3,z5,z6⟩
set_option maxRecDepth 100000 in
theorem open_graph {r:Reach}{b0:Nat}{v:Value}{d:DataW H}{p:List MemPlace}(hv:Value.okWide Tryz.prog w r b0 26 v)(h:DataW.Trod enc Tryz.prog w base spare held 26 v d p):∃ g,GrV w v g:=by
 obtain ⟨cs,rfl,hsz⟩:=okWide_struct Tryz.underlying26 hv
 obtain ⟨fuel,hf⟩:=h
 obtain ⟨_,q,hk⟩:=trod_fields Tryz.underlying26 hf
 have hc5:Tryz.prog.cellsOf 26=5:=by kernel_rfl
 obtain ⟨c0,c1,c2,c3,c4,rfl⟩:∃ c0 c1 c2 c3 c4,cs=#[c0,c1,c2,c3,c4]:=by
  have hl:cs.toList.length=5:=by simpa using hsz.trans hc5
  match h:cs.toList,hl with
  | [c0,c1,c2,c3,c4],_=>exact ⟨c0,c1,c2,c3,c4,by rw [← Array.toArray_toList (xs:=cs),h]⟩
 have hcb:Tryz.prog.cellsOf 4=1:=by kernel_rfl
 have hcs:Tryz.prog.cellsOf 9=1:=by kernel_rfl
 have hcn:Tryz.prog.cellsOf 22=1:=by kernel_rfl
 have hce:Tryz.prog.cellsOf 23=1:=by kernel_rfl
 have hcc:Tryz.prog.cellsOf 24=1:=by kernel_rfl
 obtain ⟨y0,k0⟩:=hk 0 _ rfl
 obtain ⟨y1,k1⟩:=hk 1 _ rfl
 obtain ⟨y2,k2⟩:=hk 2 _ rfl
 obtain ⟨y3,k3⟩:=hk 3 _ rfl
 obtain ⟨y4,k4⟩:=hk 4 _ rfl
 simp [Value.cells,hcb,hcs,hcn,hce,hcc] at k0 k1 k2 k3 k4
 obtain ⟨x0,e0,_,z0⟩:=DataW.trod_string Tryz.underlying9 k0
 obtain ⟨x1,e1,_⟩:=DataW.trod_bool Tryz.underlying4 k1
 obtain ⟨nv,ns,e2,hn⟩:=open_nodes k2
 obtain ⟨ev,es,e3,he⟩:=open_edges k3
 obtain ⟨cv,cls,e4,hc⟩:=open_clusters k4
 simp at e0 e1 e2 e3 e4
 subst e0 e1 e2 e3 e4
 exact ⟨⟨x0.data.toList,x1,ns,es,cls⟩,_,_,_,by show _=Value.agg #[.string (bb x0.data.toList),_,_,_,_];rw [bb_list],by show x0.data.toList.length≤maxLen;simpa using z0,hn,he,hc⟩
end
end Go.Proofs.YtgmidodmmlmmeaaGreatDoor.gra
namespace Go.Proofs.YtgmidodmmlmmeaaGreatDoor.gra
open Go.RowKit lex
theorem Rw.get {α:Type}{c:Nat}{P:World→Addr→α→Prop}{w:World}{ao:Option Addr}{n cap:Nat}{l:List α}(h:Rw c P w (.slice ao n cap) l){k:Nat}(hk:k < l.length):∃ A,ao=some A∧P w (A.add (k*c)) l[k]:=by
 obtain ⟨ao',cap',e,_,_,hA⟩:=h
 cases e
 obtain ⟨A,rfl,h2⟩:=hA (by omega)
 exact ⟨A,rfl,h2 k hk⟩
set_option maxHeartbeats 1000000 in
theorem gplain_any (s:ByteArray)(w:World)(hs:s.size≤maxLen) :
    Calls Tryz.prog 144 #[.string s] w fun e w'=>e=.returned (.bool (s.data.toList.all isPl))∧w=w':=by
 unfold maxLen at hs
 obtain ⟨v,hv⟩:∃ v:Bool,s.data.toList.all isPl=v:=⟨_,rfl⟩
 rw [hv]
 have HV:=Lh hv
 clear hv
 go_enter Tryz.func144,Tryz.ntmps144
 go_wp2
 go_loop [3] (fun v=>∃ k:Nat,k≤s.size∧v=.int .i64 k∧(s.data.toList.take k).all isPl=true) (fun v=>s.size - (intOf v).toNat)
 case atStart=>exact ⟨0,Nat.zero_le _,rfl,rfl⟩
 case round =>
  obtain ⟨k,hk,rfl,hw⟩:=hrel
  have HW:=Lh hw
  clear hw
  by_cases hlt:k < s.size
  ·by_cases h1:(s[k].toNat:Int) < 32
   ·have HP:=Lh (plain_bad hlt (by unfold isPl;simp;omega))
    go_wp2
    go_ret
    exact ⟨ret_bool (by rw [← HV.out,HP.out]),rfl⟩
   ·by_cases h2:126 < (s[k].toNat:Int)
    ·have HP:=Lh (plain_bad hlt (by unfold isPl;simp;omega))
     go_wp2
     go_ret
     exact ⟨ret_bool (by rw [← HV.out,HP.out]),rfl⟩
    ·have HP:=Lh (plain_next HW.out hlt (by unfold isPl;simp;omega))
     go_wp2
     go_round
     case rel=>exact ⟨k+1,by omega,by go_num,HP.out⟩
     case measure=>simp [intOf];omega
  ·obtain rfl:k=s.size:=by omega
   have HP:Hid (s.data.toList.all isPl=true):=Lh (by have:=HW.out;rw [List.take_of_length_le (by rw [size_list];omega)] at this;exact this)
   go_wp2
   go_ret
   exact ⟨ret_bool (by rw [← HV.out,HP.out]),rfl⟩
theorem gplain_of (s:ByteArray)(v:Bool)(w:World)(hs:s.size≤maxLen)(h:Hid (plainB s.data.toList=v)) :
    Calls Tryz.prog 144 #[.string s] w fun e w'=>e=.returned (.bool v)∧w=w':=by rw [← h.out];exact gplain_any s w hs
set_option maxRecDepth 100000 in
set_option maxHeartbeats 4000000 in
theorem gfind_of (v:Value)(g:Gr)(s:ByteArray)(R:Int)(w:World)(h:Hid (GrV w v g))(hr:Hid (findV g s.data.toList=R)) :
    Calls Tryz.prog 143 #[v,.string s] w fun e w'=>e=.returned (.int .i64 R)∧Below w.heap.size w w':=by
 obtain ⟨nv,ev,cv,rfl,hnl,hn,he,hc⟩:=h.out
 have HR:Hid (findG (g.ns.drop 0) s.data.toList 0=R):=hr
 have hB:=al1 w (.cells #[.string (bb g.nm),.bool g.dir,nv,ev,cv] 26)
 have HN:=Lh (hn.keep hB)
 clear hn he hc h hr hnl
 obtain ⟨ao,cap,rfl,hc,hm,_⟩:=id HN.out
 unfold maxLen at hm
 have hlm:g.ns.length≤9223372036854775807:=by omega
 clear hc hm
 go_enter Tryz.func143,Tryz.ntmps143
 go_wp2_with fail
 go_loop [5] (fun iv=>∃ k:Nat,iv=.int .i64 k∧k≤g.ns.length∧findG (g.ns.drop k) s.data.toList k=R) (fun iv=>g.ns.length - (intOf iv).toNat)
 case atStart=>exact ⟨0,rfl,Nat.zero_le _,HR.out⟩
 case round =>
  obtain ⟨k,rfl,hk,hfe⟩:=hrel
  clear HR
  by_cases hlt:k < g.ns.length
  ·rw [findG_at hlt] at hfe
   obtain ⟨A,rfl,q0,-⟩:=HN.out.get hlt
   obtain ⟨Y,hY⟩:∃ Y,bb g.ns[k].nm=Y:=⟨_,rfl⟩
   rw [hY] at q0
   have hY2:Y.data.toList=g.ns[k].nm:=by rw [← hY]
   have i0:(0:Int)≤(k:Int):=by omega
   have i1:(k:Int) < (g.ns.length:Int):=by omega
   by_cases hxy:g.ns[k].nm=s.data.toList
   ·have b1:(Y.toList == s.toList)=true:=by rw [ByteArray.toList_eq,ByteArray.toList_eq,hY2,beq_iff_eq];exact hxy
    rw [if_pos hxy] at hfe
    subst hfe
    clear hY hY2 hxy
    go_wp2
    go_ret
    exact ⟨rfl,hB⟩
   ·have b1:(Y.toList == s.toList)=false:=by rw [ByteArray.toList_eq,ByteArray.toList_eq,hY2,beq_eq_false_iff_ne];exact hxy
    rw [if_neg hxy] at hfe
    have HF:=Lh hfe
    clear hY hY2 hxy hfe
    go_wp2
    go_round
    case rel=>exact ⟨k+1,by go_num,by omega,HF.out⟩
    case measure=>simp [intOf];omega
  ·rw [findG_end (by omega)] at hfe
   subst hfe
   go_wp2
   go_ret
   exact ⟨rfl,hB⟩
theorem drew_n (w:World):∀ n,Below w.heap.size w (w.drewN n)
 | 0=>Below.refl _ _
 | n+1=>(drew_n w n).drew
set_option maxRecDepth 100000 in
set_option maxHeartbeats 8000000 in
theorem gports_of (v:Value)(l:List Pt)(R:Int)(w:World)(h:Hid (Pts w v l))(hr:Hid (firstE portE [] l=R)) :
    Calls Tryz.prog 145 #[v] w fun e w'=>e=.returned (.int .i64 R)∧Below w.heap.size w w':=by
 obtain ⟨ao,cap,rfl,hc,hm,_⟩:=id h.out
 unfold maxLen at hm
 have hlm:l.length≤9223372036854775807:=by omega
 clear hc hm
 have HR:Hid (firstE portE (l.take 0) (l.drop 0)=R):=hr
 clear hr
 go_enter Tryz.func145,Tryz.ntmps145
 go_wp2_with fail
 go_loopw [3] (fun iv wr=>∃ i:Nat,iv=.int .i64 i∧i≤l.length∧firstE portE (l.take i) (l.drop i)=R∧Below w.heap.size w wr) (fun iv _=>l.length - (intOf iv).toNat)
 case atStart=>exact ⟨0,rfl,Nat.zero_le _,HR.out,Below.refl _ _⟩
 case round =>
  obtain ⟨i,rfl,hi,hfe,hB⟩:=hrel
  rename World=>wr
  clear HR
  by_cases hlt:i < l.length
  ·rw [firstE_at hlt] at hfe
   have hq:=(h.out.keep hB).get hlt
   obtain ⟨A,rfl,q0,q1,q2,-⟩:=hq
   obtain ⟨Y,hY⟩:∃ Y,bb l[i].1=Y:=⟨_,rfl⟩
   rw [hY] at q0
   have hY2:Y.data.toList=l[i].1:=by rw [← hY]
   have hYs:Y.size≤maxLen:=by rw [← size_list,hY2];exact q2
   have i0:(0:Int)≤(i:Int):=by omega
   have i1:(i:Int) < (l.length:Int):=by omega
   obtain ⟨nm,hnm⟩:∃ b,isNm l[i].1=b:=⟨_,rfl⟩
   have HNM:Hid (isNm Y.data.toList=nm):=Lh (by rw [hY2];exact hnm)
   have hb0:=hB
   have HB:=Lh hB
   cases nm
   ·have e5:portE (l.take i) l[i]=5:=by unfold portE;rw [if_pos hnm]
    rw [e5,if_pos (by decide)] at hfe
    subst hfe
    clear hY hY2 hnm e5 hB hb0
    go_wp2_with fail
    refine (rname_of _ _ _ hYs HNM).mono ?_
    rintro e w1 ⟨rfl,rfl⟩
    go_wp2
    go_ret
    exact ⟨rfl,HB.out⟩
   ·have HF:=Lh hfe
    have HNN:=Lh hnm
    clear hfe hnm hB hb0
    go_wp2_with fail
    refine (rname_of _ _ _ hYs HNM).mono ?_
    rintro e w1 ⟨rfl,rfl⟩
    go_wp2_with fail
    go_loopw [4] (fun kv wq=>∃ k:Nat,kv=.int .i64 k∧k≤i∧(l.take k).any (fun q=>q.1 == l[i].1)=false∧Below w.heap.size w wq) (fun kv _=>i - (intOf kv).toNat)
    case atStart=>exact ⟨0,rfl,Nat.zero_le _,by simp,HB.out⟩
    case round =>
     obtain ⟨k,rfl,hk,hany,hB2⟩:=hrel
     rename World=>wq
     by_cases hki:k < i
     ·obtain ⟨A1,e1,p0,-⟩:=(h.out.keep hB2).get (k:=k) (by omega)
      cases e1
      obtain ⟨A2,e2,s0,-⟩:=(h.out.keep hB2).get hlt
      cases e2
      rw [hY] at s0
      obtain ⟨X,hX⟩:∃ X,bb (l[k]'(by omega)).1=X:=⟨_,rfl⟩
      rw [hX] at p0
      have hX2:X.data.toList=(l[k]'(by omega)).1:=by rw [← hX]
      have k0:(0:Int)≤(k:Int):=by omega
      have k1:(k:Int) < (l.length:Int):=by omega
      obtain ⟨b,hb⟩:∃ b,(X.toList == Y.toList)=b:=⟨_,rfl⟩
      have hb2:((l[k]'(by omega)).1 == l[i].1)=b:=by rw [← hb,ByteArray.toList_eq,ByteArray.toList_eq,hX2,hY2]
      have HB2:=Lh hB2
      cases b
      ·have HA:Hid ((l.take (k+1)).any (fun q=>q.1 == l[i].1)=false):=Lh (by rw [any_step (by omega),hany,hb2];rfl)
       clear hX hX2 hb2 hany hB2
       go_wp2_with fail
       go_quiet (fail)
       have HB3:=Lh (below_keep (drew_n wq nq) HB2.out)
       generalize wq.drewN nq=w3 at HB3 ⊢
       go_wp2
       go_roundw
       case rel=>exact ⟨k+1,by go_num,by omega,HA.out,HB3.out⟩
       case measure=>simp [intOf];omega
      ·have HA:Hid ((l.take i).any (fun q=>q.1 == l[i].1)=true):=Lh (any_more (by omega) hki hb2)
       have e6:portE (l.take i) l[i]=6:=by unfold portE;rw [if_neg (by rw [HNN.out];decide),if_pos HA.out]
       have hfe:=HF.out
       rw [e6,if_pos (by decide)] at hfe
       subst hfe
       clear hX hX2 hb2 hany hB2 HF e6
       go_wp2_with fail
       go_quiet (fail)
       have HB3:=Lh (below_keep (drew_n wq nq) HB2.out)
       generalize wq.drewN nq=w3 at HB3 ⊢
       go_wp2
       go_ret
       exact ⟨rfl,HB3.out⟩
     ·obtain rfl:k=i:=by omega
      obtain ⟨A2,e2,-,s1,-⟩:=(h.out.keep hB2).get hlt
      cases e2
      obtain ⟨u,hu⟩:∃ u,l[k].2=u:=⟨_,rfl⟩
      rw [hu] at s1
      have HB2:=Lh hB2
      have hE:portE (l.take k) l[k]=if u < 0∨3 < u then 7 else 0:=by
       unfold portE;rw [if_neg (by rw [HNN.out];decide),if_neg (by rw [hany];decide),hu]
      have hfe:=HF.out
      rw [hE] at hfe
      clear HF hany hB2 hu hE hY hY2
      by_cases h1:u < 0
      ·rw [if_pos (Or.inl h1),if_pos (by decide)] at hfe
       subst hfe
       go_wp2
       go_ret
       exact ⟨rfl,HB2.out⟩
      ·by_cases h2:3 < u
       ·rw [if_pos (Or.inr h2),if_pos (by decide)] at hfe
        subst hfe
        go_wp2
        go_ret
        exact ⟨rfl,HB2.out⟩
       ·rw [show (if u < 0∨3 < u then (7:Int) else 0)=0 from if_neg (by omega),if_neg (by decide)] at hfe
        have HF2:=Lh hfe
        clear hfe
        go_wp2
        go_roundw
        case rel=>exact ⟨k+1,by go_num,by omega,HF2.out,HB2.out⟩
        case measure=>simp [intOf];omega
  ·rw [firstE_end (by omega)] at hfe
   subst hfe
   go_wp2
   go_ret
   exact ⟨rfl,hB⟩
def inAt (w:World)(A:Addr)(n:Int):Prop:=w.cell? A=some (.int .i64 n)
theorem inAt.keep {w1 w2:World}{A:Addr}{n:Int}(h:inAt w1 A n)(hb:Below w1.heap.size w1 w2):inAt w2 A n:=cell_later' hb h
abbrev Ins:=Rw 1 inAt
theorem Ins.keep {w1 w2:World}{v:Value}{l:List Int}(h:Ins w1 v l)(hb:Below w1.heap.size w1 w2):Ins w2 v l:=Rw.keep (P:=inAt) (fun h hb=>inAt.keep h hb) h hb
set_option maxRecDepth 100000 in
set_option maxHeartbeats 4000000 in
theorem gdepth_of (v:Value)(g:Gr)(n:Nat)(c R:Int)(w:World)(h:Hid (GrV w v g))(hn:n≤g.cs.length)(hw:Hid (Wf (g.cs.take n)))(hc0:-1≤c)(hc1:c < (n:Int))(hr:Hid (dep (g.cs.take n) c=R)) :
    Calls Tryz.prog 146 #[v,.int .i64 c] w fun e w'=>e=.returned (.int .i64 R)∧Below w.heap.size w w':=by
 obtain ⟨nv,ev,cv,rfl,hnl,hns,he,hc⟩:=h.out
 have hB:=al1 w (.cells #[.string (bb g.nm),.bool g.dir,nv,ev,cv] 26)
 have HC:=Lh (hc.keep hB)
 clear hns he hc h hnl
 obtain ⟨ao,cap,rfl,hc,hm,_⟩:=id HC.out
 unfold maxLen at hm
 have hlm:g.cs.length≤9223372036854775807:=by omega
 have hln:(g.cs.take n).length=n:=by rw [List.length_take];omega
 clear hc hm
 have hR0:R≤(n:Int):=by
  have:=dep_bound hw.out n c hc1 hc0
  have:=hr.out
  omega
 go_enter Tryz.func146,Tryz.ntmps146
 go_wp2_with fail
 go_loop [1,5] (fun kv mv=>∃ (k m:Int),kv=.int .i64 k∧mv=.int .i64 m∧-1≤k∧k < (n:Int)∧0≤m∧m+dep (g.cs.take n) k=R) (fun kv _=>(intOf kv+1).toNat)
 case atStart=>exact ⟨c,0,rfl,rfl,hc0,hc1,by omega,by rw [hr.out];omega⟩
 case round =>
  obtain ⟨k,m,rfl,rfl,hk0,hk1,hm0,hfe⟩:=hrel
  clear hr
  by_cases hlt:k < 0
  ·rw [dep_neg _ _ hlt] at hfe
   obtain rfl:m=R:=by omega
   go_wp2
   go_ret
   exact ⟨rfl,hB⟩
  ·obtain ⟨i,rfl⟩:∃ i:Nat,k=(i:Int):=⟨k.toNat,by omega⟩
   have hi:i < g.cs.length:=by omega
   obtain ⟨A,rfl,-,q1,-⟩:=HC.out.get hi
   obtain ⟨u,hu⟩:∃ u,g.cs[i].2=u:=⟨_,rfl⟩
   rw [hu] at q1
   have hup:up (g.cs.take n) (i:Int)=u:=by rw [up_at (by omega),List.getElem_take,hu]
   have hun:=up_neg _ hw.out (i:Int) (by omega)
   rw [dep_up hw.out _ (by omega),hup] at hfe
   rw [hup] at hun
   have hd:=dep_nonneg (g.cs.take n) u
   have i0:(0:Int)≤(i:Int):=by omega
   have i1:(i:Int) < (g.cs.length:Int):=by omega
   have HF:=Lh hfe
   have hm9:m < 9223372036854775807:=by omega
   clear hu hup hfe hd
   go_wp2
   go_round
   case rel=>exact ⟨u,m+1,rfl,by go_num,hun.1,by omega,by omega,by have:=HF.out;omega⟩
   case measure=>simp [intOf];omega
set_option maxRecDepth 100000 in
set_option maxHeartbeats 4000000 in
theorem ghas_of (v:Value)(g:Gr)(c:Int)(n:Nat)(R:Bool)(w:World)(h:Hid (GrV w v g))(hn:n < g.ns.length)(hw:Hid (Wf g.cs))(hr:Hid (-1≤clOf g n∧clOf g n < (g.cs.length:Int)))(hR:Hid (has g c n=R)) :
    Calls Tryz.prog 59 #[v,.int .i64 c,.int .i64 n] w fun e w'=>e=.returned (.bool R)∧Below w.heap.size w w':=by
 obtain ⟨nv,ev,cv,rfl,hnl,hns,he,hc⟩:=h.out
 have hB:=al1 w (.cells #[.string (bb g.nm),.bool g.dir,nv,ev,cv] 26)
 have HC:=Lh (hc.keep hB)
 have HN:=Lh (hns.keep hB)
 clear hns he hc h hnl
 obtain ⟨ao,cap,rfl,hc,hm,_⟩:=id HC.out
 obtain ⟨no,ncap,rfl,hc',hm',_⟩:=id HN.out
 unfold maxLen at hm hm'
 have hlm:g.cs.length≤9223372036854775807:=by omega
 have hln:g.ns.length≤9223372036854775807:=by omega
 clear hc hm hc' hm'
 have hh:=hR.out
 unfold has at hh
 by_cases h1:c=-1
 ·have b1:(c == -1)=true:=by rw [beq_iff_eq];exact h1
  rw [decide_eq_true h1,Bool.true_or] at hh
  subst hh
  clear hR
  go_enter Tryz.func59,Tryz.ntmps59
  go_wp2
  go_ret
  exact ⟨rfl,hB⟩
 have b1:(c == -1)=false:=by rw [beq_eq_false_iff_ne];exact h1
 rw [decide_eq_false h1,Bool.false_or] at hh
 obtain ⟨A,rfl,-,-,-,-,q4,-⟩:=HN.out.get hn
 have hcl:clOf g n=g.ns[n].cl:=by unfold clOf;rw [List.getElem?_eq_getElem hn]
 have hrr:=hr.out
 obtain ⟨u,hu⟩:∃ u,g.ns[n].cl=u:=⟨_,rfl⟩
 rw [hcl,hu] at hrr hh
 rw [hu] at q4
 have HH:=Lh hh
 have i0:(0:Int)≤(n:Int):=by omega
 have i1:(n:Int) < (g.ns.length:Int):=by omega
 clear hh hcl hu h1 hR hr
 go_enter Tryz.func59,Tryz.ntmps59
 go_wp2_with fail
 go_loop [7] (fun kv=>∃ (k:Int),kv=.int .i64 k∧-1≤k∧k < (g.cs.length:Int)∧decide (c∈ch g.cs k)=R) (fun kv=>(intOf kv+1).toNat)
 case atStart=>exact ⟨u,rfl,hrr.1,hrr.2,HH.out⟩
 case round =>
  obtain ⟨k,rfl,hk0,hk1,hfe⟩:=hrel
  clear HH
  by_cases hlt:k < 0
  ·rw [ch_neg _ _ hlt] at hfe
   obtain rfl:false=R:=by simpa using hfe
   go_wp2
   go_ret
   exact ⟨rfl,hB⟩
  ·obtain ⟨i,rfl⟩:∃ i:Nat,k=(i:Int):=⟨k.toNat,by omega⟩
   have hi:i < g.cs.length:=by omega
   rw [ch_cons hw.out _ (by omega)] at hfe
   by_cases hic:(i:Int)=c
   ·have b2:((i:Int) == c)=true:=by rw [beq_iff_eq];exact hic
    rw [decide_eq_true (by rw [hic];exact List.mem_cons_self ..)] at hfe
    subst hfe
    clear hic
    go_wp2
    go_ret
    exact ⟨rfl,hB⟩
   ·have b2:((i:Int) == c)=false:=by rw [beq_eq_false_iff_ne];exact hic
    obtain ⟨A',rfl,-,q1,-⟩:=HC.out.get hi
    obtain ⟨x,hx⟩:∃ x,g.cs[i].2=x:=⟨_,rfl⟩
    rw [hx] at q1
    have hup:up g.cs (i:Int)=x:=by rw [up_at hi,hx]
    have hun:=up_neg _ hw.out (i:Int) (by omega)
    rw [hup] at hun hfe
    have HF:Hid (decide (c∈ch g.cs x)=R):=Lh (by rw [← hfe,decide_eq_decide,List.mem_cons];exact ⟨Or.inr,fun h=>h.resolve_left fun e=>hic e.symm⟩)
    have j0:(0:Int)≤(i:Int):=by omega
    have j1:(i:Int) < (g.cs.length:Int):=by omega
    clear hx hup hfe hic
    go_wp2
    go_round
    case rel=>exact ⟨x,rfl,hun.1,by omega,HF.out⟩
    case measure=>simp [intOf];omega
def gat (w:World)(b:Nat)(x:ByteArray)(d:Bool)(nv ev cv:Value):Prop:=w.cell? ⟨b,0,none⟩=some (.string x)∧w.cell? ⟨b,1,none⟩=some (.bool d)∧w.cell? ⟨b,2,none⟩=some nv∧w.cell? ⟨b,3,none⟩=some ev∧w.cell? ⟨b,4,none⟩=some cv
theorem gat_new (w:World)(x:ByteArray)(d:Bool)(nv ev cv:Value)(t:TypeId):gat (w.alloc (.cells #[.string x,.bool d,nv,ev,cv] t)) w.heap.size x d nv ev cv:=by
 refine ⟨?_,?_,?_,?_,?_⟩ <;> go_simp
theorem gat_keep {w1 w2:World}{b:Nat}{x:ByteArray}{d:Bool}{nv ev cv:Value}(h:gat w1 b x d nv ev cv)(h2:Below w1.heap.size w1 w2):gat w2 b x d nv ev cv :=
 ⟨cell_keep h2 h.1,cell_keep h2 h.2.1,cell_keep h2 h.2.2.1,cell_keep h2 h.2.2.2.1,cell_keep h2 h.2.2.2.2⟩
def kat (w:World)(b:Nat)(x:ByteArray)(u:Int):Prop:=w.cell? ⟨b,0,none⟩=some (.string x)∧w.cell? ⟨b,1,none⟩=some (.int .i64 u)
theorem kat_new (w:World)(x:ByteArray)(u:Int)(t:TypeId):kat (w.alloc (.cells #[.string x,.int .i64 u] t)) w.heap.size x u:=by
 refine ⟨?_,?_⟩ <;> go_simp
theorem kat_keep {w1 w2:World}{b:Nat}{x:ByteArray}{u:Int}(h:kat w1 b x u)(h2:Below w1.heap.size w1 w2):kat w2 b x u:=⟨cell_keep h2 h.1,cell_keep h2 h.2⟩
theorem wf_next {cs:List Cl}{i:Nat}(hi:i < cs.length)(h:Wf (cs.take i))(h1:-1≤cs[i].2)(h2:cs[i].2 < (i:Int)):Wf (cs.take (i+1)):=by
 intro j x hx
 rw [List.getElem?_take] at hx
 split at hx
 ·rename_i hj
  by_cases he:j=i
  ·subst he
   rw [List.getElem?_eq_getElem hi] at hx
   cases hx
   exact ⟨h1,h2⟩
  ·exact h j x (by rw [List.getElem?_take,if_pos (by omega)];exact hx)
 ·exact nomatch hx
set_option maxRecDepth 100000 in
set_option maxHeartbeats 8000000 in
theorem gcluster_of (v:Value)(g:Gr)(i:Nat)(R:Int)(w:World)(h:Hid (GrV w v g))(hi:i < g.cs.length)(hw:Hid (Wf (g.cs.take i)))(hr:Hid (clusterE g (g.cs.take i) g.cs[i]=R)) :
    Calls Tryz.prog 79 #[v,.int .i64 i] w fun e w'=>e=.returned (.int .i64 R)∧Below w.heap.size w w':=by
 have hg:=h.out
 obtain ⟨nv,ev,cv,rfl,hnl,hns,he,hc⟩:=h.out
 have hB:=al1 w (.cells #[.string (bb g.nm),.bool g.dir,nv,ev,cv] 26)
 have HC:=Lh (hc.keep hB)
 obtain ⟨ao,cap,rfl,hc',hm,_⟩:=id HC.out
 unfold maxLen at hm
 have hlm:g.cs.length≤9223372036854775807:=by omega
 clear hns he hc hnl hc' hm
 obtain ⟨A,rfl,q0,q1,q2,-⟩:=HC.out.get hi
 obtain ⟨Y,hY⟩:∃ Y,bb g.cs[i].1=Y:=⟨_,rfl⟩
 obtain ⟨u,hu⟩:∃ u,g.cs[i].2=u:=⟨_,rfl⟩
 rw [hY] at q0
 rw [hu] at q1
 have hY2:Y.data.toList=g.cs[i].1:=by rw [← hY]
 have hYs:Y.size≤maxLen:=by rw [← size_list,hY2];exact q2
 have i0:(0:Int)≤(i:Int):=by omega
 have i1:(i:Int) < (g.cs.length:Int):=by omega
 obtain ⟨nm,hnm⟩:∃ b,isNm g.cs[i].1=b:=⟨_,rfl⟩
 have HNM:Hid (isNm Y.data.toList=nm):=Lh (by rw [hY2];exact hnm)
 have hfe:=hr.out
 obtain ⟨cv,hcv⟩:∃ cv:Value,Value.slice (some A) g.cs.length cap=cv:=⟨_,rfl⟩
 have HG0:=gat_keep (gat_new w (bb g.nm) g.dir nv ev cv 26) (al1 _ (.cells #[.string Y,.int .i64 u] 63))
 have HK0:=kat_new (w.alloc (.cells #[.string (bb g.nm),.bool g.dir,nv,ev,cv] 26)) Y u 63
 have HB0:=below_keep (al1 (w.alloc (.cells #[.string (bb g.nm),.bool g.dir,nv,ev,cv] 26)) (.cells #[.string Y,.int .i64 u] 63)) (al1 w _)
 rw [show (w.alloc (.cells #[.string (bb g.nm),.bool g.dir,nv,ev,cv] 26)).heap.size=w.heap.size+1 by simp] at HK0
 subst hcv
 have HG:=Lh HG0
 have HK:=Lh HK0
 have HB:=Lh HB0
 clear hY hr HG0 HK0 HB0
 cases nm
 ·have e5:clusterE g (g.cs.take i) g.cs[i]=5:=by unfold clusterE;rw [if_pos hnm]
  rw [e5] at hfe
  subst hfe
  clear e5 hnm hu hY2
  go_enter Tryz.func79,Tryz.ntmps79
  go_wp2_with fail
  refine (rname_of _ _ _ hYs HNM).mono ?_
  rintro e w1 ⟨rfl,rfl⟩
  go_wp2
  go_ret
  exact ⟨rfl,HB.out⟩
 have HF:=Lh hfe
 have HNN:=Lh hnm
 have HU:=Lh hu
 clear hfe hnm hB hu
 go_enter Tryz.func79,Tryz.ntmps79
 go_wp2_with fail
 refine (rname_of _ _ _ hYs HNM).mono ?_
 rintro e w1 ⟨rfl,rfl⟩
 generalize ((w.alloc (.cells #[.string (bb g.nm),.bool g.dir,nv,ev,.slice (some A) g.cs.length cap] 26)).alloc (.cells #[.string Y,.int .i64 u] 63))=w1 at HG HK HB ⊢
 go_wp2_with fail
 go_loopw [6] (fun kv wq=>∃ k:Nat,kv=.int .i64 k∧k≤i∧(g.cs.take k).any (fun q=>q.1 == g.cs[i].1)=false∧Below w1.heap.size w1 wq) (fun kv _=>i - (intOf kv).toNat)
 case atStart=>exact ⟨0,rfl,Nat.zero_le _,by simp,Below.refl _ _⟩
 case round =>
  obtain ⟨k,rfl,hk,hany,hB2⟩:=hrel
  rename World=>wq
  have hBw:=below_keep hB2 HB.out
  have HBw:=Lh hBw
  have HGQ:=Lh (gat_keep HG.out hB2)
  have HKQ:=Lh (kat_keep HK.out hB2)
  obtain ⟨g0,g1,g2,g3,g4⟩:=HGQ.out
  obtain ⟨c0,c1⟩:=HKQ.out
  by_cases hki:k < i
  ·obtain ⟨nv',ev',cv',e0,_,_,_,hcs⟩:=hg.keep hBw
   cases e0
   obtain ⟨A1,e1,p0,-⟩:=hcs.get (k:=k) (by omega)
   cases e1
   obtain ⟨X,hX⟩:∃ X,bb (g.cs[k]'(by omega)).1=X:=⟨_,rfl⟩
   rw [hX] at p0
   have hX2:X.data.toList=(g.cs[k]'(by omega)).1:=by rw [← hX]
   have k0:(0:Int)≤(k:Int):=by omega
   have k1:(k:Int) < (g.cs.length:Int):=by omega
   obtain ⟨b,hb⟩:∃ b,(X.toList == Y.toList)=b:=⟨_,rfl⟩
   have hb2:((g.cs[k]'(by omega)).1 == g.cs[i].1)=b:=by rw [← hb,ByteArray.toList_eq,ByteArray.toList_eq,hX2,hY2]
   have HB2:=Lh hB2
   clear hBw
   cases b
   ·have HA:Hid ((g.cs.take (k+1)).any (fun q=>q.1 == g.cs[i].1)=false):=Lh (by rw [any_step (by omega),hany,hb2];rfl)
    clear hX hX2 hb2 hany hB2
    go_wp2_with fail
    go_quiet (fail)
    have HB3:=Lh (below_keep (drew_n wq nq) HB2.out)
    generalize wq.drewN nq=w3 at HB3 ⊢
    go_wp2
    go_roundw
    case rel=>exact ⟨k+1,by go_num,by omega,HA.out,HB3.out⟩
    case measure=>simp [intOf];omega
   ·have HA:Hid ((g.cs.take i).any (fun q=>q.1 == g.cs[i].1)=true):=Lh (any_more (by omega) hki hb2)
    have e6:clusterE g (g.cs.take i) g.cs[i]=6:=by unfold clusterE;rw [if_neg (by rw [HNN.out];decide),if_pos HA.out]
    have hfe:=HF.out
    rw [e6] at hfe
    subst hfe
    clear hX hX2 hb2 hany hB2 HF e6
    go_wp2_with fail
    go_quiet (fail)
    have HB3:=Lh (below_keep (drew_n wq nq) HBw.out)
    generalize wq.drewN nq=w3 at HB3 ⊢
    go_wp2
    go_ret
    exact ⟨rfl,HB3.out⟩
  ·obtain rfl:k=i:=by omega
   obtain ⟨F,hF⟩:∃ F,findV g Y.data.toList=F:=⟨_,rfl⟩
   have HFI:=Lh hF
   have hF2:=findG_any (s:=g.cs[k].1) g.ns 0
   have hF3:findG g.ns g.cs[k].1 0=F:=by rw [← hY2];exact hF
   rw [hF3] at hF2
   have HGK:=Lh (hg.keep hBw)
   have HANY:=Lh hany
   clear hBw hF hF3 hany hB2
   go_wp2_with fail
   refine (gfind_of _ g Y F wq HGK HFI).mono ?_
   rintro e w4 ⟨rfl,hb4⟩
   have HB4:=Lh (below_keep hb4 HBw.out)
   have g0:=cell_keep hb4 g0
   have g1:=cell_keep hb4 g1
   have g2:=cell_keep hb4 g2
   have g3:=cell_keep hb4 g3
   have g4:=cell_keep hb4 g4
   have c1:=cell_keep hb4 c1
   have HGK4:=Lh (hg.keep HB4.out)
   have hfe:=HF.out
   unfold clusterE at hfe
   rw [if_neg (by rw [HNN.out];decide),if_neg (by rw [HANY.out];decide)] at hfe
   clear hb4
   by_cases f0:0≤F
   ·rw [if_pos (hF2.1 f0)] at hfe
    subst hfe
    clear hF2 HF
    go_wp2
    go_ret
    exact ⟨rfl,HB4.out⟩
   rw [if_neg (fun e=>f0 (hF2.2 e)),HU.out,List.length_take,Nat.min_eq_left (by omega)] at hfe
   clear hF2 HF
   by_cases u0:u < -1
   ·rw [if_pos (Or.inl u0)] at hfe
    subst hfe
    go_wp2
    go_ret
    exact ⟨rfl,HB4.out⟩
   by_cases u1:(k:Int)≤u
   ·rw [if_pos (Or.inr u1)] at hfe
    subst hfe
    go_wp2
    go_ret
    exact ⟨rfl,HB4.out⟩
   rw [if_neg (by omega)] at hfe
   have HWN:=Lh (wf_next hi hw.out (by rw [HU.out];omega) (by rw [HU.out];omega))
   rw [show g.cs.take k ++ [g.cs[k]]=g.cs.take (k+1) from (List.take_succ_eq_append_getElem hi).symm] at hfe
   obtain ⟨D,hD⟩:∃ D,dep (g.cs.take (k+1)) (k:Int)=D:=⟨_,rfl⟩
   have HD:=Lh hD
   rw [hD] at hfe
   clear hD
   go_wp2_with fail
   refine (gdepth_of _ g (k+1) (k:Int) D w4 HGK4 (by omega) HWN (by omega) (by omega) HD).mono ?_
   rintro e w5 ⟨rfl,hb5⟩
   have HB5:=Lh (below_keep hb5 HB4.out)
   clear hb5
   by_cases d6:6 < D
   ·rw [if_pos d6] at hfe
    subst hfe
    go_wp2
    go_ret
    exact ⟨rfl,HB5.out⟩
   ·rw [if_neg d6] at hfe
    subst hfe
    go_wp2
    go_ret
    exact ⟨rfl,HB5.out⟩
end Go.Proofs.YtgmidodmmlmmeaaGreatDoor.gra
