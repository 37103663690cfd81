/-
  Graphs in memory (layer 11): lists of ports, nodes, edges and clusters as slices hold them; a graph that comes in. No condition.
  What the small functions of the reference of layer 11 return: bytes, Find, ports. Conditions: a text's length; graphs in memory.
  What ports of the reference of layer 11 returns. Condition: a list of ports in memory.
  Lists of numbers in memory, and what SameInts of the reference of layer 11 returns. Condition: two lists in memory.
  What depth and Has of the reference of layer 11 return. Conditions: a graph in memory; clusters that lie in earlier ones.
  What cluster of the reference of layer 11 returns. Condition: a graph in memory; the clusters before lie in earlier ones.
  Rows of numbers and of arcs that a call makes (layer 11): what they hold, one element more. No condition.
-/
import Derived.Test.YtgmidodmmlmmeaaGreatDoorGraPlain
import Derived.Test.YtgmidodmmlmmeaaGreatDoorMag
import Derived.Lib.QuietBelow
namespace Go.Proofs.YtgmidodmmlmmeaaGreatDoor.gra
open Go.ChangeShapes Go.WideShapes Go.ChangeAt Go.RowKit Go.Joins lex
abbrev bb (l:List UInt8):ByteArray:=⟨l.toArray⟩
theorem bb_list (s:ByteArray):bb s.data.toList=s:=by cases s;simp
def Rw {α:Type}(c:Nat)(P:World→Addr→α→Prop)(w:World)(v:Value)(l:List α):Prop :=
 ∃ (ao:Option Addr) (cap:Nat),v=.slice ao l.length cap∧l.length≤cap∧cap≤maxLen∧(0 < l.length→∃ A,ao=some A∧∀ i (h:i < l.length),P w (A.add (i*c)) l[i])
theorem Rw.nil {α:Type}(c:Nat)(P:World→Addr→α→Prop)(w:World):Rw c P w (.slice none 0 0) []:=⟨none,0,rfl,Nat.le_refl _,by decide,fun h=>absurd h (by simp)⟩
theorem Rw.keep {α:Type}{c:Nat}{P:World→Addr→α→Prop}(hP:∀ {w1 w2:World} {A:Addr} {x:α},P w1 A x→Below w1.heap.size w1 w2→P w2 A x){w1 w2:World}{v:Value}{l:List α}(h:Rw c P w1 v l)(hb:Below w1.heap.size w1 w2):Rw c P w2 v l:=by
 obtain ⟨ao,cap,rfl,hc,hm,hA⟩:=h
 exact ⟨ao,cap,rfl,hc,hm,fun hn=>by obtain ⟨A,rfl,h2⟩:=hA hn;exact ⟨A,rfl,fun i hi=>hP (h2 i hi) hb⟩⟩
def ptAt (w:World)(A:Addr)(r:Pt):Prop :=
 w.cell? A=some (.string (bb r.1))∧w.cell? ⟨A.block,A.off+1,none⟩=some (.int .i64 r.2)∧r.1.length≤maxLen∧(Lit.int .i64 r.2).wf=true
theorem ptAt.keep {w1 w2:World}{A:Addr}{r:Pt}(h:ptAt w1 A r)(hb:Below w1.heap.size w1 w2):ptAt w2 A r:=⟨cell_later' hb h.1,cell_later' hb h.2.1,h.2.2⟩
abbrev Pts:=Rw 2 ptAt
theorem Pts.keep {w1 w2:World}{v:Value}{l:List Pt}(h:Pts w1 v l)(hb:Below w1.heap.size w1 w2):Pts w2 v l:=Rw.keep (P:=ptAt) (fun h hb=>ptAt.keep h hb) h hb
def ndAt (w:World)(A:Addr)(x:Nd):Prop :=
 w.cell? A=some (.string (bb x.nm))∧w.cell? ⟨A.block,A.off+1,none⟩=some (.string (bb x.lb))∧w.cell? ⟨A.block,A.off+2,none⟩=some (.int .i64 x.w)∧w.cell? ⟨A.block,A.off+3,none⟩=some (.int .i64 x.h) ∧
 w.cell? ⟨A.block,A.off+4,none⟩=some (.int .i64 x.cl)∧(∃ pv,w.cell? ⟨A.block,A.off+5,none⟩=some pv∧Pts w pv x.ps)∧x.nm.length≤maxLen∧x.lb.length≤maxLen ∧
 (Lit.int .i64 x.w).wf=true∧(Lit.int .i64 x.h).wf=true∧(Lit.int .i64 x.cl).wf=true
theorem ndAt.keep {w1 w2:World}{A:Addr}{x:Nd}(h:ndAt w1 A x)(hb:Below w1.heap.size w1 w2):ndAt w2 A x:=by
 obtain ⟨h0,h1,h2,h3,h4,⟨pv,h5,h6⟩,h7⟩:=h
 exact ⟨cell_later' hb h0,cell_later' hb h1,cell_later' hb h2,cell_later' hb h3,cell_later' hb h4,⟨pv,cell_later' hb h5,h6.keep hb⟩,h7⟩
abbrev Nds:=Rw 6 ndAt
theorem Nds.keep {w1 w2:World}{v:Value}{l:List Nd}(h:Nds w1 v l)(hb:Below w1.heap.size w1 w2):Nds w2 v l:=Rw.keep (P:=ndAt) (fun h hb=>ndAt.keep h hb) h hb
def edAt (w:World)(A:Addr)(x:Ed):Prop :=
 w.cell? A=some (.int .i64 x.fr)∧w.cell? ⟨A.block,A.off+1,none⟩=some (.int .i64 x.to)∧w.cell? ⟨A.block,A.off+2,none⟩=some (.int .i64 x.fp)∧w.cell? ⟨A.block,A.off+3,none⟩=some (.int .i64 x.tp) ∧
 w.cell? ⟨A.block,A.off+4,none⟩=some (.string (bb x.lb))∧w.cell? ⟨A.block,A.off+5,none⟩=some (.int .i64 x.wt)∧w.cell? ⟨A.block,A.off+6,none⟩=some (.int .i64 x.ln)∧x.lb.length≤maxLen ∧
 (Lit.int .i64 x.fr).wf=true∧(Lit.int .i64 x.to).wf=true∧(Lit.int .i64 x.fp).wf=true∧(Lit.int .i64 x.tp).wf=true∧(Lit.int .i64 x.wt).wf=true∧(Lit.int .i64 x.ln).wf=true
theorem edAt.keep {w1 w2:World}{A:Addr}{x:Ed}(h:edAt w1 A x)(hb:Below w1.heap.size w1 w2):edAt w2 A x:=by
 obtain ⟨h0,h1,h2,h3,h4,h5,h6,h7⟩:=h
 exact ⟨cell_later' hb h0,cell_later' hb h1,cell_later' hb h2,cell_later' hb h3,cell_later' hb h4,cell_later' hb h5,cell_later' hb h6,h7⟩
abbrev Eds:=Rw 7 edAt
theorem Eds.keep {w1 w2:World}{v:Value}{l:List Ed}(h:Eds w1 v l)(hb:Below w1.heap.size w1 w2):Eds w2 v l:=Rw.keep (P:=edAt) (fun h hb=>edAt.keep h hb) h hb
abbrev Cls:=Rw 2 ptAt
theorem Cls.keep {w1 w2:World}{v:Value}{l:List Cl}(h:Cls w1 v l)(hb:Below w1.heap.size w1 w2):Cls w2 v l:=Pts.keep h hb
def GrV (w:World)(v:Value)(g:Gr):Prop :=
 ∃ nv ev cv,v=.agg #[.string (bb g.nm),.bool g.dir,nv,ev,cv]∧g.nm.length≤maxLen∧Nds w nv g.ns∧Eds w ev g.es∧Cls w cv g.cs
theorem GrV.keep {w1 w2:World}{v:Value}{g:Gr}(h:GrV w1 v g)(hb:Below w1.heap.size w1 w2):GrV w2 v g:=by
 obtain ⟨nv,ev,cv,rfl,hm,h1,h2,h3⟩:=h;exact ⟨nv,ev,cv,rfl,hm,h1.keep hb,h2.keep hb,h3.keep hb⟩
instance:Inhabited Nd:=⟨⟨[],[],0,0,0,[]⟩⟩
instance:Inhabited Ed:=⟨⟨0,0,0,0,[],0,0⟩⟩
section
variable {H:Type} {enc:TypeId × Value→H} {w:World} {base:Nat} {spare:Nat→Bool} {held:Bool}
theorem trod_fields {t:TypeId}{fs:Array Field}{fuel:Nat}{cs:List Value}{x:DataW H × List MemPlace}(ht:Tryz.prog.underlying t=some (.struct fs))(h:DataW.trod enc Tryz.prog w base spare held fuel t cs=some x) :
    cs.length=Tryz.prog.cellsOf t∧∃ n,∀ (i:Nat) (f:Field),fs[i]?=some f→∃ y,DataW.trod enc Tryz.prog w base spare held n f.type ((cs.drop f.offset).take (Tryz.prog.cellsOf f.type))=some y:=by
 obtain ⟨xs,n,_,rfl,hl,hlen,hf⟩:=DataW.trod_struct ht h
 refine ⟨hl,n,fun i f hi=>?_⟩
 have hil:i < xs.length:=by
  rw [hlen]
  rcases Nat.lt_or_ge i fs.size with h | h
  ·exact h
  ·rw [Array.getElem?_eq_none h] at hi;exact nomatch hi
 exact ⟨xs[i],by have:=hf i f hi;rw [List.getElem?_eq_getElem hil] at this;simpa using this⟩
theorem open_rw {α:Type}[Inhabited α]{c:Nat}{P:World→Addr→α→Prop}{t e:TypeId}{fuel:Nat}{cs:List Value}{x:DataW H × List MemPlace}(ht:Tryz.prog.underlying t=some (.slice e))(hc:Tryz.prog.cellsOf e=c)
    (hel:∀ (A:Addr) (n:Nat) (cs:List Value) (y:DataW H × List MemPlace),cs.length=c→(∀ i,i < c→w.cell? (A.add i)=cs[i]?)→DataW.trod enc Tryz.prog w base spare held n e cs=some y→∃ a,P w A a)
    (h:DataW.trod enc Tryz.prog w base spare held fuel t cs=some x):∃ v l,cs=[v]∧Rw c P w v l:=by
 rcases Deep.open_slice ht h with ⟨rfl,_⟩ | ⟨a,len,cap,m,n,D,Pl,rfl,_,hl,hm,hmm,_,hi⟩
 ·exact ⟨_,[],rfl,Rw.nil c P w⟩
 ·have hlm:len≤m:=by rw [hmm];split <;> omega
  have key:∀ i,i < len→∃ r:α,P w (a.add (i*c)) r:=by
   intro i hil
   obtain ⟨cs',hc',ht'⟩:=hi i (by omega)
   rw [hc] at hc'
   obtain ⟨_,hcl,hat⟩:=World.cells?_some hc'
   exact hel _ _ _ _ hcl hat ht'
  obtain ⟨f,hf⟩:=Deep.choose_lt key
  have hlen:((List.range len).map f).length=len:=by simp
  refine ⟨_,(List.range len).map f,rfl,some a,cap,by rw [hlen],by rw [hlen];exact hl,hm,fun _=>⟨a,rfl,fun i hi'=>?_⟩⟩
  rw [hlen] at hi'
  simpa using hf i hi'
set_option maxRecDepth 100000 in
theorem open_ports {fuel:Nat}{cs:List Value}{x:DataW H × List MemPlace}(h:DataW.trod enc Tryz.prog w base spare held fuel 57 cs=some x):∃ v l,cs=[v]∧Pts w v l:=by
 refine open_rw Tryz.underlying57 (by kernel_rfl) (fun A n cs y hl hat ht=>?_) h
 obtain ⟨_,q,hf⟩:=trod_fields Tryz.underlying192 ht
 obtain ⟨c0,c1,rfl⟩:∃ c0 c1,cs=[c0,c1]:=by
  match cs,hl with
  | [c0,c1],_=>exact ⟨c0,c1,rfl⟩
 have hci:Tryz.prog.cellsOf 3=1:=by kernel_rfl
 have hcs:Tryz.prog.cellsOf 9=1:=by kernel_rfl
 obtain ⟨y0,k0⟩:=hf 0 _ rfl
 obtain ⟨y1,k1⟩:=hf 1 _ rfl
 simp [hci,hcs] at k0 k1
 obtain ⟨x0,e0,_,z0⟩:=DataW.trod_string Tryz.underlying9 k0
 obtain ⟨x1,e1,_,z1⟩:=DataW.trod_int Tryz.underlying3 k1
 simp at e0 e1
 subst e0 e1
 have j0:=hat 0 (by omega)
 have j1:=hat 1 (by omega)
 rw [add_one_of _ 1 (by omega)] at j1
 exact ⟨(x0.data.toList,x1),by show _=some (Value.string (bb x0.data.toList));rw [bb_list];exact j0,j1,by simpa using z0,z1⟩
set_option maxRecDepth 100000 in
theorem open_clusters {fuel:Nat}{cs:List Value}{x:DataW H × List MemPlace}(h:DataW.trod enc Tryz.prog w base spare held fuel 24 cs=some x):∃ v l,cs=[v]∧Cls w v l:=by
 refine open_rw Tryz.underlying24 (by kernel_rfl) (fun A n cs y hl hat ht=>?_) h
 obtain ⟨_,q,hf⟩:=trod_fields Tryz.underlying63 ht
 obtain ⟨c0,c1,rfl⟩:∃ c0 c1,cs=[c0,c1]:=by
  match cs,hl with
  | [c0,c1],_=>exact ⟨c0,c1,rfl⟩
 have hci:Tryz.prog.cellsOf 3=1:=by kernel_rfl
 have hcs:Tryz.prog.cellsOf 9=1:=by kernel_rfl
 obtain ⟨y0,k0⟩:=hf 0 _ rfl
 obtain ⟨y1,k1⟩:=hf 1 _ rfl
 simp [hci,hcs] at k0 k1
 obtain ⟨x0,e0,_,z0⟩:=DataW.trod_string Tryz.underlying9 k0
 obtain ⟨x1,e1,_,z1⟩:=DataW.trod_int Tryz.underlying3 k1
 simp at e0 e1
 subst e0 e1
 have j0:=hat 0 (by omega)
 have j1:=hat 1 (by omega)
 rw [add_one_of _ 1 (by omega)] at j1
 exact ⟨(x0.data.toList,x1),by show _=some (Value.string (bb x0.data.toList));rw [bb_list];exact j0,j1,by simpa using z0,z1⟩
set_option maxRecDepth 100000 in
theorem open_nodes {fuel:Nat}{cs:List Value}{x:DataW H × List MemPlace}(h:DataW.trod enc Tryz.prog w base spare held fuel 22 cs=some x):∃ v l,cs=[v]∧Nds w v l:=by
 refine open_rw Tryz.underlying22 (by kernel_rfl) (fun A n cs y hl hat ht=>?_) h
 obtain ⟨_,q,hf⟩:=trod_fields Tryz.underlying59 ht
 obtain ⟨c0,c1,c2,c3,c4,c5,rfl⟩:∃ c0 c1 c2 c3 c4 c5,cs=[c0,c1,c2,c3,c4,c5]:=by
  match cs,hl with
  | [c0,c1,c2,c3,c4,c5],_=>exact ⟨c0,c1,c2,c3,c4,c5,rfl⟩
 have hci:Tryz.prog.cellsOf 3=1:=by kernel_rfl
 have hcs:Tryz.prog.cellsOf 9=1:=by kernel_rfl
 have hcp:Tryz.prog.cellsOf 57=1:=by kernel_rfl
 obtain ⟨y0,k0⟩:=hf 0 _ rfl
 obtain ⟨y1,k1⟩:=hf 1 _ rfl
 obtain ⟨y2,k2⟩:=hf 2 _ rfl
 obtain ⟨y3,k3⟩:=hf 3 _ rfl
 obtain ⟨y4,k4⟩:=hf 4 _ rfl
 obtain ⟨y5,k5⟩:=hf 5 _ rfl
 simp [hci,hcs,hcp] at k0 k1 k2 k3 k4 k5
 obtain ⟨x0,e0,_,z0⟩:=DataW.trod_string Tryz.underlying9 k0
 obtain ⟨x1,e1,_,z1⟩:=DataW.trod_string Tryz.underlying9 k1
 obtain ⟨x2,e2,_,z2⟩:=DataW.trod_int Tryz.underlying3 k2
 obtain ⟨x3,e3,_,z3⟩:=DataW.trod_int Tryz.underlying3 k3
 obtain ⟨x4,e4,_,z4⟩:=DataW.trod_int Tryz.underlying3 k4
 obtain ⟨pv,ps,e5,hp⟩:=open_ports k5
 simp at e0 e1 e2 e3 e4 e5
 subst e0 e1 e2 e3 e4 e5
 have j0:=hat 0 (by omega)
 have j1:=hat 1 (by omega)
 have j2:=hat 2 (by omega)
 have j3:=hat 3 (by omega)
 have j4:=hat 4 (by omega)
 have j5:=hat 5 (by omega)
 rw [add_one_of _ 1 (by omega)] at j1
 rw [add_one_of _ 2 (by omega)] at j2
 rw [add_one_of _ 3 (by omega)] at j3
 rw [add_one_of _ 4 (by omega)] at j4
 rw [add_one_of _ 5 (by omega)] at j5
 exact ⟨⟨x0.data.toList,x1.data.toList,x2,x3,x4,ps⟩,by show _=some (Value.string (bb x0.data.toList));rw [bb_list];exact j0,by show _=some (Value.string (bb x1.data.toList));rw [bb_list];exact j1,j2,j3,j4,⟨_,j5,hp⟩,by simpa using z0,by simpa using z1,z2,z3,z4⟩
set_option maxRecDepth 100000 in
theorem open_edges {fuel:Nat}{cs:List Value}{x:DataW H × List MemPlace}(h:DataW.trod enc Tryz.prog w base spare held fuel 23 cs=some x):∃ v l,cs=[v]∧Eds w v l:=by
 refine open_rw Tryz.underlying23 (by kernel_rfl) (fun A n cs y hl hat ht=>?_) h
 obtain ⟨_,q,hf⟩:=trod_fields Tryz.underlying61 ht
 obtain ⟨c0,c1,c2,c3,c4,c5,c6,rfl⟩:∃ c0 c1 c2 c3 c4 c5 c6,cs=[c0,c1,c2,c3,c4,c5,c6]:=by
  match cs,hl with
  | [c0,c1,c2,c3,c4,c5,c6],_=>exact ⟨c0,c1,c2,c3,c4,c5,c6,rfl⟩
 have hci:Tryz.prog.cellsOf 3=1:=by kernel_rfl
 have hcs:Tryz.prog.cellsOf 9=1:=by kernel_rfl
 obtain ⟨y0,k0⟩:=hf 0 _ rfl
 obtain ⟨y1,k1⟩:=hf 1 _ rfl
 obtain ⟨y2,k2⟩:=hf 2 _ rfl
 obtain ⟨y3,k3⟩:=hf 3 _ rfl
 obtain ⟨y4,k4⟩:=hf 4 _ rfl
 obtain ⟨y5,k5⟩:=hf 5 _ rfl
 obtain ⟨y6,k6⟩:=hf 6 _ rfl
 simp [hci,hcs] at k0 k1 k2 k3 k4 k5 k6
 obtain ⟨x0,e0,_,z0⟩:=DataW.trod_int Tryz.underlying3 k0
 obtain ⟨x1,e1,_,z1⟩:=DataW.trod_int Tryz.underlying3 k1
 obtain ⟨x2,e2,_,z2⟩:=DataW.trod_int Tryz.underlying3 k2
 obtain ⟨x3,e3,_,z3⟩:=DataW.trod_int Tryz.underlying3 k3
 obtain ⟨x4,e4,_,z4⟩:=DataW.trod_string Tryz.underlying9 k4
 obtain ⟨x5,e5,_,z5⟩:=DataW.trod_int Tryz.underlying3 k5
 obtain ⟨x6,e6,_,z6⟩:=DataW.trod_int Tryz.underlying3 k6
 simp at e0 e1 e2 e3 e4 e5 e6
 subst e0 e1 e2 e3 e4 e5 e6
 have j0:=hat 0 (by omega)
 have j1:=hat 1 (by omega)
 have j2:=hat 2 (by omega)
 have j3:=hat 3 (by omega)
 have j4:=hat 4 (by omega)
 have j5:=hat 5 (by omega)
 have j6:=hat 6 (by omega)
 rw [add_one_of _ 1 (by omega)] at j1
 rw [add_one_of _ 2 (by omega)] at j2
 rw [add_one_of _ 3 (by omega)] at j3
 rw [add_one_of _ 4 (by omega)] at j4
 rw [add_one_of _ 5 (by omega)] at j5
 rw [add_one_of _ 6 (by omega)] at j6
 exact ⟨⟨x0,x1,x2,x3,x4.data.toList,x5,x6⟩,j0,j1,j2,j3,by show _=some (Value.string (bb x4.data.toList));rw [bb_list];exact j4,j5,j6,by simpa using z4,z0,z1,z2,z3,z5,z6⟩
set_option maxRecDepth 100000 in
theorem open_graph {r:Reach}{b0:Nat}{v:Value}{d:DataW H}{p:List MemPlace}(hv:Value.okWide Tryz.prog w r b0 26 v)(h:DataW.Trod enc Tryz.prog w base spare held 26 v d p):∃ g,GrV w v g:=by
 obtain ⟨cs,rfl,hsz⟩:=okWide_struct Tryz.underlying26 hv
 obtain ⟨fuel,hf⟩:=h
 obtain ⟨_,q,hk⟩:=trod_fields Tryz.underlying26 hf
 have hc5:Tryz.prog.cellsOf 26=5:=by kernel_rfl
 obtain ⟨c0,c1,c2,c3,c4,rfl⟩:∃ c0 c1 c2 c3 c4,cs=#[c0,c1,c2,c3,c4]:=by
  have hl:cs.toList.length=5:=by simpa using hsz.trans hc5
  match h:cs.toList,hl with
  | [c0,c1,c2,c3,c4],_=>exact ⟨c0,c1,c2,c3,c4,by rw [← Array.toArray_toList (xs:=cs),h]⟩
 have hcb:Tryz.prog.cellsOf 4=1:=by kernel_rfl
 have hcs:Tryz.prog.cellsOf 9=1:=by kernel_rfl
 have hcn:Tryz.prog.cellsOf 22=1:=by kernel_rfl
 have hce:Tryz.prog.cellsOf 23=1:=by kernel_rfl
 have hcc:Tryz.prog.cellsOf 24=1:=by kernel_rfl
 obtain ⟨y0,k0⟩:=hk 0 _ rfl
 obtain ⟨y1,k1⟩:=hk 1 _ rfl
 obtain ⟨y2,k2⟩:=hk 2 _ rfl
 obtain ⟨y3,k3⟩:=hk 3 _ rfl
 obtain ⟨y4,k4⟩:=hk 4 _ rfl
 simp [Value.cells,hcb,hcs,hcn,hce,hcc] at k0 k1 k2 k3 k4
 obtain ⟨x0,e0,_,z0⟩:=DataW.trod_string Tryz.underlying9 k0
 obtain ⟨x1,e1,_⟩:=DataW.trod_bool Tryz.underlying4 k1
 obtain ⟨nv,ns,e2,hn⟩:=open_nodes k2
 obtain ⟨ev,es,e3,he⟩:=open_edges k3
 obtain ⟨cv,cls,e4,hc⟩:=open_clusters k4
 simp at e0 e1 e2 e3 e4
 subst e0 e1 e2 e3 e4
 exact ⟨⟨x0.data.toList,x1,ns,es,cls⟩,_,_,_,by show _=Value.agg #[.string (bb x0.data.toList),_,_,_,_];rw [bb_list],by show x0.data.toList.length≤maxLen;simpa using z0,hn,he,hc⟩
end
end Go.Proofs.YtgmidodmmlmmeaaGreatDoor.gra
namespace Go.Proofs.YtgmidodmmlmmeaaGreatDoor.gra
open Go.RowKit lex
theorem Rw.get {α:Type}{c:Nat}{P:World→Addr→α→Prop}{w:World}{ao:Option Addr}{n cap:Nat}{l:List α}(h:Rw c P w (.slice ao n cap) l){k:Nat}(hk:k < l.length):∃ A,ao=some A∧P w (A.add (k*c)) l[k]:=by
 obtain ⟨ao',cap',e,_,_,hA⟩:=h
 cases e
 obtain ⟨A,rfl,h2⟩:=hA (by omega)
 exact ⟨A,rfl,h2 k hk⟩
theorem drew_n (w:World):∀ n,Below w.heap.size w (w.drewN n)
 | 0=>Below.refl _ _
 | n+1=>(drew_n w n).drew
def inAt (w:World)(A:Addr)(n:Int):Prop:=w.cell? A=some (.int .i64 n)
theorem inAt.keep {w1 w2:World}{A:Addr}{n:Int}(h:inAt w1 A n)(hb:Below w1.heap.size w1 w2):inAt w2 A n:=cell_later' hb h
abbrev Ins:=Rw 1 inAt
theorem Ins.keep {w1 w2:World}{v:Value}{l:List Int}(h:Ins w1 v l)(hb:Below w1.heap.size w1 w2):Ins w2 v l:=Rw.keep (P:=inAt) (fun h hb=>inAt.keep h hb) h hb
def gat (w:World)(b:Nat)(x:ByteArray)(d:Bool)(nv ev cv:Value):Prop:=w.cell? ⟨b,0,none⟩=some (.string x)∧w.cell? ⟨b,1,none⟩=some (.bool d)∧w.cell? ⟨b,2,none⟩=some nv∧w.cell? ⟨b,3,none⟩=some ev∧w.cell? ⟨b,4,none⟩=some cv
theorem gat_new (w:World)(x:ByteArray)(d:Bool)(nv ev cv:Value)(t:TypeId):gat (w.alloc (.cells #[.string x,.bool d,nv,ev,cv] t)) w.heap.size x d nv ev cv:=by
 refine ⟨?_,?_,?_,?_,?_⟩ <;> go_simp
theorem gat_keep {w1 w2:World}{b:Nat}{x:ByteArray}{d:Bool}{nv ev cv:Value}(h:gat w1 b x d nv ev cv)(h2:Below w1.heap.size w1 w2):gat w2 b x d nv ev cv :=
 ⟨cell_keep h2 h.1,cell_keep h2 h.2.1,cell_keep h2 h.2.2.1,cell_keep h2 h.2.2.2.1,cell_keep h2 h.2.2.2.2⟩
theorem wf_next {cs:List Cl}{i:Nat}(hi:i < cs.length)(h:Wf (cs.take i))(h1:-1≤cs[i].2)(h2:cs[i].2 < (i:Int)):Wf (cs.take (i+1)):=by
 intro j x hx
 rw [List.getElem?_take] at hx
 split at hx
 ·rename_i hj
  by_cases he:j=i
  ·subst he
   rw [List.getElem?_eq_getElem hi] at hx
   cases hx
   exact ⟨h1,h2⟩
  ·exact h j x (by rw [List.getElem?_take,if_pos (by omega)];exact hx)
 ·exact nomatch hx
theorem add_at (b o j:Nat):(⟨b,o,none⟩:Addr).add j=⟨b,o+j,none⟩:=by
 unfold Addr.add;split
 ·subst_vars;rfl
 ·rfl
def blk (W:World)(g:Nat)(t:TypeId)(arr:Array Value):Prop:=W.heap[g]?=some (.cells arr t (0,0))
theorem blk_cell {W:World}{g o:Nat}{t:TypeId}{arr:Array Value}(h:blk W g t arr):W.cell? ⟨g,o,none⟩=arr[o]?:=by
 unfold blk at h;simp [World.cell?,h]
theorem blk_new (w:World)(c:Array Value)(t:TypeId):blk (w.alloc (.cells c t)) w.heap.size t c:=heap_alloc_new w _
theorem flat_len {X:Type}(f:X→List Value)(k:Nat)(hk:∀ x,(f x).length=k)(l:List X):(l.flatMap f).length=l.length*k:=by
 induction l with
 | nil=>simp
 | cons x t ih=>rw [List.flatMap_cons,List.length_append,ih,hk,List.length_cons,Nat.add_mul];omega
theorem flat_get {X:Type}(f:X→List Value)(k:Nat)(hk:∀ x,(f x).length=k):∀ (l:List X) (i j:Nat) (h:i < l.length),j < k→(l.flatMap f)[i*k+j]?=(f l[i])[j]?:=by
 intro l
 induction l with
 | nil=>intro i j h;simp at h
 | cons x t ih =>
  intro i j h hj
  rw [List.flatMap_cons]
  cases i with
  | zero=>rw [Nat.zero_mul,Nat.zero_add,List.getElem?_append_left (by rw [hk];exact hj)];rfl
  | succ i =>
   rw [List.getElem?_append_right (by rw [hk,Nat.add_mul];omega),hk,show (i+1)*k+j - k=i*k+j by rw [Nat.add_mul];omega]
   exact ih i j (by simpa using h) hj
theorem own_blk {w:World}{B s n:Nat}{t:TypeId}{v:Value}{xs:List Value}(h:w.ownsRow B t s v n xs)(hn:0 < n):∃ g cap arr,v=.slice (some ⟨g,0,none⟩) n cap∧B≤g∧blk w g t arr∧n≤cap∧cap≤maxLen∧∀ j,j < n*s→arr[j]?=xs[j]?:=by
 rcases h.2 with ⟨_,rfl⟩ | ⟨g,cap,cur,rfl,hB,hk,h1,h2,h3,h4⟩
 ·omega
 ·refine ⟨g,cap,cur,rfl,hB,hk,h1,h2,fun j hj=>?_⟩
  rw [← h4,List.getElem?_take_of_lt hj,Array.getElem?_toList]
theorem own_form {w:World}{B s n:Nat}{t:TypeId}{v:Value}{xs:List Value}(h:w.ownsRow B t s v n xs):∃ ao cap,v=.slice ao n cap∧n≤cap∧cap≤maxLen:=by
 rcases h.2 with ⟨rfl,rfl⟩ | ⟨g,cap,cur,rfl,_,_,h1,h2,_⟩
 ·exact ⟨_,0,rfl,Nat.le_refl _,by decide⟩
 ·exact ⟨_,cap,rfl,h1,h2⟩
theorem own_nil (w:World)(B:Nat)(t:TypeId)(s:Nat):w.ownsRow B t s (.slice none 0 0) 0 []:=⟨by simp,.inl ⟨rfl,rfl⟩⟩
theorem own_rw {α:Type}{c:Nat}{P:World→Addr→α→Prop}{f:α→List Value}(hf:∀ x,(f x).length=c){w:World}(hP:∀ (b o:Nat) (x:α),(∀ j,j < c→w.cell? ⟨b,o+j,none⟩=(f x)[j]?)→P w ⟨b,o,none⟩ x)
    {B:Nat} {t:TypeId} {v:Value} {l:List α} (h:w.ownsRow B t c v l.length (l.flatMap f)):Rw c P w v l:=by
 by_cases h0:l.length=0
 ·obtain ⟨ao,cap,rfl,h1,h2⟩:=own_form h
  exact ⟨ao,cap,rfl,h1,h2,fun hn=>by omega⟩
 ·obtain ⟨g,cap,arr,rfl,hB',hk,h1,h2,h3⟩:=own_blk h (by omega)
  refine ⟨_,cap,rfl,h1,h2,fun _=>⟨_,rfl,fun i hi=>?_⟩⟩
  rw [add_at,Nat.zero_add]
  refine hP _ _ _ fun j hj=>?_
  have hlt:i*c+j < l.length*c:=by
   have:(i+1)*c≤l.length*c:=Nat.mul_le_mul_right c hi
   rw [Nat.add_mul] at this
   omega
  rw [blk_cell hk,h3 _ hlt,flat_get f c hf l i j hi hj]
def inC (n:Int):List Value:=[.int .i64 n]
def Irow (w:World)(B:Nat)(v:Value)(l:List Int):Prop:=w.ownsRow B 3 1 v l.length (l.flatMap inC)
theorem Irow.ins {w:World}{B:Nat}{v:Value}{l:List Int}(h:Irow w B v l):Ins w v l :=
 own_rw (f:=inC) (fun _=>rfl) (fun b o x hx=>by have:=hx 0 (by decide);exact this) h
theorem info_cin:(Tryz.prog.info? 3).map (fun i=>(i.zero,i.size,i.bytes))=some (some (.int .i64 0),1,8):=by kernel_rfl
theorem info_of_cin:∃ i,Tryz.prog.info? 3=some i∧i.zero=some (.int .i64 0)∧i.size=1∧i.bytes=8:=by
 have h:=info_cin
 cases hq:Tryz.prog.info? 3 with
 | none=>rw [hq] at h;cases h
 | some i =>
  rw [hq] at h
  simp only [Option.map_some,Option.some.injEq,Prod.mk.injEq] at h
  exact ⟨i,rfl,h.1,h.2.1,h.2.2⟩
theorem app_in {w:World}{ops:Array Oper}{rest:List Oper}{o:Oper}{a:Act}{Q:Exit→Act→World→Prop}(hg:o.guard=none)(p y:Operand)(ho:o.op=.call { callee:=.builtin .append,args:=#[p,y],argTypes:=#[53,53] })
    (B:Nat) (v:Value) (l:List Int) (x:Int) (H:Nat) (hH:w.heap.size=H) (hs:a.eval p=v) (hx:a.eval y=.slice (some ⟨H,0,none⟩) 1 1) (h:Hid (Irow w B v l)) (hl:l.length≤1000000) (hB:B≤w.heap.size)
    (hK:∀ ao cap w',Irow w' B (.slice ao (l.length+1) cap) (l ++ [x])→w.grownBy w' v.ownBlock→wpList Tryz.prog ops Q rest (a.put o.dst (.slice ao (l.length+1) cap)) w'):wpList Tryz.prog ops Q (o :: rest) a (w.alloc (.cells #[.int .i64 x] 3)):=by
 subst hH
 obtain ⟨i0,hi,hz0,hz1,hz2⟩:=info_of_cin
 refine wpList_append_own _ hg p y 53 ho B 3 i0 _ 1 8 Tryz.underlying53 hi hz0 hz1 hz2 rfl (by decide) v l.length _ hs (World.ownsRow.alloc h.out _) ⟨w.heap.size,0,none⟩ 1 1 [.int .i64 x] hx rfl ?_ (by simp [Value.oneCell']) (by unfold maxLen;omega) (by omega) (by simp;omega) ?_
 ·intro j u hj
  rw [add_at,Nat.zero_add,blk_cell (blk_new w #[.int .i64 x] 3),← hj]
  simp
 ·intro v' w' hown hgrow _
  obtain ⟨ao,cap,rfl,_,_⟩:=own_form hown
  refine hK ao cap w' ?_ ?_
  ·unfold Irow;rw [List.length_append,List.flatMap_append];exact hown
  ·refine ⟨hgrow.os,hgrow.tape,hgrow.output,Nat.le_trans (by simp) hgrow.size,fun k hk hne=>?_⟩
   rw [hgrow.block k (by simp;omega) hne,heap_alloc_old w _ hk]
end Go.Proofs.YtgmidodmmlmmeaaGreatDoor.gra
