/-
  What block of the reference of layer 13 does: it writes the statements of a block, and the writer counts on. Conditions: a valid graph, the writer's box in memory.
  What options of the reference of layer 13 returns: the statements of the options that need one. Condition: valid options.
-/
import Derived.Test.YtgmidodmmlmmeaaGreatDoorXptEdg
namespace Go.Proofs.YtgmidodmmlmmeaaGreatDoor.xpt
open Go.RowKit Go.Sort lex tre att nor
theorem Wt.next {w0 w V:World}{R:Nat}{g:gra.Gr}{n k:Nat}(h:Wt w0 w R g n k)(hb:Below w0.heap.size w V)(hk:V.heap[R]?=w.heap[R]?):Wt w0 V R g n k:=by
 obtain ⟨no,nc,eo,ec,co,cc,h1,h2,h3,h4⟩:=h
 exact ⟨no,nc,eo,ec,co,cc,h1,h2.trans hb,h3,by unfold xpt.blk at h4 ⊢;rw [hk];exact h4⟩
theorem Wt.base {w0 w:World}{R:Nat}{g:gra.Gr}{n k:Nat}(h:Wt w0 w R g n k):Below w0.heap.size w0 w:=by
 obtain ⟨no,nc,eo,ec,co,cc,h1,h2,h3,h4⟩:=h;exact h2
theorem Wt.box7 {w0 w:World}{R:Nat}{g:gra.Gr}{n k:Nat}(h:Wt w0 w R g n k):∃ a b c d e,blk w R 80 #[a,b,c,d,e,.int .i64 n,.int .i64 k]:=by
 obtain ⟨no,nc,eo,ec,co,cc,h1,h2,h3,h4⟩:=h;exact ⟨_,_,_,_,_,h4⟩
theorem Wt.lt {w0 w:World}{R:Nat}{g:gra.Gr}{n k:Nat}(h:Wt w0 w R g n k):w0.heap.size≤R∧R < w.heap.size:=by
 obtain ⟨no,nc,eo,ec,co,cc,h1,h2,h3,h4⟩:=h
 exact ⟨h3,blk_lt h4⟩
theorem Wt.setN {w0 w:World}{R:Nat}{g:gra.Gr}{n k:Nat}(h:Wt w0 w R g n k):Wt w0 (w.setCell ⟨R,5,none⟩ (.int .i64 ((n:Int)+1))) R g (n+1) k:=by
 obtain ⟨no,nc,eo,ec,co,cc,h1,h2,h3,h4⟩:=h
 exact ⟨no,nc,eo,ec,co,cc,h1,h2.setCell h3 _,h3,blk_set h4 _⟩
theorem Wt.setK {w0 w:World}{R:Nat}{g:gra.Gr}{n k:Nat}(h:Wt w0 w R g n k):Wt w0 (w.setCell ⟨R,6,none⟩ (.int .i64 ((k:Int)+1))) R g n (k+1):=by
 obtain ⟨no,nc,eo,ec,co,cc,h1,h2,h3,h4⟩:=h
 exact ⟨no,nc,eo,ec,co,cc,h1,h2.setCell h3 _,h3,blk_set h4 _⟩
def BlkO (w0:World)(R:Nat)(g:gra.Gr)(r:List St × Nat × Nat)(w:World)(e:Ending)(w':World):Prop :=
 ∃ v D,e=.returned v∧RS w.heap.size w' v D∧D.map Sv.s=r.1∧Wt w0 w' R g r.2.1 r.2.2∧Pk R w w'
structure BI (w0 w:World)(R:Nat)(g:gra.Gr)(v:Value)(D:List Sv)(n k:Nat)(W:World):Prop where
 wt:Wt w0 W R g n k
 rs:RS w.heap.size W v D
 pk:Pk R w W
theorem BI.below {w0 w W W':World}{R:Nat}{g:gra.Gr}{v:Value}{D:List Sv}{n k:Nat}(h:BI w0 w R g v D n k W)(hb:Below W.heap.size W W'):BI w0 w R g v D n k W' :=
 ⟨h.wt.below hb,h.rs.below hb,h.pk.trans (Pk.below hb)⟩
theorem blk_cells {w0 W:World}{R:Nat}{g:gra.Gr}{n k:Nat}(h:Wt w0 W R g n k):∃ no nc co cc,W.cell? ⟨R,2,none⟩=some (.slice no g.ns.length nc)∧W.cell? ⟨R,4,none⟩=some (.slice co g.cs.length cc)∧W.cell? ⟨R,5,none⟩=some (.int .i64 n)∧W.cell? ⟨R,6,none⟩=some (.int .i64 k)∧W.frozen? ⟨R,5,none⟩=false∧W.frozen? ⟨R,6,none⟩=false∧gra.Nds W (.slice no g.ns.length nc) g.ns∧gra.Cls W (.slice co g.cs.length cc) g.cs:=by
 obtain ⟨no,nc,eo,ec,co,cc,h1,h2,h3,h4⟩:=h
 obtain ⟨nv,ev,cv,e,-,q1,-,q3⟩:=h1
 cases e
 exact ⟨no,nc,co,cc,by rw [blk_cell h4];rfl,by rw [blk_cell h4];rfl,by rw [blk_cell h4];rfl,by rw [blk_cell h4];rfl,blk_free h4,blk_free h4,q1.keep h2,q3.keep h2⟩
theorem cls_c {w:World}{co:Option Addr}{cc:Nat}{l:List gra.Cl}(h:gra.Cls w (.slice co l.length cc) l){i:Nat}(hi:i < l.length):∃ A,co=some A∧w.cell? (A.add (i*2))=some (.string (bb l[i].1))∧w.cell? ⟨(A.add (i*2)).block,(A.add (i*2)).off+1,none⟩=some (.int .i64 l[i].2)∧l[i].1.length≤maxLen:=by
 obtain ⟨_,_,e,-,-,h2⟩:=h
 cases e
 obtain ⟨A,rfl,h3⟩:=h2 (by omega)
 obtain ⟨q0,q1,q2,-⟩:=h3 i hi
 exact ⟨A,rfl,q0,q1,q2⟩
theorem wt_node {w0 W:World}{R:Nat}{g:gra.Gr}{n k i:Nat}(h:Wt w0 W R g n k)(hi:i < g.ns.length):∃ A nc po pc,W.cell? ⟨R,2,none⟩=some (.slice (some A) g.ns.length nc)∧ndC w0 (A.add (i*6)) g.ns[i] po pc∧gra.Pts w0 (.slice po g.ns[i].ps.length pc) g.ns[i].ps∧g.ns[i].nm.length≤maxLen∧Below w0.heap.size w0 W:=by
 obtain ⟨no,nc,eo,ec,co,cc,h1,h2,h3,h4⟩:=h
 obtain ⟨nv,ev,cv,e,-,q1,-,q3⟩:=h1
 cases e
 obtain ⟨A,rfl,po,pc,q4,q5,q6⟩:=nds_c q1 hi
 exact ⟨A,nc,po,pc,by rw [blk_cell h4];rfl,q4,q5,q6,h2⟩
def cellN (W:World)(R o:Nat):Nat:=match W.cell? ⟨R,o,none⟩ with
 | some (.int _ i)=>i.toNat
 | _=>0
theorem Wt.count {w0 W:World}{R:Nat}{g:gra.Gr}{n k:Nat}(h:Wt w0 W R g n k):cellN W R 5=n∧cellN W R 6=k:=by
 obtain ⟨_,_,_,_,-,-,h5,h6,-⟩:=blk_cells h
 unfold cellN
 rw [h5,h6]
 exact ⟨Int.toNat_natCast n,Int.toNat_natCast k⟩
def A2 (a:Act)(R:Nat)(c:Int)(v e8:Value)(b:Bool):Prop:=a=⟨#[.pointer (some ⟨R,0,none⟩),.int .i64 c,undef,undef,a.tmps.getD 4 undef,v,a.tmps.getD 6 undef,a.tmps.getD 7 undef,e8,a.tmps.getD 9 undef,a.tmps.getD 10 undef,a.tmps.getD 11 undef,a.tmps.getD 12 undef,a.tmps.getD 13 undef,a.tmps.getD 14 undef,a.tmps.getD 15 undef,a.tmps.getD 16 undef,a.tmps.getD 17 undef,a.tmps.getD 18 undef,a.tmps.getD 19 undef,a.tmps.getD 20 undef,a.tmps.getD 21 undef,a.tmps.getD 22 undef,a.tmps.getD 23 undef,a.tmps.getD 24 undef,a.tmps.getD 25 undef,a.tmps.getD 26 undef,a.tmps.getD 27 undef,a.tmps.getD 28 undef,a.tmps.getD 29 undef,a.tmps.getD 30 undef,a.tmps.getD 31 undef,.bool b,a.tmps.getD 33 undef,a.tmps.getD 34 undef,a.tmps.getD 35 undef,a.tmps.getD 36 undef,a.tmps.getD 37 undef,a.tmps.getD 38 undef,a.tmps.getD 39 undef,a.tmps.getD 40 undef,a.tmps.getD 41 undef,a.tmps.getD 42 undef,a.tmps.getD 43 undef,a.tmps.getD 44 undef,a.tmps.getD 45 undef,a.tmps.getD 46 undef,a.tmps.getD 47 undef,a.tmps.getD 48 undef,a.tmps.getD 49 undef,a.tmps.getD 50 undef,a.tmps.getD 51 undef,a.tmps.getD 52 undef,a.tmps.getD 53 undef,a.tmps.getD 54 undef,a.tmps.getD 55 undef,a.tmps.getD 56 undef,a.tmps.getD 57 undef,a.tmps.getD 58 undef,a.tmps.getD 59 undef,a.tmps.getD 60 undef,a.tmps.getD 61 undef,a.tmps.getD 62 undef,a.tmps.getD 63 undef,a.tmps.getD 64 undef,a.tmps.getD 65 undef,a.tmps.getD 66 undef,a.tmps.getD 67 undef,a.tmps.getD 68 undef,a.tmps.getD 69 undef,a.tmps.getD 70 undef,a.tmps.getD 71 undef,a.tmps.getD 72 undef,a.tmps.getD 73 undef,a.tmps.getD 74 undef,a.tmps.getD 75 undef,a.tmps.getD 76 undef,a.tmps.getD 77 undef,a.tmps.getD 78 undef,a.tmps.getD 79 undef,a.tmps.getD 80 undef,a.tmps.getD 81 undef,a.tmps.getD 82 undef,a.tmps.getD 83 undef,a.tmps.getD 84 undef,a.tmps.getD 85 undef,a.tmps.getD 86 undef,a.tmps.getD 87 undef,a.tmps.getD 88 undef,a.tmps.getD 89 undef,a.tmps.getD 90 undef,a.tmps.getD 91 undef,a.tmps.getD 92 undef,a.tmps.getD 93 undef,a.tmps.getD 94 undef,a.tmps.getD 95 undef,a.tmps.getD 96 undef,a.tmps.getD 97 undef,a.tmps.getD 98 undef,a.tmps.getD 99 undef,a.tmps.getD 100 undef,a.tmps.getD 101 undef,a.tmps.getD 102 undef,a.tmps.getD 103 undef,a.tmps.getD 104 undef,a.tmps.getD 105 undef,a.tmps.getD 106 undef,a.tmps.getD 107 undef,a.tmps.getD 108 undef,a.tmps.getD 109 undef,a.tmps.getD 110 undef,a.tmps.getD 111 undef,a.tmps.getD 112 undef,a.tmps.getD 113 undef,a.tmps.getD 114 undef,a.tmps.getD 115 undef,a.tmps.getD 116 undef,a.tmps.getD 117 undef,a.tmps.getD 118 undef,a.tmps.getD 119 undef,a.tmps.getD 120 undef,a.tmps.getD 121 undef,a.tmps.getD 122 undef,a.tmps.getD 123 undef,a.tmps.getD 124 undef,a.tmps.getD 125 undef,a.tmps.getD 126 undef,a.tmps.getD 127 undef,a.tmps.getD 128 undef,a.tmps.getD 129 undef,a.tmps.getD 130 undef,a.tmps.getD 131 undef,a.tmps.getD 132 undef,a.tmps.getD 133 undef,a.tmps.getD 134 undef,a.tmps.getD 135 undef,a.tmps.getD 136 undef,a.tmps.getD 137 undef,a.tmps.getD 138 undef,a.tmps.getD 139 undef,a.tmps.getD 140 undef,a.tmps.getD 141 undef,a.tmps.getD 142 undef,a.tmps.getD 143 undef,a.tmps.getD 144 undef,undef],[]⟩
theorem A2.use {a:Act}{R:Nat}{c:Int}{v e8:Value}{b:Bool}(h:A2 a R c v e8 b):∃ f:Nat→Value,a=⟨#[.pointer (some ⟨R,0,none⟩),.int .i64 c,undef,undef,f 4,v,f 6,f 7,e8,f 9,f 10,f 11,f 12,f 13,f 14,f 15,f 16,f 17,f 18,f 19,f 20,f 21,f 22,f 23,f 24,f 25,f 26,f 27,f 28,f 29,f 30,f 31,.bool b,f 33,f 34,f 35,f 36,f 37,f 38,f 39,f 40,f 41,f 42,f 43,f 44,f 45,f 46,f 47,f 48,f 49,f 50,f 51,f 52,f 53,f 54,f 55,f 56,f 57,f 58,f 59,f 60,f 61,f 62,f 63,f 64,f 65,f 66,f 67,f 68,f 69,f 70,f 71,f 72,f 73,f 74,f 75,f 76,f 77,f 78,f 79,f 80,f 81,f 82,f 83,f 84,f 85,f 86,f 87,f 88,f 89,f 90,f 91,f 92,f 93,f 94,f 95,f 96,f 97,f 98,f 99,f 100,f 101,f 102,f 103,f 104,f 105,f 106,f 107,f 108,f 109,f 110,f 111,f 112,f 113,f 114,f 115,f 116,f 117,f 118,f 119,f 120,f 121,f 122,f 123,f 124,f 125,f 126,f 127,f 128,f 129,f 130,f 131,f 132,f 133,f 134,f 135,f 136,f 137,f 138,f 139,f 140,f 141,f 142,f 143,f 144,undef],[]⟩:=⟨fun i=>a.tmps.getD i undef,h⟩
def A3 (a:Act)(R:Nat)(c:Int)(v e8:Value)(b:Bool):Prop:=a=⟨#[.pointer (some ⟨R,0,none⟩),.int .i64 c,undef,undef,a.tmps.getD 4 undef,v,a.tmps.getD 6 undef,a.tmps.getD 7 undef,e8,a.tmps.getD 9 undef,a.tmps.getD 10 undef,a.tmps.getD 11 undef,a.tmps.getD 12 undef,a.tmps.getD 13 undef,a.tmps.getD 14 undef,a.tmps.getD 15 undef,a.tmps.getD 16 undef,a.tmps.getD 17 undef,a.tmps.getD 18 undef,a.tmps.getD 19 undef,a.tmps.getD 20 undef,a.tmps.getD 21 undef,a.tmps.getD 22 undef,a.tmps.getD 23 undef,a.tmps.getD 24 undef,a.tmps.getD 25 undef,a.tmps.getD 26 undef,a.tmps.getD 27 undef,a.tmps.getD 28 undef,a.tmps.getD 29 undef,a.tmps.getD 30 undef,a.tmps.getD 31 undef,a.tmps.getD 32 undef,a.tmps.getD 33 undef,a.tmps.getD 34 undef,a.tmps.getD 35 undef,a.tmps.getD 36 undef,a.tmps.getD 37 undef,a.tmps.getD 38 undef,a.tmps.getD 39 undef,a.tmps.getD 40 undef,a.tmps.getD 41 undef,a.tmps.getD 42 undef,a.tmps.getD 43 undef,a.tmps.getD 44 undef,a.tmps.getD 45 undef,a.tmps.getD 46 undef,a.tmps.getD 47 undef,a.tmps.getD 48 undef,a.tmps.getD 49 undef,a.tmps.getD 50 undef,a.tmps.getD 51 undef,a.tmps.getD 52 undef,a.tmps.getD 53 undef,a.tmps.getD 54 undef,a.tmps.getD 55 undef,a.tmps.getD 56 undef,a.tmps.getD 57 undef,a.tmps.getD 58 undef,a.tmps.getD 59 undef,a.tmps.getD 60 undef,a.tmps.getD 61 undef,a.tmps.getD 62 undef,a.tmps.getD 63 undef,a.tmps.getD 64 undef,a.tmps.getD 65 undef,a.tmps.getD 66 undef,.bool b,a.tmps.getD 68 undef,a.tmps.getD 69 undef,a.tmps.getD 70 undef,a.tmps.getD 71 undef,a.tmps.getD 72 undef,a.tmps.getD 73 undef,a.tmps.getD 74 undef,a.tmps.getD 75 undef,a.tmps.getD 76 undef,a.tmps.getD 77 undef,a.tmps.getD 78 undef,a.tmps.getD 79 undef,a.tmps.getD 80 undef,a.tmps.getD 81 undef,a.tmps.getD 82 undef,a.tmps.getD 83 undef,a.tmps.getD 84 undef,a.tmps.getD 85 undef,a.tmps.getD 86 undef,a.tmps.getD 87 undef,a.tmps.getD 88 undef,a.tmps.getD 89 undef,a.tmps.getD 90 undef,a.tmps.getD 91 undef,a.tmps.getD 92 undef,a.tmps.getD 93 undef,a.tmps.getD 94 undef,a.tmps.getD 95 undef,a.tmps.getD 96 undef,a.tmps.getD 97 undef,a.tmps.getD 98 undef,a.tmps.getD 99 undef,a.tmps.getD 100 undef,a.tmps.getD 101 undef,a.tmps.getD 102 undef,a.tmps.getD 103 undef,a.tmps.getD 104 undef,a.tmps.getD 105 undef,a.tmps.getD 106 undef,a.tmps.getD 107 undef,a.tmps.getD 108 undef,a.tmps.getD 109 undef,a.tmps.getD 110 undef,a.tmps.getD 111 undef,a.tmps.getD 112 undef,a.tmps.getD 113 undef,a.tmps.getD 114 undef,a.tmps.getD 115 undef,a.tmps.getD 116 undef,a.tmps.getD 117 undef,a.tmps.getD 118 undef,a.tmps.getD 119 undef,a.tmps.getD 120 undef,a.tmps.getD 121 undef,a.tmps.getD 122 undef,a.tmps.getD 123 undef,a.tmps.getD 124 undef,a.tmps.getD 125 undef,a.tmps.getD 126 undef,a.tmps.getD 127 undef,a.tmps.getD 128 undef,a.tmps.getD 129 undef,a.tmps.getD 130 undef,a.tmps.getD 131 undef,a.tmps.getD 132 undef,a.tmps.getD 133 undef,a.tmps.getD 134 undef,a.tmps.getD 135 undef,a.tmps.getD 136 undef,a.tmps.getD 137 undef,a.tmps.getD 138 undef,a.tmps.getD 139 undef,a.tmps.getD 140 undef,a.tmps.getD 141 undef,a.tmps.getD 142 undef,a.tmps.getD 143 undef,a.tmps.getD 144 undef,undef],[]⟩
theorem A3.use {a:Act}{R:Nat}{c:Int}{v e8:Value}{b:Bool}(h:A3 a R c v e8 b):∃ f:Nat→Value,a=⟨#[.pointer (some ⟨R,0,none⟩),.int .i64 c,undef,undef,f 4,v,f 6,f 7,e8,f 9,f 10,f 11,f 12,f 13,f 14,f 15,f 16,f 17,f 18,f 19,f 20,f 21,f 22,f 23,f 24,f 25,f 26,f 27,f 28,f 29,f 30,f 31,f 32,f 33,f 34,f 35,f 36,f 37,f 38,f 39,f 40,f 41,f 42,f 43,f 44,f 45,f 46,f 47,f 48,f 49,f 50,f 51,f 52,f 53,f 54,f 55,f 56,f 57,f 58,f 59,f 60,f 61,f 62,f 63,f 64,f 65,f 66,.bool b,f 68,f 69,f 70,f 71,f 72,f 73,f 74,f 75,f 76,f 77,f 78,f 79,f 80,f 81,f 82,f 83,f 84,f 85,f 86,f 87,f 88,f 89,f 90,f 91,f 92,f 93,f 94,f 95,f 96,f 97,f 98,f 99,f 100,f 101,f 102,f 103,f 104,f 105,f 106,f 107,f 108,f 109,f 110,f 111,f 112,f 113,f 114,f 115,f 116,f 117,f 118,f 119,f 120,f 121,f 122,f 123,f 124,f 125,f 126,f 127,f 128,f 129,f 130,f 131,f 132,f 133,f 134,f 135,f 136,f 137,f 138,f 139,f 140,f 141,f 142,f 143,f 144,undef],[]⟩:=⟨fun i=>a.tmps.getD i undef,h⟩
def A8 (a:Act)(R:Nat)(c:Int)(v e8:Value)(b:Bool):Prop:=a=⟨#[.pointer (some ⟨R,0,none⟩),.int .i64 c,undef,undef,a.tmps.getD 4 undef,v,a.tmps.getD 6 undef,a.tmps.getD 7 undef,e8,a.tmps.getD 9 undef,a.tmps.getD 10 undef,a.tmps.getD 11 undef,a.tmps.getD 12 undef,a.tmps.getD 13 undef,a.tmps.getD 14 undef,a.tmps.getD 15 undef,a.tmps.getD 16 undef,a.tmps.getD 17 undef,a.tmps.getD 18 undef,a.tmps.getD 19 undef,a.tmps.getD 20 undef,a.tmps.getD 21 undef,a.tmps.getD 22 undef,a.tmps.getD 23 undef,a.tmps.getD 24 undef,a.tmps.getD 25 undef,a.tmps.getD 26 undef,a.tmps.getD 27 undef,a.tmps.getD 28 undef,a.tmps.getD 29 undef,a.tmps.getD 30 undef,a.tmps.getD 31 undef,a.tmps.getD 32 undef,a.tmps.getD 33 undef,a.tmps.getD 34 undef,a.tmps.getD 35 undef,a.tmps.getD 36 undef,a.tmps.getD 37 undef,a.tmps.getD 38 undef,a.tmps.getD 39 undef,a.tmps.getD 40 undef,a.tmps.getD 41 undef,a.tmps.getD 42 undef,a.tmps.getD 43 undef,a.tmps.getD 44 undef,a.tmps.getD 45 undef,a.tmps.getD 46 undef,a.tmps.getD 47 undef,a.tmps.getD 48 undef,a.tmps.getD 49 undef,a.tmps.getD 50 undef,a.tmps.getD 51 undef,a.tmps.getD 52 undef,a.tmps.getD 53 undef,a.tmps.getD 54 undef,a.tmps.getD 55 undef,a.tmps.getD 56 undef,a.tmps.getD 57 undef,a.tmps.getD 58 undef,a.tmps.getD 59 undef,a.tmps.getD 60 undef,a.tmps.getD 61 undef,a.tmps.getD 62 undef,a.tmps.getD 63 undef,a.tmps.getD 64 undef,a.tmps.getD 65 undef,a.tmps.getD 66 undef,a.tmps.getD 67 undef,a.tmps.getD 68 undef,a.tmps.getD 69 undef,a.tmps.getD 70 undef,a.tmps.getD 71 undef,a.tmps.getD 72 undef,a.tmps.getD 73 undef,a.tmps.getD 74 undef,a.tmps.getD 75 undef,a.tmps.getD 76 undef,a.tmps.getD 77 undef,a.tmps.getD 78 undef,a.tmps.getD 79 undef,a.tmps.getD 80 undef,a.tmps.getD 81 undef,a.tmps.getD 82 undef,a.tmps.getD 83 undef,a.tmps.getD 84 undef,a.tmps.getD 85 undef,a.tmps.getD 86 undef,a.tmps.getD 87 undef,a.tmps.getD 88 undef,a.tmps.getD 89 undef,a.tmps.getD 90 undef,a.tmps.getD 91 undef,a.tmps.getD 92 undef,a.tmps.getD 93 undef,a.tmps.getD 94 undef,a.tmps.getD 95 undef,a.tmps.getD 96 undef,a.tmps.getD 97 undef,a.tmps.getD 98 undef,a.tmps.getD 99 undef,a.tmps.getD 100 undef,a.tmps.getD 101 undef,a.tmps.getD 102 undef,a.tmps.getD 103 undef,a.tmps.getD 104 undef,a.tmps.getD 105 undef,a.tmps.getD 106 undef,a.tmps.getD 107 undef,a.tmps.getD 108 undef,a.tmps.getD 109 undef,a.tmps.getD 110 undef,a.tmps.getD 111 undef,a.tmps.getD 112 undef,a.tmps.getD 113 undef,a.tmps.getD 114 undef,a.tmps.getD 115 undef,a.tmps.getD 116 undef,a.tmps.getD 117 undef,a.tmps.getD 118 undef,a.tmps.getD 119 undef,.bool b,a.tmps.getD 121 undef,a.tmps.getD 122 undef,a.tmps.getD 123 undef,a.tmps.getD 124 undef,a.tmps.getD 125 undef,a.tmps.getD 126 undef,a.tmps.getD 127 undef,a.tmps.getD 128 undef,a.tmps.getD 129 undef,a.tmps.getD 130 undef,a.tmps.getD 131 undef,a.tmps.getD 132 undef,a.tmps.getD 133 undef,a.tmps.getD 134 undef,a.tmps.getD 135 undef,a.tmps.getD 136 undef,a.tmps.getD 137 undef,a.tmps.getD 138 undef,a.tmps.getD 139 undef,a.tmps.getD 140 undef,a.tmps.getD 141 undef,a.tmps.getD 142 undef,a.tmps.getD 143 undef,a.tmps.getD 144 undef,undef],[]⟩
theorem A8.use {a:Act}{R:Nat}{c:Int}{v e8:Value}{b:Bool}(h:A8 a R c v e8 b):∃ f:Nat→Value,a=⟨#[.pointer (some ⟨R,0,none⟩),.int .i64 c,undef,undef,f 4,v,f 6,f 7,e8,f 9,f 10,f 11,f 12,f 13,f 14,f 15,f 16,f 17,f 18,f 19,f 20,f 21,f 22,f 23,f 24,f 25,f 26,f 27,f 28,f 29,f 30,f 31,f 32,f 33,f 34,f 35,f 36,f 37,f 38,f 39,f 40,f 41,f 42,f 43,f 44,f 45,f 46,f 47,f 48,f 49,f 50,f 51,f 52,f 53,f 54,f 55,f 56,f 57,f 58,f 59,f 60,f 61,f 62,f 63,f 64,f 65,f 66,f 67,f 68,f 69,f 70,f 71,f 72,f 73,f 74,f 75,f 76,f 77,f 78,f 79,f 80,f 81,f 82,f 83,f 84,f 85,f 86,f 87,f 88,f 89,f 90,f 91,f 92,f 93,f 94,f 95,f 96,f 97,f 98,f 99,f 100,f 101,f 102,f 103,f 104,f 105,f 106,f 107,f 108,f 109,f 110,f 111,f 112,f 113,f 114,f 115,f 116,f 117,f 118,f 119,.bool b,f 121,f 122,f 123,f 124,f 125,f 126,f 127,f 128,f 129,f 130,f 131,f 132,f 133,f 134,f 135,f 136,f 137,f 138,f 139,f 140,f 141,f 142,f 143,f 144,undef],[]⟩:=⟨fun i=>a.tmps.getD i undef,h⟩
theorem A2.box (w0 w:World)(R:Nat)(g:gra.Gr)(c:Int)(v e8:Value)(D:List Sv)(n k:Nat)(b:Bool):∃ M:Act→World→Prop,Hid (∀ a W,M a W ↔ A2 a R c v e8 b∧BI w0 w R g v D n k W):=⟨fun a W=>A2 a R c v e8 b∧BI w0 w R g v D n k W,Lh fun _ _=>Iff.rfl⟩
theorem A3.box (w0 w:World)(R:Nat)(g:gra.Gr)(c:Int)(v e8:Value)(D:List Sv)(n k:Nat)(b:Bool):∃ M:Act→World→Prop,Hid (∀ a W,M a W ↔ A3 a R c v e8 b∧BI w0 w R g v D n k W):=⟨fun a W=>A3 a R c v e8 b∧BI w0 w R g v D n k W,Lh fun _ _=>Iff.rfl⟩
theorem A8.box (w0 w:World)(R:Nat)(g:gra.Gr)(c:Int)(v e8:Value)(D:List Sv)(n k:Nat)(b:Bool):∃ M:Act→World→Prop,Hid (∀ a W,M a W ↔ A8 a R c v e8 b∧BI w0 w R g v D n k W):=⟨fun a W=>A8 a R c v e8 b∧BI w0 w R g v D n k W,Lh fun _ _=>Iff.rfl⟩
set_option maxRecDepth 100000 in
set_option maxHeartbeats 8000000 in
theorem rblk_of (w0:World)(R:Nat)(g:gra.Gr)(hv:Hid (gra.validE g=0)):∀ (m f:Nat) (c:Int) (n k:Nat) (w:World),(g.ns.length - n)+(g.cs.length - k)=m→m < f→n≤g.ns.length→k≤g.cs.length→Hid (Wt w0 w R g n k) →
    Calls Tryz.prog 36 #[.pointer (some ⟨R,0,none⟩),.int .i64 c] w (BlkO w0 R g (blkW g f c n k) w):=by
 have hmx:Tryz.prog.follows .mixedOrders=true:=by kernel_rfl
 have hg:=Lh (gv_of hv.out)
 have hN:g.ns.length≤64:=hg.out.nl
 have hK:g.cs.length≤16:=hg.out.cl
 intro m
 induction m using Nat.strongRecOn with
 | _ m ih =>
 intro f c n k w hm hf hn hk hW
 have IH:=Lh ih
 clear ih
 obtain ⟨L,hL⟩:∃ L,blkW g f c n k=L:=⟨_,rfl⟩
 have HL:=Lh hL
 rw [hL]
 clear hL
 have hRw:=hW.out.lt
 go_enter Tryz.func36,Tryz.ntmps36
 have HEB:=Lh (blk_new w #[] 67)
 have HB0:=Lh (al1 w (.cells #[] 67))
 go_wp2_with fail
 go_loopw [5] (fun v wr=>∃ (D:List Sv) (n' k' f':Nat),BI w0 w R g v D n' k' wr∧n'≤g.ns.length∧k'≤g.cs.length∧(g.ns.length - n')+(g.cs.length - k') < f'∧(g.ns.length - n')+(g.cs.length - k')≤m∧D.map Sv.s ++ (blkW g f' c n' k').1=L.1∧(blkW g f' c n' k').2=L.2∧D.length≤100 - ((g.ns.length - n')+(g.cs.length - k'))) (fun _ wr=>(g.ns.length - cellN wr R 5)+(g.cs.length - cellN wr R 6))
 case atStart =>
  exact ⟨[],n,k,f,⟨hW.out.below HB0.out,⟨⟨rfl,Or.inr ⟨w.heap.size,0,#[],rfl,Nat.le_refl _,HEB.out,Nat.le_refl _,by decide,rfl,rfl⟩⟩,fun x hx=>by cases hx⟩,Pk.below HB0.out⟩,hn,hk,by omega,by omega,by rw [HL.out];rfl,by rw [HL.out],Nat.zero_le _⟩
 case round =>
  obtain ⟨D,n',k',f',hBI,hn',hk',hf',hm',hD,hE,hDl⟩:=hrel
  rename World=>wr
  have HBI:=Lh hBI
  have HD:=Lh hD
  have HE:=Lh hE
  clear hBI hD hE
  obtain ⟨vo,vc,rfl⟩:=HBI.out.rs.form
  refine wp_seq ?_
  obtain ⟨M,HM⟩:=A2.box w0 w R g c (.slice vo D.length vc) (.slice (some ⟨w.heap.size,0,none⟩) 0 0) D n' k' (decide (n' < g.ns.length) || decide (k' < g.cs.length))
  refine wp_seq ?_
  refine then_mid M ?_ ?_
  ·obtain ⟨no,nc,co,cc,c2,c4,c5,c6,-,-,-,-⟩:=blk_cells HBI.out.wt
   have t2:=fun d os=>cell_regrown c2 d os
   have t4:=fun d os=>cell_regrown c4 d os
   have t5:=fun d os=>cell_regrown c5 d os
   have t6:=fun d os=>cell_regrown c6 d os
   clear c2 c4 c5 c6
   by_cases x1:n' < g.ns.length
   case pos =>
    have e1:decide ((n':Int) < (g.ns.length:Int))=true:=by rw [decide_eq_true_eq];omega
    have e1':decide (n' < g.ns.length)=true:=decide_eq_true x1
    have HBB:Hid ((decide (n' < g.ns.length) || decide (k' < g.cs.length))=true):=Lh (by rw [decide_eq_true x1];rfl)
    rw [HBB.out] at HM
    clear x1
    refine wp_region_quiet_below hmx (by kernel_rfl) ?_
    repeat (go_big_quiet_step (fail))
    refine wpQuiet_nil ?_
    intro _ hw'
    obtain ⟨⟨dq,osq⟩,hw''⟩:=hw'
    subst hw''
    exact ⟨rfl,(HM.out _ _).2 ⟨rfl,HBI.out.below (below_regrown wr dq osq)⟩⟩
   have e1:decide ((n':Int) < (g.ns.length:Int))=false:=by rw [decide_eq_false_iff_not];omega
   have e1':decide (n' < g.ns.length)=false:=decide_eq_false x1
   obtain ⟨b,hb⟩:∃ b,decide (k' < g.cs.length)=b:=⟨_,rfl⟩
   have e2:decide ((k':Int) < (g.cs.length:Int))=b:=by rw [← hb];simp
   have e2':decide (k' < g.cs.length)=b:=hb
   have HBB:Hid ((decide (n' < g.ns.length) || decide (k' < g.cs.length))=b):=Lh (by rw [decide_eq_false x1,hb];rfl)
   rw [HBB.out] at HM
   clear x1
   refine wp_region_quiet_below hmx (by kernel_rfl) ?_
   repeat (go_big_quiet_step (fail))
   refine wpQuiet_nil ?_
   intro _ hw'
   obtain ⟨⟨dq,osq⟩,hw''⟩:=hw'
   subst hw''
   exact ⟨rfl,(HM.out _ _).2 ⟨rfl,HBI.out.below (below_regrown wr dq osq)⟩⟩
  intro a1 w1 hm1
  obtain ⟨ha,hbi1⟩:=(HM.out _ _).1 hm1
  clear HM hm1 M
  have HBI1:=Lh hbi1
  have HCO:=Lh (show g.ns.length - cellN w1 R 5+(g.cs.length - cellN w1 R 6)=g.ns.length - cellN wr R 5+(g.cs.length - cellN wr R 6) by rw [hbi1.wt.count.1,hbi1.wt.count.2,HBI.out.wt.count.1,HBI.out.wt.count.2])
  have HCW:=Lh (show g.ns.length - cellN wr R 5+(g.cs.length - cellN wr R 6)=g.ns.length - n'+(g.cs.length - k') by rw [HBI.out.wt.count.1,HBI.out.wt.count.2])
  clear hbi1 HBI
  obtain ⟨f0,rfl⟩:∃ q,f'=q+1:=⟨f' - 1,by omega⟩
  by_cases x1:n' < g.ns.length∨k' < g.cs.length
  case neg =>
   rw [show (decide (n' < g.ns.length) || decide (k' < g.cs.length))=false by rw [Bool.or_eq_false_iff];exact ⟨decide_eq_false (fun q=>x1 (Or.inl q)),decide_eq_false (fun q=>x1 (Or.inr q))⟩] at ha
   obtain ⟨f1,rfl⟩:=ha.use
   have hend:=step_end (g:=g) (f:=f0) (c:=c) (cluN_end (c:=c) (n:=n') (fun q=>x1 (Or.inr q))) (nodN_end (c:=c) (fun q=>x1 (Or.inl q)))
   have HEND:=Lh hend
   clear ha hend x1
   go_wp2
   go_ret
   refine ⟨_,D,rfl,HBI1.out.rs,?_,?_,HBI1.out.pk⟩
   ·rw [← HD.out,HEND.out,List.append_nil]
   ·rw [← HE.out,HEND.out];exact HBI1.out.wt
  rw [show (decide (n' < g.ns.length) || decide (k' < g.cs.length))=true by rw [Bool.or_eq_true];exact x1.imp decide_eq_true decide_eq_true] at ha
  obtain ⟨f1,rfl⟩:=ha.use
  clear ha x1
  go_wp2_with fail
  obtain ⟨M,HM⟩:=A3.box w0 w R g c (.slice vo D.length vc) (.slice (some ⟨w.heap.size,0,none⟩) 0 0) D n' k' (cluN g c n' k')
  refine then_mid M ?_ ?_
  ·obtain ⟨no,nc,co,cc,c2,c4,c5,c6,-,-,hns,hcs⟩:=blk_cells HBI1.out.wt
   have t4:=fun d os=>cell_regrown c4 d os
   have t5:=fun d os=>cell_regrown c5 d os
   have t6:=fun d os=>cell_regrown c6 d os
   clear c2 c4 c5 c6 hns
   by_cases x1:k' < g.cs.length
   case neg =>
    have e1:decide ((k':Int) < (g.cs.length:Int))=false:=by rw [decide_eq_false_iff_not];omega
    have e1':decide (k' < g.cs.length)=false:=decide_eq_false x1
    rw [cluN_end x1] at HM
    clear x1 hcs
    refine wp_region_quiet_below hmx (by kernel_rfl) ?_
    repeat (go_big_quiet_step (fail))
    refine wpQuiet_nil ?_
    intro _ hw'
    obtain ⟨⟨dq,osq⟩,hw''⟩:=hw'
    subst hw''
    exact ⟨rfl,(HM.out _ _).2 ⟨rfl,HBI1.out.below (below_regrown w1 dq osq)⟩⟩
   have e1:decide ((k':Int) < (g.cs.length:Int))=true:=by rw [decide_eq_true_eq];omega
   have e1':decide (k' < g.cs.length)=true:=decide_eq_true x1
   have z0:(0:Int)≤(k':Int):=by omega
   have z1:(k':Int) < (g.cs.length:Int):=by omega
   obtain ⟨A,rfl,p0,p1,-⟩:=cls_c hcs x1
   have HCL:=Lh (cluN_at (c:=c) (n:=n') x1)
   obtain ⟨y,hy⟩:∃ y,(g.cs[k']).2=y:=⟨_,rfl⟩
   rw [hy] at p1 HCL
   have t1:=fun d os=>cell_regrown p1 d os
   clear p0 p1 hcs hy
   by_cases x2:y=c
   case neg =>
    have e2:(y == c)=false:=by rw [beq_eq_false_iff_ne];exact x2
    rw [show cluN g c n' k'=false by rw [HCL.out,decide_eq_false x2];rfl] at HM
    clear x1 x2
    refine wp_region_quiet_below hmx (by kernel_rfl) ?_
    repeat (go_big_quiet_step (fail))
    refine wpQuiet_nil ?_
    intro _ hw'
    obtain ⟨⟨dq,osq⟩,hw''⟩:=hw'
    subst hw''
    exact ⟨rfl,(HM.out _ _).2 ⟨rfl,HBI1.out.below (below_regrown w1 dq osq)⟩⟩
   have e2:(y == c)=true:=by rw [beq_iff_eq];exact x2
   obtain ⟨b,hb⟩:∃ b,inC g n' k'=b:=⟨_,rfl⟩
   have HIC:=Lh hb
   rw [show cluN g c n' k'=b by rw [HCL.out,decide_eq_true x2,hb];rfl] at HM
   have cV:=fun d os=>Calls.regrown_of (w:=w1) (d:=d) (os:=os) (rcon_of w0 R g n' k' k' b (grow (redrawn w1 d) os) (Lh (HBI1.out.wt.below (below_regrown w1 d os))) hv x1 HIC)
   clear x2 hb
   refine wp_region_quiet_below hmx (by kernel_rfl) ?_
   repeat (go_big_quiet_step (with_reducible exact cV _ _))
   refine wpQuiet_nil ?_
   intro _ hw'
   obtain ⟨⟨dq,osq⟩,hw''⟩:=hw'
   subst hw''
   exact ⟨rfl,(HM.out _ _).2 ⟨rfl,HBI1.out.below (below_regrown w1 dq osq)⟩⟩
  intro a2 w2 hm2
  obtain ⟨ha,hbi2⟩:=(HM.out _ _).1 hm2
  clear HM hm2 M
  have HBI2:=Lh hbi2
  clear hbi2 HBI1
  by_cases x1:cluN g c n' k'=true
  case pos =>
   rw [x1] at ha
   obtain ⟨f2,rfl⟩:=ha.use
   obtain ⟨hk1,-⟩:=cluN_lt x1
   have hst:=step_clu (f:=f0) hk1 x1
   have HST:=Lh hst
   clear ha x1 hst
   obtain ⟨no,nc,co,cc,-,-,-,c6,-,fz6,-,-⟩:=blk_cells HBI2.out.wt
   go_wp2_with fail
   have hwt4:=HBI2.out.wt.setK
   have hrs4:=HBI2.out.rs.pk (Pk.set R w2 6 (.int .i64 ((k':Int)+1))) hRw.2
   have hpk4:=HBI2.out.pk.trans (Pk.set R w2 6 (.int .i64 ((k':Int)+1)))
   clear c6 fz6
   generalize w2.setCell ⟨R,6,none⟩ (.int .i64 ((k':Int)+1))=w4 at hwt4 hrs4 hpk4 ⊢
   have HRS4:=Lh hrs4
   have HPK4:=Lh hpk4
   refine (IH.out ((g.ns.length - n')+(g.cs.length - (k'+1))) (by omega) f0 (k':Int) n' (k'+1) w4 rfl (by omega) hn' hk1 (Lh hwt4)).mono ?_
   rintro e w5 ⟨vb,Db,rfl,hrsb,hDb,hwt5,hpk5⟩
   obtain ⟨bo,bc,rfl⟩:=hrsb.form
   have hb5:=blk0_le g f0 (k':Int) n' (k'+1) hn' hk1
   have hb6:=blk_ge g f0 (k':Int) n' (k'+1)
   obtain ⟨r,hr⟩:∃ r,blkW g f0 (k':Int) n' (k'+1)=r:=⟨_,rfl⟩
   rw [hr] at hDb hwt5 hb5 hb6 HST
   have HRS5:=Lh (hrs4.pk hpk5 hRw.2)
   have HPK5:=Lh (hpk4.trans hpk5)
   have HWT5:=Lh hwt5
   obtain ⟨no,nc,co,cc,-,c4,-,-,-,-,-,hcs⟩:=blk_cells hwt5
   obtain ⟨A,rfl,p0,-,hnl⟩:=cls_c hcs hk1
   have HX:Hid (elS w.heap.size w5 (Value.slice vo D.length vc).ownBlock ⟨.mk 5 (g.cs[k']).1 [] [] r.1,.slice none 0 0,.slice none 0 0,.slice bo Db.length bc⟩):=Lh ⟨w4.heap.size,w5.heap.size,hpk4.size,Nat.le_refl _,fun q hq h2=>by have:=hrs4.lt q hq;omega,fun U hU=>⟨hnl,Prs.nil U,Prs.nil U,by rw [show (St.mk 5 (g.cs[k']).1 [] [] r.1).body=Db.map Sv.s from hDb.symm];exact row_selfL hrsb.1 (Nat.le_refl _) hrsb.2 U hU⟩⟩
   obtain ⟨NM,hNM⟩:∃ X,bb (g.cs[k']).1=X:=⟨_,rfl⟩
   have p0':w5.cell? (A.add (k'*2))=some (.string NM):=by rw [← hNM];exact p0
   have HEX:Hid (svC ⟨.mk 5 (g.cs[k']).1 [] [] r.1,.slice none 0 0,.slice none 0 0,.slice bo Db.length bc⟩=[.int .i64 5,.string NM,.slice none 0 0,.slice none 0 0,.slice bo Db.length bc]):=Lh (by rw [← hNM];rfl)
   have z0:(0:Int)≤(k':Int):=by omega
   have z1:(k':Int) < (g.cs.length:Int):=by omega
   have hz5:=HPK5.out.size
   clear hrsb hDb hwt5 hpk5 hwt4 hrs4 hpk4 hr hcs hnl p0 hNM
   go_wp2_with (at_builtin;refine ls_st rfl (.tmp 80) (.tmp 92) rfl w.heap.size _ D ⟨.mk 5 (g.cs[k']).1 [] [] r.1,.slice none 0 0,.slice none 0 0,.slice bo Db.length bc⟩ 5 NM (.slice none 0 0) (.slice none 0 0) (.slice bo Db.length bc) HEX.out w5.heap.size rfl rfl rfl HRS5 HX (by omega) hz5 ⟨rfl,rfl,rfl⟩ ?_;intro gg cap V hrs6 hg6)
   have hB6:=grownB HRS5.out hg6.out hz5
   have hwt6:=HWT5.out.next (hB6.mono (by omega)) (hB6.block R hRw.2)
   have HWT6:=Lh hwt6
   have HPK6:=Lh (HPK5.out.low hB6)
   clear hB6 hwt6 c4 p0'
   go_roundw
   case rel=>exact ⟨D ++ [⟨.mk 5 (g.cs[k']).1 [] [] r.1,.slice none 0 0,.slice none 0 0,.slice bo Db.length bc⟩],r.2.1,r.2.2,f0,⟨HWT6.out,hrs6.out,HPK6.out⟩,hb5.1,hb5.2,by omega,by omega,by rw [← HD.out,HST.out,List.map_append,List.append_assoc];rfl,by rw [← HE.out,HST.out],by rw [List.length_append];simp only [List.length_cons,List.length_nil];omega⟩
   case measure=>have:=HWT6.out.count;have:=HCW.out;omega
  have x1':cluN g c n' k'=false:=by simpa using x1
  rw [x1'] at ha
  obtain ⟨f2,rfl⟩:=ha.use
  clear ha x1
  go_wp2_with fail
  obtain ⟨M,HM⟩:=A8.box w0 w R g c (.slice vo D.length vc) (.slice (some ⟨w.heap.size,0,none⟩) 0 0) D n' k' (nodN g c n')
  refine then_mid M ?_ ?_
  ·obtain ⟨no,nc,co,cc,c2,c4,c5,c6,-,-,hns,hcs⟩:=blk_cells HBI2.out.wt
   have t2:=fun d os=>cell_regrown c2 d os
   have t5:=fun d os=>cell_regrown c5 d os
   clear c2 c4 c5 c6 hcs
   by_cases x1:n' < g.ns.length
   case neg =>
    have e1:decide ((n':Int) < (g.ns.length:Int))=false:=by rw [decide_eq_false_iff_not];omega
    have e1':decide (n' < g.ns.length)=false:=decide_eq_false x1
    rw [nodN_end x1] at HM
    clear x1 hns
    refine wp_region_quiet_below hmx (by kernel_rfl) ?_
    repeat (go_big_quiet_step (fail))
    refine wpQuiet_nil ?_
    intro _ hw'
    obtain ⟨⟨dq,osq⟩,hw''⟩:=hw'
    subst hw''
    exact ⟨rfl,(HM.out _ _).2 ⟨rfl,HBI2.out.below (below_regrown w2 dq osq)⟩⟩
   have e1:decide ((n':Int) < (g.ns.length:Int))=true:=by rw [decide_eq_true_eq];omega
   have e1':decide (n' < g.ns.length)=true:=decide_eq_true x1
   have z0:(0:Int)≤(n':Int):=by omega
   have z1:(n':Int) < (g.ns.length:Int):=by omega
   obtain ⟨A,rfl,po,pc,⟨-,-,-,-,p4,-⟩,-,-⟩:=nds_c hns x1
   have HCL:=Lh (nodN_at (c:=c) x1)
   obtain ⟨y,hy⟩:∃ y,(g.ns[n']).cl=y:=⟨_,rfl⟩
   rw [hy] at p4 HCL
   have t1:=fun d os=>cell_regrown p4 d os
   obtain ⟨b,hb⟩:∃ b,(y == c)=b:=⟨_,rfl⟩
   rw [show nodN g c n'=b by rw [HCL.out,← hb,Bool.eq_iff_iff,decide_eq_true_eq,beq_iff_eq]] at HM
   clear p4 hns hy x1
   refine wp_region_quiet_below hmx (by kernel_rfl) ?_
   repeat (go_big_quiet_step (fail))
   refine wpQuiet_nil ?_
   intro _ hw'
   obtain ⟨⟨dq,osq⟩,hw''⟩:=hw'
   subst hw''
   exact ⟨rfl,(HM.out _ _).2 ⟨rfl,HBI2.out.below (below_regrown w2 dq osq)⟩⟩
  intro a3 w3 hm3
  obtain ⟨ha,hbi3⟩:=(HM.out _ _).1 hm3
  clear HM hm3 M
  have HBI3:=Lh hbi3
  clear hbi3 HBI2
  by_cases x2:nodN g c n'=true
  case neg =>
   have x2':nodN g c n'=false:=by simpa using x2
   rw [x2'] at ha
   obtain ⟨f3,rfl⟩:=ha.use
   have HEND:=Lh (step_end (f:=f0) x1' x2')
   clear ha x1' x2 x2'
   go_wp2
   go_ret
   refine ⟨_,D,rfl,HBI3.out.rs,?_,?_,HBI3.out.pk⟩
   ·rw [← HD.out,HEND.out,List.append_nil]
   ·rw [← HE.out,HEND.out];exact HBI3.out.wt
  rw [x2] at ha
  obtain ⟨f3,rfl⟩:=ha.use
  obtain ⟨hn1,-⟩:=nodN_lt x2
  have HST:=Lh (step_nod (f:=f0) x1' hn1 x2)
  clear ha x1' x2
  obtain ⟨_,_,_,_,-,-,c5,-,-,-,-,-⟩:=blk_cells HBI3.out.wt
  obtain ⟨A,nc,po,pc,c2,hC,hP0,hml,hb03⟩:=wt_node HBI3.out.wt hn1
  have hnv:=hg.out.nd _ (List.getElem_mem hn1)
  obtain ⟨y,hy⟩:∃ y,g.ns[n']=y:=⟨_,rfl⟩
  rw [hy] at hC hP0 hnv HST hml
  have HC0:=Lh hC
  have HB03:=Lh hb03
  obtain ⟨d0,d1,d2,d3,d4,d5⟩:=hC.keep hb03
  have HP:=Lh (hP0.keep hb03)
  have HNV:=Lh hnv
  have z0:(0:Int)≤(n':Int):=by omega
  have z1:(n':Int) < (g.ns.length:Int):=by omega
  have hz3:=HBI3.out.pk.size
  clear hP0 hnv hy hC hb03
  go_wp2_with fail
  refine tstart (fun W:World=>W.cell? ⟨R,2,none⟩=some (.slice (some A) g.ns.length nc)∧W.cell? ⟨R,5,none⟩=some (.int .i64 (n':Int))∧W.cell? (A.add (n'*6))=some (.string (bb y.nm))∧W.cell? ⟨(A.add (n'*6)).block,(A.add (n'*6)).off+1,none⟩=some (.string (bb y.lb))∧W.cell? ⟨(A.add (n'*6)).block,(A.add (n'*6)).off+2,none⟩=some (.int .i64 y.w)∧W.cell? ⟨(A.add (n'*6)).block,(A.add (n'*6)).off+3,none⟩=some (.int .i64 y.h)∧W.cell? ⟨(A.add (n'*6)).block,(A.add (n'*6)).off+4,none⟩=some (.int .i64 y.cl)∧W.cell? ⟨(A.add (n'*6)).block,(A.add (n'*6)).off+5,none⟩=some (.slice po y.ps.length pc)) 15 (by kernel_rfl) (⟨s_drew c2,s_drew c5,s_drew d0,s_drew d1,s_drew d2,s_drew d3,s_drew d4,s_drew d5⟩) (fun hHeld=>?_)
  refine ton 0 121 (.slice vo D.length vc) ?_
  refine ton 1 122 (.pointer (some ⟨R,0,none⟩)) ?_
  refine ton 2 123 (.pointer (some ⟨R,0,none⟩)) ?_
  refine ton 3 124 (.pointer (some ⟨R,0,none⟩)) ?_
  refine ton 4 125 (.pointer (some ⟨R,2,none⟩)) ?_
  refine ton 5 126 (.slice (some A) g.ns.length nc) ?_
  refine ton 6 127 (.pointer (some ⟨R,0,none⟩)) ?_
  refine ton 7 128 (.pointer (some ⟨R,0,none⟩)) ?_
  refine ton 8 129 (.pointer (some ⟨R,5,none⟩)) ?_
  refine ton 9 130 (.int .i64 (n':Int)) ?_
  refine ton 10 131 (.pointer (some (A.add (n'*6)))) ?_
  refine ton 11 132 (.agg #[.string (bb y.nm),.string (bb y.lb),.int .i64 y.w,.int .i64 y.h,.int .i64 y.cl,.slice po y.ps.length pc]) ?_
  try simp only [sA,sB,sC]
  refine tgo (i:=12) (by kernel_rfl) rfl (fun K hK=>?_)
  go_simp
  refine (rnode_of y (.slice po y.ps.length pc) w3.drew (Lh (HP.out.keep (b_drew w3))) HNV.out hml).mono ?_
  rintro e w4 ⟨hb4,yv,rfl,hvs⟩
  obtain ⟨ro,rc,ao,ac,bo,bc,rfl,hel⟩:=hvs.el (HBI3.out.rs.below (b_drew w3)) hz3
  have HB4:=Lh (below_keep hb4 (b_drew w3))
  have hz4:=HB4.out.size
  have HEL:=Lh hel
  have HRS4:=Lh (HBI3.out.rs.below HB4.out)
  clear hb4 hvs hel
  refine hK.out _ _ (fun _=>⟨cell_later' HB4.out c2,cell_later' HB4.out c5,cell_later' HB4.out d0,cell_later' HB4.out d1,cell_later' HB4.out d2,cell_later' HB4.out d3,cell_later' HB4.out d4,cell_later' HB4.out d5⟩) (fun hHeld=>?_)
  replace hHeld:=hHeld (by decide)
  clear hK K
  try simp only [sA,sB,sC]
  refine tgo (i:=13) (by kernel_rfl) rfl (fun K hK=>?_)
  go_simp
  refine hK.out _ _ (fun _=>(by obtain ⟨k0,k1,k2,k3,k4,k5,k6,k7⟩:=hHeld;exact ⟨s_alloc k0,s_alloc k1,s_alloc k2,s_alloc k3,s_alloc k4,s_alloc k5,s_alloc k6,s_alloc k7⟩)) (fun hHeld=>?_)
  replace hHeld:=hHeld (by decide)
  clear hK K
  try simp only [sA,sB,sC]
  have hkn:=blk_new w4 #[.int .i64 (nodeS y).kind,.string (bb (nodeS y).name),.slice ro (nodeS y).refs.length rc,.slice ao (nodeS y).attrs.length ac,.slice bo (nodeS y).body.length bc] 67
  have hba:=al1 w4 (.cells #[.int .i64 (nodeS y).kind,.string (bb (nodeS y).name),.slice ro (nodeS y).refs.length rc,.slice ao (nodeS y).attrs.length ac,.slice bo (nodeS y).body.length bc] 67)
  refine tgo (i:=14) (by kernel_rfl) rfl (fun K hK=>?_)
  refine st_st rfl (.tmp 121) (.tmp 134) rfl w.heap.size w4 _ _ D ⟨nodeS y,.slice ro (nodeS y).refs.length rc,.slice ao (nodeS y).attrs.length ac,.slice bo (nodeS y).body.length bc⟩ (nodeS y).kind _ _ _ _ rfl w4.heap.size rfl rfl HRS4 HEL (Lh hba) (Lh hkn) (by omega) (by omega) ⟨rfl,rfl,rfl⟩ ?_
  intro gg cap V hrs6 hg6
  have hBk:=grownB HRS4.out hg6.out (by omega)
  refine hK.out _ _ (fun _=>?_) (fun hHeld=>?_)
  ·obtain ⟨q0,q1,q2,q3,q4,q5⟩:=HC0.out.keep (HB03.out.trans ((HB4.out.mono (by omega)).trans (hBk.mono (by omega))))
   exact ⟨by rw [World.cell?_of_block (w:=w4) (hBk.block R hRw.2)];exact cell_later' HB4.out c2,by rw [World.cell?_of_block (w:=w4) (hBk.block R hRw.2)];exact cell_later' HB4.out c5,q0,q1,q2,q3,q4,q5⟩
  replace hHeld:=hHeld (by decide)
  clear hK K hHeld hBk
  try simp only [sA,sB,sC]
  refine tgo (i:=15) (by kernel_rfl) rfl (fun K hK=>?_)
  go_simp
  refine hK.out _ _ (fun h=>absurd rfl h) (fun hHeld=>?_)
  clear hK K hHeld
  try simp only [sA,sB,sC]
  refine tdone (by kernel_rfl) ?_ _
  have hB6:=grownB HRS4.out hg6.out (by omega)
  have hwt5:=(HBI3.out.wt.below HB4.out).next (hB6.mono (by omega)) (hB6.block R hRw.2)
  have HWT5:=Lh hwt5
  have HPK5:=Lh ((HBI3.out.pk.trans (Pk.below HB4.out)).low hB6)
  obtain ⟨_,_,_,_,-,-,c5,-,fz5,-,-,-⟩:=blk_cells hwt5
  clear hB6 hwt5
  go_wp2
  have HWT6:=Lh HWT5.out.setN
  have HRS6:=Lh (hrs6.out.pk (Pk.set R V 5 (.int .i64 ((n':Int)+1))) hRw.2)
  have HPK6:=Lh (HPK5.out.trans (Pk.set R V 5 (.int .i64 ((n':Int)+1))))
  clear c5 fz5
  go_roundw
  case rel=>exact ⟨D ++ [⟨nodeS y,.slice ro (nodeS y).refs.length rc,.slice ao (nodeS y).attrs.length ac,.slice bo (nodeS y).body.length bc⟩],n'+1,k',f0,⟨HWT6.out,HRS6.out,HPK6.out⟩,by omega,hk',by omega,by omega,by rw [← HD.out,HST.out,List.map_append,List.append_assoc];rfl,by rw [← HE.out,HST.out],by rw [List.length_append];simp only [List.length_cons,List.length_nil];omega⟩
  case measure=>have:=HWT6.out.count;have:=HCW.out;omega
end Go.Proofs.YtgmidodmmlmmeaaGreatDoor.xpt
namespace Go.Proofs.YtgmidodmmlmmeaaGreatDoor.xpt
open Go.RowKit lex tre att nor
theorem rset2 (B:Nat)(K V:ByteArray)(k c:List UInt8)(v:Value)(D:List Sv)(w:World)(hk:Hid (bb k=K))(hv:Hid (bb c=V))(lk:k.length≤maxLen)(lv:c.length≤maxLen)(hr:Hid (RS B w v D))(hB:B≤w.heap.size) :
    Calls Tryz.prog 81 #[.string K,.string V] w fun e w'=>Below w.heap.size w w'∧∃ ro rc ao ac bo bc,e=.returned (.agg #[.int .i64 4,.string K,.slice ro 0 rc,.slice ao 1 ac,.slice bo 0 bc])∧Hid (elS B w' v.ownBlock ⟨setS k c,.slice ro 0 rc,.slice ao 1 ac,.slice bo 0 bc⟩)∧Hid (RS B w' v D) :=
 (rset_of K V k c w hk hv lk lv).mono fun e w' ⟨h1,y,h2,h3⟩=>by
  obtain ⟨ro,rc,ao,ac,bo,bc,e1,h4⟩:=h3.el hr.out hB
  exact ⟨h1,ro,rc,ao,ac,bo,bc,by rw [h2,e1,← hk.out];rfl,Lh h4,Lh (hr.out.below h1)⟩
def A61 (a:Act)(n0:Nat)(v:Value):Prop:=a=⟨#[a.tmps.getD 0 undef,.pointer (some ⟨n0,0,none⟩),a.tmps.getD 2 undef,.slice (some ⟨n0+1,0,none⟩) 5 5,v,a.tmps.getD 5 undef,a.tmps.getD 6 undef,a.tmps.getD 7 undef,a.tmps.getD 8 undef,a.tmps.getD 9 undef,a.tmps.getD 10 undef,a.tmps.getD 11 undef,a.tmps.getD 12 undef,a.tmps.getD 13 undef,a.tmps.getD 14 undef,a.tmps.getD 15 undef,a.tmps.getD 16 undef,a.tmps.getD 17 undef,a.tmps.getD 18 undef,a.tmps.getD 19 undef,a.tmps.getD 20 undef,a.tmps.getD 21 undef,a.tmps.getD 22 undef,a.tmps.getD 23 undef,a.tmps.getD 24 undef,a.tmps.getD 25 undef,a.tmps.getD 26 undef,a.tmps.getD 27 undef,a.tmps.getD 28 undef,a.tmps.getD 29 undef,a.tmps.getD 30 undef,a.tmps.getD 31 undef,a.tmps.getD 32 undef,a.tmps.getD 33 undef,a.tmps.getD 34 undef,a.tmps.getD 35 undef,a.tmps.getD 36 undef,a.tmps.getD 37 undef,a.tmps.getD 38 undef,a.tmps.getD 39 undef,a.tmps.getD 40 undef,a.tmps.getD 41 undef,a.tmps.getD 42 undef,a.tmps.getD 43 undef,a.tmps.getD 44 undef,a.tmps.getD 45 undef,a.tmps.getD 46 undef,a.tmps.getD 47 undef,a.tmps.getD 48 undef,a.tmps.getD 49 undef,a.tmps.getD 50 undef,a.tmps.getD 51 undef,a.tmps.getD 52 undef,a.tmps.getD 53 undef,a.tmps.getD 54 undef,a.tmps.getD 55 undef,a.tmps.getD 56 undef,a.tmps.getD 57 undef,a.tmps.getD 58 undef,a.tmps.getD 59 undef,a.tmps.getD 60 undef],[]⟩
theorem A61.use {a:Act}{n0:Nat}{v:Value}(h:A61 a n0 v):∃ f:Nat→Value,a=⟨#[f 0,.pointer (some ⟨n0,0,none⟩),f 2,.slice (some ⟨n0+1,0,none⟩) 5 5,v,f 5,f 6,f 7,f 8,f 9,f 10,f 11,f 12,f 13,f 14,f 15,f 16,f 17,f 18,f 19,f 20,f 21,f 22,f 23,f 24,f 25,f 26,f 27,f 28,f 29,f 30,f 31,f 32,f 33,f 34,f 35,f 36,f 37,f 38,f 39,f 40,f 41,f 42,f 43,f 44,f 45,f 46,f 47,f 48,f 49,f 50,f 51,f 52,f 53,f 54,f 55,f 56,f 57,f 58,f 59,f 60],[]⟩:=⟨fun i=>a.tmps.getD i undef,h⟩
def OprM (w:World)(n0:Nat)(ob:Array Value)(l:List St)(a:Act)(W:World):Prop :=
 ∃ v D,A61 a n0 v∧RS n0 W v D∧D.map Sv.s=l∧Below n0 w W∧blk W n0 28 ob∧blk W (n0+1) 9 #[.string ⟨#[108,97,121,101,114,101,100]⟩,.string ⟨#[111,114,116,104,111,103,111,110,97,108]⟩,.string ⟨#[115,116,114,97,105,103,104,116]⟩,.string ⟨#[116,105,100,121]⟩,.string ⟨#[114,97,100,105,97,108]⟩]
theorem OprM.box (w:World)(n0:Nat)(ob:Array Value)(l:List St):∃ M:Act→World→Prop,Hid (∀ a W,M a W ↔ OprM w n0 ob l a W):=⟨OprM w n0 ob l,Lh fun _ _=>Iff.rfl⟩
set_option maxRecDepth 100000 in
set_option maxHeartbeats 8000000 in
theorem ropts13_of (o:Op')(w:World)(ho:Hid (okO o=true)) :
    Calls Tryz.prog 35 #[opV o] w fun e w'=>Below w.heap.size w w'∧∃ v D,e=.returned v∧RS w.heap.size w' v D∧D.map Sv.s=optS o:=by
 have hv:=opv_of ho.out
 obtain ⟨md,ns,rs,mg,rd⟩:=o
 obtain ⟨m0,m1⟩:=hv.md
 obtain ⟨n0',n1⟩:=hv.ns
 obtain ⟨r0,r1⟩:=hv.rs
 obtain ⟨g0,g1⟩:=hv.mg
 obtain ⟨d0,d1⟩:=hv.rd
 simp only at m0 m1 n0' n1 r0 r1 g0 g1 d0 d1
 clear hv ho
 obtain ⟨F1,hF1⟩:∃ F,bb (fmtL ns)=F:=⟨_,rfl⟩
 obtain ⟨F2,hF2⟩:∃ F,bb (fmtL rs)=F:=⟨_,rfl⟩
 obtain ⟨F3,hF3⟩:∃ F,bb (fmtL mg)=F:=⟨_,rfl⟩
 obtain ⟨F4,hF4⟩:∃ F,bb (fmtL (1000*rd))=F:=⟨_,rfl⟩
 have HF1:=Lh hF1
 have HF2:=Lh hF2
 have HF3:=Lh hF3
 have HF4:=Lh hF4
 clear hF1 hF2 hF3 hF4
 unfold opV
 simp only
 go_enter Tryz.func35,Tryz.ntmps35
 obtain ⟨M,HM⟩:=OprM.box w w.heap.size #[.int .i64 md,.int .i64 ns,.int .i64 rs,.int .i64 mg,.int .i64 rd] []
 refine seq_mid3 M ?_ ?_
 ·have k1:=blk_new w #[.int .i64 md,.int .i64 ns,.int .i64 rs,.int .i64 mg,.int .i64 rd] 28
  have b1:=al1 w (.cells #[.int .i64 md,.int .i64 ns,.int .i64 rs,.int .i64 mg,.int .i64 rd] 28)
  have q1:(w.alloc (.cells #[.int .i64 md,.int .i64 ns,.int .i64 rs,.int .i64 mg,.int .i64 rd] 28)).heap.size=w.heap.size+1:=by simp
  have HK1:=Lh k1
  have HB1:=Lh b1
  have HQ1:=Lh q1
  clear k1 b1 q1
  go_wp2
  generalize w.alloc (.cells #[.int .i64 md,.int .i64 ns,.int .i64 rs,.int .i64 mg,.int .i64 rd] 28)=wa at HK1 HB1 HQ1 ⊢
  have hq1:=HQ1.out
  have b2:=al1 wa (.cells #[.string ⟨#[108,97,121,101,114,101,100]⟩,.string ⟨#[111,114,116,104,111,103,111,110,97,108]⟩,.string ⟨#[115,116,114,97,105,103,104,116]⟩,.string ⟨#[116,105,100,121]⟩,.string ⟨#[114,97,100,105,97,108]⟩] 9)
  have k2:=blk_new wa #[.string ⟨#[108,97,121,101,114,101,100]⟩,.string ⟨#[111,114,116,104,111,103,111,110,97,108]⟩,.string ⟨#[115,116,114,97,105,103,104,116]⟩,.string ⟨#[116,105,100,121]⟩,.string ⟨#[114,97,100,105,97,108]⟩] 9
  have q2:(wa.alloc (.cells #[.string ⟨#[108,97,121,101,114,101,100]⟩,.string ⟨#[111,114,116,104,111,103,111,110,97,108]⟩,.string ⟨#[115,116,114,97,105,103,104,116]⟩,.string ⟨#[116,105,100,121]⟩,.string ⟨#[114,97,100,105,97,108]⟩] 9)).heap.size=w.heap.size+2:=by simp;omega
  generalize wa.alloc (.cells #[.string ⟨#[108,97,121,101,114,101,100]⟩,.string ⟨#[111,114,116,104,111,103,111,110,97,108]⟩,.string ⟨#[115,116,114,97,105,103,104,116]⟩,.string ⟨#[116,105,100,121]⟩,.string ⟨#[114,97,100,105,97,108]⟩] 9)=wb at b2 k2 q2 ⊢
  have b3:=al1 wb (.cells #[] 67)
  have k3:=blk_new wb #[] 67
  rw [hq1] at k2
  rw [q2] at k3
  refine (HM.out _ _).2 ⟨_,[],rfl,⟨⟨rfl,Or.inr ⟨w.heap.size+2,0,#[],rfl,by omega,k3,Nat.le_refl _,by decide,rfl,rfl⟩⟩,fun x hx=>by cases hx⟩,rfl,below_keep b3 (below_keep b2 HB1.out),blk_keep b3 (blk_keep b2 HK1.out),blk_keep b3 k2⟩
 obtain ⟨n0,hn0⟩:∃ n0,w.heap.size=n0:=⟨_,rfl⟩
 have HN0:=Lh hn0
 rw [hn0] at HM
 clear hn0
 intro a1 w1 hm
 obtain ⟨v,D,ha,hrs,hD,hb,he,hmo⟩:=(HM.out _ _).1 hm
 obtain ⟨f,rfl⟩:=ha.use
 clear HM hm M ha
 obtain ⟨l0,hl0⟩:∃ l,([]:List St)=l:=⟨_,rfl⟩
 rw [hl0] at hD
 have zl:D.length≤0:=by rw [← List.length_map (f:=Sv.s),hD,← hl0];first | (simp;done) | (rw [List.length_append];split <;> simp only [List.length_cons,List.length_nil] <;> omega)
 have zl0:l0.length≤0:=by rw [← hD,List.length_map];exact zl
 have HQl0:=Lh hl0
 clear hl0
 obtain ⟨vo,vc,rfl⟩:=hrs.form
 have HRS:=Lh hrs
 have HD:=Lh hD
 have HB:=Lh hb
 have HE:=Lh he
 have HMO:=Lh hmo
 have hlt:=blk_lt he
 have c0:w1.cell? ⟨n0,0,none⟩=some (.int .i64 md):=by rw [blk_cell he];rfl
 have m1:w1.cell? ⟨n0+1,1,none⟩=some (.string ⟨#[111,114,116,104,111,103,111,110,97,108]⟩):=by rw [blk_cell hmo];rfl
 have m2:w1.cell? ⟨n0+1,2,none⟩=some (.string ⟨#[115,116,114,97,105,103,104,116]⟩):=by rw [blk_cell hmo];rfl
 have m3:w1.cell? ⟨n0+1,3,none⟩=some (.string ⟨#[116,105,100,121]⟩):=by rw [blk_cell hmo];rfl
 have m4:w1.cell? ⟨n0+1,4,none⟩=some (.string ⟨#[114,97,100,105,97,108]⟩):=by rw [blk_cell hmo];rfl
 clear hrs hD hb he hmo
 obtain ⟨M,HM⟩:=OprM.box w n0 #[.int .i64 md,.int .i64 ns,.int .i64 rs,.int .i64 mg,.int .i64 rd] (l0 ++ (if md=0 then [] else [setS wMode (modes.getD md.toNat [])]))
 refine seq_mid M ?_ ?_
 ·by_cases g:md=0
  case pos =>
   have bg:(md != 0)=false:=by rw [g];rfl
   have hgo:l0=(l0 ++ (if md=0 then [] else [setS wMode (modes.getD md.toNat [])])):=by rw [if_pos g,List.append_nil]
   have HGO:=Lh hgo
   clear g hgo
   go_wp2
   exact (HM.out _ _).2 ⟨_,D,rfl,HRS.out,by rw [← HGO.out];exact HD.out,HB.out,HE.out,HMO.out⟩
  have bg:(md != 0)=true:=by rw [bne_iff_ne];exact g
  have hgo:l0 ++ [setS wMode (modes.getD md.toNat [])]=(l0 ++ (if md=0 then [] else [setS wMode (modes.getD md.toNat [])])):=by rw [if_neg g]
  have HGO:=Lh hgo
  clear bg
  rcases (by omega:md=1∨md=2∨md=3∨md=4) with rfl | rfl | rfl | rfl
  ·clear g hgo
   go_wp2_with fail
   refine (rset2 n0 _ ⟨#[111,114,116,104,111,103,111,110,97,108]⟩ wMode [111,114,116,104,111,103,111,110,97,108] _ D w1 (Lh rfl) (Lh rfl) (by decide) (by decide) HRS (by omega)).mono ?_
   clear m1 m2 m3 m4
   rintro e w2 ⟨hb2,ro,rc,ao,ac,bo,bc,rfl,HEL,HRS2⟩
   have HB2:=Lh hb2
   clear hb2 c0
   have hz2:=HB2.out.size
   go_wp2_with (at_builtin;refine ls_st rfl (.tmp 10) (.tmp 17) rfl n0 _ D ⟨setS wMode [111,114,116,104,111,103,111,110,97,108],.slice ro 0 rc,.slice ao 1 ac,.slice bo 0 bc⟩ 4 _ (.slice ro 0 rc) (.slice ao 1 ac) (.slice bo 0 bc) rfl w2.heap.size rfl rfl rfl HRS2 HEL (by omega) (by omega) ⟨rfl,rfl,rfl⟩ ?_;intro gg cap V hrs3 hg3)
   have hB3:=grownB HRS2.out hg3.out (by omega)
   exact (HM.out _ _).2 ⟨_,D ++ [_],by show A61 _ _ _;rw [show D.length+1=D.length+1 from rfl];rfl,hrs3.out,by rw [← HGO.out,List.map_append,HD.out];rfl,HB.out.trans ((HB2.out.mono (by omega)).trans hB3),grownK HRS2.out hg3.out (blk_keep HB2.out HE.out) (by decide),grownK HRS2.out hg3.out (blk_keep HB2.out HMO.out) (by decide)⟩
  ·clear g hgo
   go_wp2_with fail
   refine (rset2 n0 _ ⟨#[115,116,114,97,105,103,104,116]⟩ wMode [115,116,114,97,105,103,104,116] _ D w1 (Lh rfl) (Lh rfl) (by decide) (by decide) HRS (by omega)).mono ?_
   clear m1 m2 m3 m4
   rintro e w2 ⟨hb2,ro,rc,ao,ac,bo,bc,rfl,HEL,HRS2⟩
   have HB2:=Lh hb2
   clear hb2 c0
   have hz2:=HB2.out.size
   go_wp2_with (at_builtin;refine ls_st rfl (.tmp 10) (.tmp 17) rfl n0 _ D ⟨setS wMode [115,116,114,97,105,103,104,116],.slice ro 0 rc,.slice ao 1 ac,.slice bo 0 bc⟩ 4 _ (.slice ro 0 rc) (.slice ao 1 ac) (.slice bo 0 bc) rfl w2.heap.size rfl rfl rfl HRS2 HEL (by omega) (by omega) ⟨rfl,rfl,rfl⟩ ?_;intro gg cap V hrs3 hg3)
   have hB3:=grownB HRS2.out hg3.out (by omega)
   exact (HM.out _ _).2 ⟨_,D ++ [_],by show A61 _ _ _;rw [show D.length+1=D.length+1 from rfl];rfl,hrs3.out,by rw [← HGO.out,List.map_append,HD.out];rfl,HB.out.trans ((HB2.out.mono (by omega)).trans hB3),grownK HRS2.out hg3.out (blk_keep HB2.out HE.out) (by decide),grownK HRS2.out hg3.out (blk_keep HB2.out HMO.out) (by decide)⟩
  ·clear g hgo
   go_wp2_with fail
   refine (rset2 n0 _ ⟨#[116,105,100,121]⟩ wMode [116,105,100,121] _ D w1 (Lh rfl) (Lh rfl) (by decide) (by decide) HRS (by omega)).mono ?_
   clear m1 m2 m3 m4
   rintro e w2 ⟨hb2,ro,rc,ao,ac,bo,bc,rfl,HEL,HRS2⟩
   have HB2:=Lh hb2
   clear hb2 c0
   have hz2:=HB2.out.size
   go_wp2_with (at_builtin;refine ls_st rfl (.tmp 10) (.tmp 17) rfl n0 _ D ⟨setS wMode [116,105,100,121],.slice ro 0 rc,.slice ao 1 ac,.slice bo 0 bc⟩ 4 _ (.slice ro 0 rc) (.slice ao 1 ac) (.slice bo 0 bc) rfl w2.heap.size rfl rfl rfl HRS2 HEL (by omega) (by omega) ⟨rfl,rfl,rfl⟩ ?_;intro gg cap V hrs3 hg3)
   have hB3:=grownB HRS2.out hg3.out (by omega)
   exact (HM.out _ _).2 ⟨_,D ++ [_],by show A61 _ _ _;rw [show D.length+1=D.length+1 from rfl];rfl,hrs3.out,by rw [← HGO.out,List.map_append,HD.out];rfl,HB.out.trans ((HB2.out.mono (by omega)).trans hB3),grownK HRS2.out hg3.out (blk_keep HB2.out HE.out) (by decide),grownK HRS2.out hg3.out (blk_keep HB2.out HMO.out) (by decide)⟩
  ·clear g hgo
   go_wp2_with fail
   refine (rset2 n0 _ ⟨#[114,97,100,105,97,108]⟩ wMode [114,97,100,105,97,108] _ D w1 (Lh rfl) (Lh rfl) (by decide) (by decide) HRS (by omega)).mono ?_
   clear m1 m2 m3 m4
   rintro e w2 ⟨hb2,ro,rc,ao,ac,bo,bc,rfl,HEL,HRS2⟩
   have HB2:=Lh hb2
   clear hb2 c0
   have hz2:=HB2.out.size
   go_wp2_with (at_builtin;refine ls_st rfl (.tmp 10) (.tmp 17) rfl n0 _ D ⟨setS wMode [114,97,100,105,97,108],.slice ro 0 rc,.slice ao 1 ac,.slice bo 0 bc⟩ 4 _ (.slice ro 0 rc) (.slice ao 1 ac) (.slice bo 0 bc) rfl w2.heap.size rfl rfl rfl HRS2 HEL (by omega) (by omega) ⟨rfl,rfl,rfl⟩ ?_;intro gg cap V hrs3 hg3)
   have hB3:=grownB HRS2.out hg3.out (by omega)
   exact (HM.out _ _).2 ⟨_,D ++ [_],by show A61 _ _ _;rw [show D.length+1=D.length+1 from rfl];rfl,hrs3.out,by rw [← HGO.out,List.map_append,HD.out];rfl,HB.out.trans ((HB2.out.mono (by omega)).trans hB3),grownK HRS2.out hg3.out (blk_keep HB2.out HE.out) (by decide),grownK HRS2.out hg3.out (blk_keep HB2.out HMO.out) (by decide)⟩
 intro a1 w1 hm
 obtain ⟨v,D,ha,hrs,hD,hb,he,hmo⟩:=(HM.out _ _).1 hm
 obtain ⟨f,rfl⟩:=ha.use
 clear HM hm M ha
 obtain ⟨l1,hl1⟩:∃ l,(l0 ++ (if md=0 then [] else [setS wMode (modes.getD md.toNat [])]))=l:=⟨_,rfl⟩
 rw [hl1] at hD
 have zl:D.length≤1:=by rw [← List.length_map (f:=Sv.s),hD,← hl1];first | (simp;done) | (rw [List.length_append];split <;> simp only [List.length_cons,List.length_nil] <;> omega)
 have zl1:l1.length≤1:=by rw [← hD,List.length_map];exact zl
 have HQl1:=Lh hl1
 clear hl1
 obtain ⟨vo,vc,rfl⟩:=hrs.form
 have HRS:=Lh hrs
 have HD:=Lh hD
 have HB:=Lh hb
 have HE:=Lh he
 have HMO:=Lh hmo
 have hlt:=blk_lt he
 have c1:w1.cell? ⟨n0,1,none⟩=some (.int .i64 ns):=by rw [blk_cell he];rfl
 clear hrs hD hb he hmo
 obtain ⟨M,HM⟩:=OprM.box w n0 #[.int .i64 md,.int .i64 ns,.int .i64 rs,.int .i64 mg,.int .i64 rd] (l1 ++ (if ns=10000 then [] else [setS wNodesep (fmtL ns)]))
 refine seq_mid M ?_ ?_
 ·by_cases g:ns=10000
  case pos =>
   have bg:(ns != 10000)=false:=by rw [g];rfl
   have hgo:l1=(l1 ++ (if ns=10000 then [] else [setS wNodesep (fmtL ns)])):=by rw [if_pos g,List.append_nil]
   have HGO:=Lh hgo
   clear g hgo
   go_wp2
   exact (HM.out _ _).2 ⟨_,D,rfl,HRS.out,by rw [← HGO.out];exact HD.out,HB.out,HE.out,HMO.out⟩
  have bg:(ns != 10000)=true:=by rw [bne_iff_ne];exact g
  have hgo:l1 ++ [setS wNodesep (fmtL ns)]=(l1 ++ (if ns=10000 then [] else [setS wNodesep (fmtL ns)])):=by rw [if_neg g]
  have HGO:=Lh hgo
  clear g hgo
  go_wp2_with fail
  refine (rfmt_of ns F1 w1 (by omega) (by omega) HF1).mono ?_
  rintro e w2 ⟨rfl,rfl⟩
  go_wp2_with fail
  refine (rset2 n0 _ F1 wNodesep (fmtL ns) _ D w1 (Lh rfl) HF1 (by decide) (Nat.le_trans (fmtL_le _ (by omega) (by omega)) (by decide)) HRS (by omega)).mono ?_
  rintro e w2 ⟨hb2,ro,rc,ao,ac,bo,bc,rfl,HEL,HRS2⟩
  have HB2:=Lh hb2
  clear hb2 c1
  have hz2:=HB2.out.size
  go_wp2_with (at_builtin;refine ls_st rfl (.tmp 22) (.tmp 27) rfl n0 _ D ⟨setS wNodesep (fmtL ns),.slice ro 0 rc,.slice ao 1 ac,.slice bo 0 bc⟩ 4 _ (.slice ro 0 rc) (.slice ao 1 ac) (.slice bo 0 bc) rfl w2.heap.size rfl rfl rfl HRS2 HEL (by omega) (by omega) ⟨rfl,rfl,rfl⟩ ?_;intro gg cap V hrs3 hg3)
  have hB3:=grownB HRS2.out hg3.out (by omega)
  exact (HM.out _ _).2 ⟨_,D ++ [_],by show A61 _ _ _;rw [show D.length+1=D.length+1 from rfl];rfl,hrs3.out,by rw [← HGO.out,List.map_append,HD.out];rfl,HB.out.trans ((HB2.out.mono (by omega)).trans hB3),grownK HRS2.out hg3.out (blk_keep HB2.out HE.out) (by decide),grownK HRS2.out hg3.out (blk_keep HB2.out HMO.out) (by decide)⟩
 intro a1 w1 hm
 obtain ⟨v,D,ha,hrs,hD,hb,he,hmo⟩:=(HM.out _ _).1 hm
 obtain ⟨f,rfl⟩:=ha.use
 clear HM hm M ha
 obtain ⟨l2,hl2⟩:∃ l,(l1 ++ (if ns=10000 then [] else [setS wNodesep (fmtL ns)]))=l:=⟨_,rfl⟩
 rw [hl2] at hD
 have zl:D.length≤2:=by rw [← List.length_map (f:=Sv.s),hD,← hl2];first | (simp;done) | (rw [List.length_append];split <;> simp only [List.length_cons,List.length_nil] <;> omega)
 have zl2:l2.length≤2:=by rw [← hD,List.length_map];exact zl
 have HQl2:=Lh hl2
 clear hl2
 obtain ⟨vo,vc,rfl⟩:=hrs.form
 have HRS:=Lh hrs
 have HD:=Lh hD
 have HB:=Lh hb
 have HE:=Lh he
 have HMO:=Lh hmo
 have hlt:=blk_lt he
 have c2:w1.cell? ⟨n0,2,none⟩=some (.int .i64 rs):=by rw [blk_cell he];rfl
 clear hrs hD hb he hmo
 obtain ⟨M,HM⟩:=OprM.box w n0 #[.int .i64 md,.int .i64 ns,.int .i64 rs,.int .i64 mg,.int .i64 rd] (l2 ++ (if rs=20000 then [] else [setS wRanksep (fmtL rs)]))
 refine seq_mid M ?_ ?_
 ·by_cases g:rs=20000
  case pos =>
   have bg:(rs != 20000)=false:=by rw [g];rfl
   have hgo:l2=(l2 ++ (if rs=20000 then [] else [setS wRanksep (fmtL rs)])):=by rw [if_pos g,List.append_nil]
   have HGO:=Lh hgo
   clear g hgo
   go_wp2
   exact (HM.out _ _).2 ⟨_,D,rfl,HRS.out,by rw [← HGO.out];exact HD.out,HB.out,HE.out,HMO.out⟩
  have bg:(rs != 20000)=true:=by rw [bne_iff_ne];exact g
  have hgo:l2 ++ [setS wRanksep (fmtL rs)]=(l2 ++ (if rs=20000 then [] else [setS wRanksep (fmtL rs)])):=by rw [if_neg g]
  have HGO:=Lh hgo
  clear g hgo
  go_wp2_with fail
  refine (rfmt_of rs F2 w1 (by omega) (by omega) HF2).mono ?_
  rintro e w2 ⟨rfl,rfl⟩
  go_wp2_with fail
  refine (rset2 n0 _ F2 wRanksep (fmtL rs) _ D w1 (Lh rfl) HF2 (by decide) (Nat.le_trans (fmtL_le _ (by omega) (by omega)) (by decide)) HRS (by omega)).mono ?_
  rintro e w2 ⟨hb2,ro,rc,ao,ac,bo,bc,rfl,HEL,HRS2⟩
  have HB2:=Lh hb2
  clear hb2 c2
  have hz2:=HB2.out.size
  go_wp2_with (at_builtin;refine ls_st rfl (.tmp 32) (.tmp 37) rfl n0 _ D ⟨setS wRanksep (fmtL rs),.slice ro 0 rc,.slice ao 1 ac,.slice bo 0 bc⟩ 4 _ (.slice ro 0 rc) (.slice ao 1 ac) (.slice bo 0 bc) rfl w2.heap.size rfl rfl rfl HRS2 HEL (by omega) (by omega) ⟨rfl,rfl,rfl⟩ ?_;intro gg cap V hrs3 hg3)
  have hB3:=grownB HRS2.out hg3.out (by omega)
  exact (HM.out _ _).2 ⟨_,D ++ [_],by show A61 _ _ _;rw [show D.length+1=D.length+1 from rfl];rfl,hrs3.out,by rw [← HGO.out,List.map_append,HD.out];rfl,HB.out.trans ((HB2.out.mono (by omega)).trans hB3),grownK HRS2.out hg3.out (blk_keep HB2.out HE.out) (by decide),grownK HRS2.out hg3.out (blk_keep HB2.out HMO.out) (by decide)⟩
 intro a1 w1 hm
 obtain ⟨v,D,ha,hrs,hD,hb,he,hmo⟩:=(HM.out _ _).1 hm
 obtain ⟨f,rfl⟩:=ha.use
 clear HM hm M ha
 obtain ⟨l3,hl3⟩:∃ l,(l2 ++ (if rs=20000 then [] else [setS wRanksep (fmtL rs)]))=l:=⟨_,rfl⟩
 rw [hl3] at hD
 have zl:D.length≤3:=by rw [← List.length_map (f:=Sv.s),hD,← hl3];first | (simp;done) | (rw [List.length_append];split <;> simp only [List.length_cons,List.length_nil] <;> omega)
 have zl3:l3.length≤3:=by rw [← hD,List.length_map];exact zl
 have HQl3:=Lh hl3
 clear hl3
 obtain ⟨vo,vc,rfl⟩:=hrs.form
 have HRS:=Lh hrs
 have HD:=Lh hD
 have HB:=Lh hb
 have HE:=Lh he
 have HMO:=Lh hmo
 have hlt:=blk_lt he
 have c3:w1.cell? ⟨n0,3,none⟩=some (.int .i64 mg):=by rw [blk_cell he];rfl
 clear hrs hD hb he hmo
 obtain ⟨M,HM⟩:=OprM.box w n0 #[.int .i64 md,.int .i64 ns,.int .i64 rs,.int .i64 mg,.int .i64 rd] (l3 ++ (if mg=5000 then [] else [setS wMargin (fmtL mg)]))
 refine seq_mid M ?_ ?_
 ·by_cases g:mg=5000
  case pos =>
   have bg:(mg != 5000)=false:=by rw [g];rfl
   have hgo:l3=(l3 ++ (if mg=5000 then [] else [setS wMargin (fmtL mg)])):=by rw [if_pos g,List.append_nil]
   have HGO:=Lh hgo
   clear g hgo
   go_wp2
   exact (HM.out _ _).2 ⟨_,D,rfl,HRS.out,by rw [← HGO.out];exact HD.out,HB.out,HE.out,HMO.out⟩
  have bg:(mg != 5000)=true:=by rw [bne_iff_ne];exact g
  have hgo:l3 ++ [setS wMargin (fmtL mg)]=(l3 ++ (if mg=5000 then [] else [setS wMargin (fmtL mg)])):=by rw [if_neg g]
  have HGO:=Lh hgo
  clear g hgo
  go_wp2_with fail
  refine (rfmt_of mg F3 w1 (by omega) (by omega) HF3).mono ?_
  rintro e w2 ⟨rfl,rfl⟩
  go_wp2_with fail
  refine (rset2 n0 _ F3 wMargin (fmtL mg) _ D w1 (Lh rfl) HF3 (by decide) (Nat.le_trans (fmtL_le _ (by omega) (by omega)) (by decide)) HRS (by omega)).mono ?_
  rintro e w2 ⟨hb2,ro,rc,ao,ac,bo,bc,rfl,HEL,HRS2⟩
  have HB2:=Lh hb2
  clear hb2 c3
  have hz2:=HB2.out.size
  go_wp2_with (at_builtin;refine ls_st rfl (.tmp 42) (.tmp 47) rfl n0 _ D ⟨setS wMargin (fmtL mg),.slice ro 0 rc,.slice ao 1 ac,.slice bo 0 bc⟩ 4 _ (.slice ro 0 rc) (.slice ao 1 ac) (.slice bo 0 bc) rfl w2.heap.size rfl rfl rfl HRS2 HEL (by omega) (by omega) ⟨rfl,rfl,rfl⟩ ?_;intro gg cap V hrs3 hg3)
  have hB3:=grownB HRS2.out hg3.out (by omega)
  exact (HM.out _ _).2 ⟨_,D ++ [_],by show A61 _ _ _;rw [show D.length+1=D.length+1 from rfl];rfl,hrs3.out,by rw [← HGO.out,List.map_append,HD.out];rfl,HB.out.trans ((HB2.out.mono (by omega)).trans hB3),grownK HRS2.out hg3.out (blk_keep HB2.out HE.out) (by decide),grownK HRS2.out hg3.out (blk_keep HB2.out HMO.out) (by decide)⟩
 intro a1 w1 hm
 obtain ⟨v,D,ha,hrs,hD,hb,he,hmo⟩:=(HM.out _ _).1 hm
 obtain ⟨f,rfl⟩:=ha.use
 clear HM hm M ha
 obtain ⟨l4,hl4⟩:∃ l,(l3 ++ (if mg=5000 then [] else [setS wMargin (fmtL mg)]))=l:=⟨_,rfl⟩
 rw [hl4] at hD
 have zl:D.length≤4:=by rw [← List.length_map (f:=Sv.s),hD,← hl4];first | (simp;done) | (rw [List.length_append];split <;> simp only [List.length_cons,List.length_nil] <;> omega)
 have zl4:l4.length≤4:=by rw [← hD,List.length_map];exact zl
 have HQl4:=Lh hl4
 clear hl4
 obtain ⟨vo,vc,rfl⟩:=hrs.form
 have HRS:=Lh hrs
 have HD:=Lh hD
 have HB:=Lh hb
 have HE:=Lh he
 have HMO:=Lh hmo
 have hlt:=blk_lt he
 have c4:w1.cell? ⟨n0,4,none⟩=some (.int .i64 rd):=by rw [blk_cell he];rfl
 have hwr:IntKind.i64.wrap (1000*rd)=1000*rd:=IntWalk.i64_in _ (by omega)
 clear hrs hD hb he hmo
 obtain ⟨M,HM⟩:=OprM.box w n0 #[.int .i64 md,.int .i64 ns,.int .i64 rs,.int .i64 mg,.int .i64 rd] (l4 ++ (if rd=8 then [] else [setS wRounds (fmtL (1000*rd))]))
 refine seq_mid M ?_ ?_
 ·by_cases g:rd=8
  case pos =>
   have bg:(rd != 8)=false:=by rw [g];rfl
   have hgo:l4=(l4 ++ (if rd=8 then [] else [setS wRounds (fmtL (1000*rd))])):=by rw [if_pos g,List.append_nil]
   have HGO:=Lh hgo
   clear g hgo
   go_wp2
   exact (HM.out _ _).2 ⟨_,D,rfl,HRS.out,by rw [← HGO.out];exact HD.out,HB.out,HE.out,HMO.out⟩
  have bg:(rd != 8)=true:=by rw [bne_iff_ne];exact g
  have hgo:l4 ++ [setS wRounds (fmtL (1000*rd))]=(l4 ++ (if rd=8 then [] else [setS wRounds (fmtL (1000*rd))])):=by rw [if_neg g]
  have HGO:=Lh hgo
  clear g hgo
  go_wp2_with fail
  refine (rfmt_of (1000*rd) F4 w1 (by omega) (by omega) HF4).mono ?_
  rintro e w2 ⟨rfl,rfl⟩
  go_wp2_with fail
  refine (rset2 n0 _ F4 wRounds (fmtL (1000*rd)) _ D w1 (Lh rfl) HF4 (by decide) (Nat.le_trans (fmtL_le _ (by omega) (by omega)) (by decide)) HRS (by omega)).mono ?_
  rintro e w2 ⟨hb2,ro,rc,ao,ac,bo,bc,rfl,HEL,HRS2⟩
  have HB2:=Lh hb2
  clear hb2 c4
  have hz2:=HB2.out.size
  go_wp2_with (at_builtin;refine ls_st rfl (.tmp 52) (.tmp 58) rfl n0 _ D ⟨setS wRounds (fmtL (1000*rd)),.slice ro 0 rc,.slice ao 1 ac,.slice bo 0 bc⟩ 4 _ (.slice ro 0 rc) (.slice ao 1 ac) (.slice bo 0 bc) rfl w2.heap.size rfl rfl rfl HRS2 HEL (by omega) (by omega) ⟨rfl,rfl,rfl⟩ ?_;intro gg cap V hrs3 hg3)
  have hB3:=grownB HRS2.out hg3.out (by omega)
  exact (HM.out _ _).2 ⟨_,D ++ [_],by show A61 _ _ _;rw [show D.length+1=D.length+1 from rfl];rfl,hrs3.out,by rw [← HGO.out,List.map_append,HD.out];rfl,HB.out.trans ((HB2.out.mono (by omega)).trans hB3),grownK HRS2.out hg3.out (blk_keep HB2.out HE.out) (by decide),grownK HRS2.out hg3.out (blk_keep HB2.out HMO.out) (by decide)⟩
 intro a1 w1 hm
 obtain ⟨v,D,ha,hrs,hD,hb,he,hmo⟩:=(HM.out _ _).1 hm
 obtain ⟨f,rfl⟩:=ha.use
 clear HM hm M ha he hmo
 have hA:D.map Sv.s=optS ⟨md,ns,rs,mg,rd⟩:=by
  rw [hD,← HQl4.out,← HQl3.out,← HQl2.out,← HQl1.out,← HQl0.out];unfold optS;simp only [List.append_assoc,List.nil_append]
 have HA:=Lh hA
 have HRS:=Lh hrs
 have HB:=Lh hb
 clear hrs hD hb hA
 go_wp2
 go_ret
 rw [HN0.out]
 exact ⟨HB.out,_,D,rfl,HRS.out,HA.out⟩
end Go.Proofs.YtgmidodmmlmmeaaGreatDoor.xpt
