/-
  The machine of the reference of layer 12 in memory: its box, its rows, what its calls leave alone. No condition.
  The landed code's way of normalization (layer 12) as plain functions: chains of refs in place of edges, a table of ends. No function of the program is named here; no condition.
  The landed code's edges (layer 12) as plain functions: the table of ends, the edges of chains, at most one too many; and that all together is the graph that the reference builds. No function of the program is named here; no condition.
  The landed code's graph (layer 12) as a plain function, and that it is the reference's. No function of the program is named here; no condition.
  Sizes of what the landed code of layer 12 makes: how many nodes, clusters and chains, and that lists of accepted attributes are short. No function of the program is named here; no condition.
  What Mode and ValidOptions of the reference of layer 12 return. No condition.
  What clamp and ValidOptions of the landed code of layer 12 return; comparisons of options and of attributes. No condition.
-/
import Derived.Test.YtgmidodmmlmmeaaGreatDoorNorPlain
import Derived.Test.YtgmidodmmlmmeaaGreatDoorMcc
namespace Go.Proofs.YtgmidodmmlmmeaaGreatDoor.nor
open Go.RowKit lex tre att
theorem heap_lt {w:World}{k:Nat}{o:Obj}(h:w.heap[k]?=some o):k < w.heap.size:=by
 rcases Nat.lt_or_ge k w.heap.size with q | q
 ·exact q
 ·rw [Array.getElem?_eq_none (by omega)] at h;cases h
theorem blk_set {W:World}{b o:Nat}{t:TypeId}{arr:Array Value}(h:blk W b t arr)(u:Value):blk (W.setCell ⟨b,o,none⟩ u) b t (arr.setIfInBounds o u):=by
 unfold blk at *
 simp only [World.setCell,Array.getElem?_modify,h]
 simp
def ndC (x:Cl):List Value:=[.string (bb x.1),.string ⟨#[]⟩,.int .i64 0,.int .i64 0,.int .i64 x.2,.slice none 0 0]
abbrev Nrow (W:World)(B:Nat)(v:Value)(l:List Cl):Prop:=W.ownsRow B 59 6 v l.length (l.flatMap ndC)
theorem row_far {W W':World}{B c n g:Nat}{t u:TypeId}{v:Value}{xs:List Value}{arr:Array Value}{fr:Nat × Nat}(h:W.ownsRow B t c v n xs)(hg:W.heap[g]?=some (.cells arr u fr))(hu:t≠u)(hf:∀ q,q < W.heap.size→q≠g→W'.heap[q]?=W.heap[q]?):W'.ownsRow B t c v n xs:=by
 refine ⟨h.1,?_⟩
 rcases h.2 with ⟨a,b⟩ | ⟨k,cap,cur,rfl,h1,h2,h3⟩
 ·exact Or.inl ⟨a,b⟩
 ·have hne:k≠g:=by
    intro e
    subst e
    rw [h2] at hg
    cases hg
    exact hu rfl
  exact Or.inr ⟨k,cap,cur,rfl,h1,by rw [hf k (heap_lt h2) hne];exact h2,h3⟩
theorem row_set {W:World}{B c n g o:Nat}{t u:TypeId}{v:Value}{xs:List Value}{arr:Array Value}(h:W.ownsRow B t c v n xs)(hg:blk W g u arr)(hu:t≠u)(y:Value):(W.setCell ⟨g,o,none⟩ y).ownsRow B t c v n xs :=
 row_far h hg hu fun _ _ hne=>Below.heap_setCell _ _ _ _ hne
theorem row_below {W W':World}{B c n:Nat}{t:TypeId}{v:Value}{xs:List Value}(h:W.ownsRow B t c v n xs)(hb:Below W.heap.size W W'):W'.ownsRow B t c v n xs:=by
 refine ⟨h.1,?_⟩
 rcases h.2 with ⟨a,b⟩ | ⟨k,cap,cur,rfl,h1,h2,h3⟩
 ·exact Or.inl ⟨a,b⟩
 ·exact Or.inr ⟨k,cap,cur,rfl,h1,by rw [hb.block k (heap_lt h2)];exact h2,h3⟩
theorem row_grown {W W':World}{B B' c c' n n':Nat}{t u:TypeId}{v v':Value}{xs ys:List Value}(h:W.ownsRow B t c v n xs)(hg:W.ownsRow B' u c' v' n' ys)(hw:W.grownBy W' v'.ownBlock)(hu:t≠u):W'.ownsRow B t c v n xs:=by
 refine ⟨h.1,?_⟩
 rcases h.2 with ⟨a,b⟩ | ⟨k,cap,cur,rfl,h1,h2,h3⟩
 ·exact Or.inl ⟨a,b⟩
 ·refine Or.inr ⟨k,cap,cur,rfl,h1,?_,h3⟩
  rw [hw.block k (heap_lt h2) ?_]
  ·exact h2
  ·intro e
   rcases hg.2 with ⟨rfl,_⟩ | ⟨k',cap',cur',rfl,_,h2',_⟩
   ·cases e
   ·obtain rfl:k=k':=Option.some.inj e
    rw [h2] at h2'
    cases h2'
    exact hu rfl
end Go.Proofs.YtgmidodmmlmmeaaGreatDoor.nor
namespace Go.Proofs.YtgmidodmmlmmeaaGreatDoor.nor
open lex tre att
structure Bs where
 ns:List Cl
 ats:List (List Pr)
 cs:List Cl
 ch:List (List Pr × List Pr)
theorem findG_ge (n:Nm):∀ (l:List gra.Nd) (i:Nat),gra.findG l n i=-1∨(i:Int)≤gra.findG l n i
 | [],_=>Or.inl rfl
 | x :: t,i=>by
  unfold gra.findG
  split
  ·exact Or.inr (Int.le_refl _)
  ·rcases findG_ge n t (i+1) with h | h
   ·exact Or.inl h
   ·exact Or.inr (by omega)
theorem chg_len:∀ (l:List (List Pr)) (i:Int) (m:List Pr),(chgA l i m).length=l.length
 | [],_,_=>rfl
 | a :: t,i,m=>by unfold chgA;rw [List.length_cons,chg_len t,List.length_cons]
def sz (s:Bs):Nat:=s.ns.length+s.cs.length+s.ch.length
end Go.Proofs.YtgmidodmmlmmeaaGreatDoor.nor
namespace Go.Proofs.YtgmidodmmlmmeaaGreatDoor.nor
open Go.RowKit lex tre att
def opV (o:Op'):Value:=.agg #[.int .i64 o.mode,.int .i64 o.ns,.int .i64 o.rs,.int .i64 o.mg,.int .i64 o.rd]
theorem guard_op:Tryz.prog.eqGuardType Tryz.prog.depth 28=false:=by kernel_rfl
theorem eql_op (u v:Op')(dq:Bool)(h:Hid (decide (u=v)=dq))(w:World):(binOp .eql 28 (.agg #[.int .i64 u.mode,.int .i64 u.ns,.int .i64 u.rs,.int .i64 u.mg,.int .i64 u.rd]) (.agg #[.int .i64 v.mode,.int .i64 v.ns,.int .i64 v.rs,.int .i64 v.mg,.int .i64 v.rd])).run Tryz.prog w=.ok (.bool dq) w:=by
 have hu:Tryz.prog.underlying 28=some (.struct (Tryz.prog.fieldsOf 28)):=by kernel_rfl
 have hp:Tryz.prog.stoodInHeld 28=false:=by kernel_rfl
 obtain ⟨a0,a1,a2,a3,a4⟩:=u
 obtain ⟨c0,c1,c2,c3,c4⟩:=v
 simp only [Op'.mk.injEq] at h
 rw [run_eql_struct,run_equalIn_agg w 9999 _ _ _ hu hp,← h.out]
 by_cases h0:a0=c0 <;> by_cases h1:a1=c1 <;> by_cases h2:a2=c2 <;> by_cases h3:a3=c3 <;> by_cases h4:a4=c4 <;> simp [go_sem,Op.eqFields,Program.fieldsOf,Tryz.underlying28,Tryz.underlying3,h0,h1,h2,h3,h4]
set_option maxRecDepth 100000 in
theorem clamp_of (n m:Int)(w:World):Calls Tryz.prog 64 #[.int .i64 n,.int .i64 m] w fun e w'=>e=.returned (.int .i64 (min (max n 0) m))∧w'=w:=by
 go_enter Tryz.func64,Tryz.ntmps64
 go_wp2
 go_ret
 exact ⟨rfl,rfl⟩
abbrev at5 (W:World)(b:Nat)(o:Op'):Prop:=W.cell? ⟨b,0,none⟩=some (.int .i64 o.mode)∧W.cell? ⟨b,1,none⟩=some (.int .i64 o.ns)∧W.cell? ⟨b,2,none⟩=some (.int .i64 o.rs)∧W.cell? ⟨b,3,none⟩=some (.int .i64 o.mg)∧W.cell? ⟨b,4,none⟩=some (.int .i64 o.rd)
theorem at5_new (w:World)(o:Op')(t:TypeId):at5 (w.alloc (.cells #[.int .i64 o.mode,.int .i64 o.ns,.int .i64 o.rs,.int .i64 o.mg,.int .i64 o.rd] t)) w.heap.size o:=by
 refine ⟨?_,?_,?_,?_,?_⟩ <;> go_simp
def nearO (o:Op'):Op':=⟨min (max o.mode 0) 4,min (max o.ns 0) 1048576,min (max o.rs 0) 1048576,min (max o.mg 0) 1048576,min (max o.rd 0) 100⟩
theorem near_ok (o:Op'):decide (o=nearO o)=okO o:=by
 obtain ⟨a,b,c,d,e⟩:=o
 rw [Bool.eq_iff_iff,decide_eq_true_eq]
 unfold nearO okO rng
 simp only [Op'.mk.injEq,Bool.and_eq_true,decide_eq_true_eq]
 omega
theorem o_drew {a W:World}{b:Nat}{o:Op'}(h:Below a.heap.size a W∧at5 W b o):Below a.heap.size a W.drew∧at5 W.drew b o:=⟨h.1.drew,h.2⟩
theorem o_alloc {a W:World}{b:Nat}{o:Op'}{x:Obj}(h:Below a.heap.size a W∧at5 W b o):Below a.heap.size a (W.alloc x)∧at5 (W.alloc x) b o :=
 ⟨h.1.alloc h.1.size x,cell_later' (al1 ..) h.2.1,cell_later' (al1 ..) h.2.2.1,cell_later' (al1 ..) h.2.2.2.1,cell_later' (al1 ..) h.2.2.2.2.1,cell_later' (al1 ..) h.2.2.2.2.2⟩
set_option maxRecDepth 100000 in
set_option maxHeartbeats 1000000 in
theorem valido_of (o:Op')(b:Bool)(w:World)(h:Hid (okO o=b)) :
    Calls Tryz.prog 26 #[opV o] w fun e w'=>e=.returned (.bool b)∧Below w.heap.size w w':=by
 have hb1:=Lh (al1 w (.cells #[.int .i64 o.mode,.int .i64 o.ns,.int .i64 o.rs,.int .i64 o.mg,.int .i64 o.rd] 28))
 have h5:=at5_new w o 28
 have heq:=eql_op o (nearO o) b (Lh (by rw [near_ok];exact h.out))
 have hgo:=guard_op
 show Calls Tryz.prog 26 #[.agg #[.int .i64 o.mode,.int .i64 o.ns,.int .i64 o.rs,.int .i64 o.mg,.int .i64 o.rd]] w _
 go_enter Tryz.func26,Tryz.ntmps26
 go_wp2_with fail
 generalize w.alloc (.cells #[.int .i64 o.mode,.int .i64 o.ns,.int .i64 o.rs,.int .i64 o.mg,.int .i64 o.rd] 28)=w1 at *
 have hP0:Below w1.heap.size w1 w1∧at5 w1 w.heap.size o:=⟨Below.refl _ _,h5⟩
 go_region_held3 (fun w'=>Below w1.heap.size w1 w'∧at5 w' w.heap.size o)
  (repeat (first | assumption | (with_reducible refine o_drew ?_) | (with_reducible refine o_alloc ?_)))
  (first
  | (go_at_call 64;refine (clamp_of _ _ _).mono ?_;rintro e w6 ⟨rfl,rfl⟩;have hP:True:=trivial))
 all_goals
  have hn5:=o_alloc (x:=.cells #[.int .i64 (nearO o).mode,.int .i64 (nearO o).ns,.int .i64 (nearO o).rs,.int .i64 (nearO o).mg,.int .i64 (nearO o).rd] 28) hP0
  have hq5:=at5_new w1 (nearO o) 28
  obtain ⟨hbn,n0,n1,n2,n3,n4⟩:=hn5
  obtain ⟨q0,q1,q2,q3,q4⟩:=hq5
  unfold nearO at n0 n1 n2 n3 n4 q0 q1 q2 q3 q4 hbn heq
  simp only at n0 n1 n2 n3 n4 q0 q1 q2 q3 q4 hbn heq
  generalize w1.alloc (.cells #[.int .i64 (min (max o.mode 0) 4),.int .i64 (min (max o.ns 0) 1048576),.int .i64 (min (max o.rs 0) 1048576),.int .i64 (min (max o.mg 0) 1048576),.int .i64 (min (max o.rd 0) 100)] 28)=w2 at *
  have HB2:=Lh (below_keep hbn hb1.out)
  have m0:w2.drew.cell? ⟨w.heap.size,0,none⟩=some (.int .i64 o.mode):=n0
  have m1:w2.drew.cell? ⟨w.heap.size,1,none⟩=some (.int .i64 o.ns):=n1
  have m2:w2.drew.cell? ⟨w.heap.size,2,none⟩=some (.int .i64 o.rs):=n2
  have m3:w2.drew.cell? ⟨w.heap.size,3,none⟩=some (.int .i64 o.mg):=n3
  have m4:w2.drew.cell? ⟨w.heap.size,4,none⟩=some (.int .i64 o.rd):=n4
  have l0:w2.drew.cell? ⟨w1.heap.size,0,none⟩=some (.int .i64 (min (max o.mode 0) 4)):=q0
  have l1:w2.drew.cell? ⟨w1.heap.size,1,none⟩=some (.int .i64 (min (max o.ns 0) 1048576)):=q1
  have l2:w2.drew.cell? ⟨w1.heap.size,2,none⟩=some (.int .i64 (min (max o.rs 0) 1048576)):=q2
  have l3:w2.drew.cell? ⟨w1.heap.size,3,none⟩=some (.int .i64 (min (max o.mg 0) 1048576)):=q3
  have l4:w2.drew.cell? ⟨w1.heap.size,4,none⟩=some (.int .i64 (min (max o.rd 0) 100)):=q4
  clear n0 n1 n2 n3 n4 q0 q1 q2 q3 q4 hbn hP0 h5
  go_wp2
  go_ret
  exact ⟨rfl,HB2.out.drew⟩
end Go.Proofs.YtgmidodmmlmmeaaGreatDoor.nor
