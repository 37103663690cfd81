/-
  The landed code's graph (layer 12) as a plain function, and that it is the reference's. No function of the program is named here; no condition.
  Sizes of what the landed code of layer 12 makes: how many nodes, clusters and chains, and that lists of accepted attributes are short. No function of the program is named here; no condition.
  What Mode and ValidOptions of the reference of layer 12 return. No condition.
  What clamp and ValidOptions of the landed code of layer 12 return; comparisons of options and of attributes. No condition.
-/
import Derived.Test.YtgmidodmmlmmeaaGreatDoorMnb
import Derived.Test.YtgmidodmmlmmeaaGreatDoorMcd
namespace Go.Proofs.YtgmidodmmlmmeaaGreatDoor.nor
open lex tre att
theorem chg_len:∀ (l:List (List Pr)) (i:Int) (m:List Pr),(chgA l i m).length=l.length
 | [],_,_=>rfl
 | a :: t,i,m=>by unfold chgA;rw [List.length_cons,chg_len t,List.length_cons]
def sz (s:Bs):Nat:=s.ns.length+s.cs.length+s.ch.length
end Go.Proofs.YtgmidodmmlmmeaaGreatDoor.nor
namespace Go.Proofs.YtgmidodmmlmmeaaGreatDoor.nor
open Go.RowKit lex tre att
def opV (o:Op'):Value:=.agg #[.int .i64 o.mode,.int .i64 o.ns,.int .i64 o.rs,.int .i64 o.mg,.int .i64 o.rd]
set_option maxRecDepth 100000 in
set_option maxHeartbeats 8000000 in
theorem rvalido_of (o:Op')(b:Bool)(w:World)(h:Hid (okO o=b)) :
    Calls Tryz.prog 34 #[opV o] w fun e w'=>e=.returned (.bool b)∧Below w.heap.size w w':=by
 obtain ⟨m,n,r,g,d⟩:=o
 have hb:=h.out
 unfold okO rng at hb
 simp only at hb
 have HB:=Lh (al1 w (.cells #[.int .i64 m,.int .i64 n,.int .i64 r,.int .i64 g,.int .i64 d] 28))
 show Calls Tryz.prog 34 #[.agg #[.int .i64 m,.int .i64 n,.int .i64 r,.int .i64 g,.int .i64 d]] w _
 clear h
 by_cases q0:0≤m
 case neg =>
  obtain rfl:false=b:=by rw [← hb];simp [q0]
  clear hb
  go_enter Tryz.func34,Tryz.ntmps34
  go_wp2
  go_ret
  exact ⟨rfl,HB.out⟩
 by_cases q1:m≤4
 case neg =>
  obtain rfl:false=b:=by rw [← hb];simp [q1]
  clear hb
  go_enter Tryz.func34,Tryz.ntmps34
  go_wp2
  go_ret
  exact ⟨rfl,HB.out⟩
 by_cases q2:0≤n
 case neg =>
  obtain rfl:false=b:=by rw [← hb];simp [q2]
  clear hb
  go_enter Tryz.func34,Tryz.ntmps34
  go_wp2
  go_ret
  exact ⟨rfl,HB.out⟩
 by_cases q3:n≤1048576
 case neg =>
  obtain rfl:false=b:=by rw [← hb];simp [q3]
  clear hb
  go_enter Tryz.func34,Tryz.ntmps34
  go_wp2
  go_ret
  exact ⟨rfl,HB.out⟩
 by_cases q4:0≤r
 case neg =>
  obtain rfl:false=b:=by rw [← hb];simp [q4]
  clear hb
  go_enter Tryz.func34,Tryz.ntmps34
  go_wp2
  go_ret
  exact ⟨rfl,HB.out⟩
 by_cases q5:r≤1048576
 case neg =>
  obtain rfl:false=b:=by rw [← hb];simp [q5]
  clear hb
  go_enter Tryz.func34,Tryz.ntmps34
  go_wp2
  go_ret
  exact ⟨rfl,HB.out⟩
 by_cases q6:0≤g
 case neg =>
  obtain rfl:false=b:=by rw [← hb];simp [q6]
  clear hb
  go_enter Tryz.func34,Tryz.ntmps34
  go_wp2
  go_ret
  exact ⟨rfl,HB.out⟩
 by_cases q7:g≤1048576
 case neg =>
  obtain rfl:false=b:=by rw [← hb];simp [q7]
  clear hb
  go_enter Tryz.func34,Tryz.ntmps34
  go_wp2
  go_ret
  exact ⟨rfl,HB.out⟩
 by_cases q8:0≤d
 case neg =>
  obtain rfl:false=b:=by rw [← hb];simp [q8]
  clear hb
  go_enter Tryz.func34,Tryz.ntmps34
  go_wp2
  go_ret
  exact ⟨rfl,HB.out⟩
 by_cases q9:d≤100
 case neg =>
  obtain rfl:false=b:=by rw [← hb];simp [q9]
  clear hb
  go_enter Tryz.func34,Tryz.ntmps34
  go_wp2
  go_ret
  exact ⟨rfl,HB.out⟩
 obtain rfl:true=b:=by rw [← hb];simp [q0,q1,q2,q3,q4,q5,q6,q7,q8,q9]
 clear hb
 go_enter Tryz.func34,Tryz.ntmps34
 go_wp2
 go_ret
 exact ⟨rfl,HB.out⟩
theorem guard_op:Tryz.prog.eqGuardType Tryz.prog.depth 28=false:=by kernel_rfl
theorem eql_op (u v:Op')(dq:Bool)(h:Hid (decide (u=v)=dq))(w:World):(binOp .eql 28 (.agg #[.int .i64 u.mode,.int .i64 u.ns,.int .i64 u.rs,.int .i64 u.mg,.int .i64 u.rd]) (.agg #[.int .i64 v.mode,.int .i64 v.ns,.int .i64 v.rs,.int .i64 v.mg,.int .i64 v.rd])).run Tryz.prog w=.ok (.bool dq) w:=by
 have hu:Tryz.prog.underlying 28=some (.struct (Tryz.prog.fieldsOf 28)):=by kernel_rfl
 have hp:Tryz.prog.stoodInHeld 28=false:=by kernel_rfl
 obtain ⟨a0,a1,a2,a3,a4⟩:=u
 obtain ⟨c0,c1,c2,c3,c4⟩:=v
 simp only [Op'.mk.injEq] at h
 rw [run_eql_struct,run_equalIn_agg w 9999 _ _ _ hu hp,← h.out]
 by_cases h0:a0=c0 <;> by_cases h1:a1=c1 <;> by_cases h2:a2=c2 <;> by_cases h3:a3=c3 <;> by_cases h4:a4=c4 <;> simp [go_sem,Op.eqFields,Program.fieldsOf,Tryz.underlying28,Tryz.underlying3,h0,h1,h2,h3,h4]
set_option maxRecDepth 100000 in
theorem clamp_of (n m:Int)(w:World):Calls Tryz.prog 64 #[.int .i64 n,.int .i64 m] w fun e w'=>e=.returned (.int .i64 (min (max n 0) m))∧w'=w:=by
 go_enter Tryz.func64,Tryz.ntmps64
 go_wp2
 go_ret
 exact ⟨rfl,rfl⟩
abbrev at5 (W:World)(b:Nat)(o:Op'):Prop:=W.cell? ⟨b,0,none⟩=some (.int .i64 o.mode)∧W.cell? ⟨b,1,none⟩=some (.int .i64 o.ns)∧W.cell? ⟨b,2,none⟩=some (.int .i64 o.rs)∧W.cell? ⟨b,3,none⟩=some (.int .i64 o.mg)∧W.cell? ⟨b,4,none⟩=some (.int .i64 o.rd)
theorem at5_new (w:World)(o:Op')(t:TypeId):at5 (w.alloc (.cells #[.int .i64 o.mode,.int .i64 o.ns,.int .i64 o.rs,.int .i64 o.mg,.int .i64 o.rd] t)) w.heap.size o:=by
 refine ⟨?_,?_,?_,?_,?_⟩ <;> go_simp
def nearO (o:Op'):Op':=⟨min (max o.mode 0) 4,min (max o.ns 0) 1048576,min (max o.rs 0) 1048576,min (max o.mg 0) 1048576,min (max o.rd 0) 100⟩
theorem near_ok (o:Op'):decide (o=nearO o)=okO o:=by
 obtain ⟨a,b,c,d,e⟩:=o
 rw [Bool.eq_iff_iff,decide_eq_true_eq]
 unfold nearO okO rng
 simp only [Op'.mk.injEq,Bool.and_eq_true,decide_eq_true_eq]
 omega
theorem o_drew {a W:World}{b:Nat}{o:Op'}(h:Below a.heap.size a W∧at5 W b o):Below a.heap.size a W.drew∧at5 W.drew b o:=⟨h.1.drew,h.2⟩
theorem o_alloc {a W:World}{b:Nat}{o:Op'}{x:Obj}(h:Below a.heap.size a W∧at5 W b o):Below a.heap.size a (W.alloc x)∧at5 (W.alloc x) b o :=
 ⟨h.1.alloc h.1.size x,cell_later' (al1 ..) h.2.1,cell_later' (al1 ..) h.2.2.1,cell_later' (al1 ..) h.2.2.2.1,cell_later' (al1 ..) h.2.2.2.2.1,cell_later' (al1 ..) h.2.2.2.2.2⟩
set_option maxRecDepth 100000 in
set_option maxHeartbeats 1000000 in
theorem valido_of (o:Op')(b:Bool)(w:World)(h:Hid (okO o=b)) :
    Calls Tryz.prog 26 #[opV o] w fun e w'=>e=.returned (.bool b)∧Below w.heap.size w w':=by
 have hb1:=Lh (al1 w (.cells #[.int .i64 o.mode,.int .i64 o.ns,.int .i64 o.rs,.int .i64 o.mg,.int .i64 o.rd] 28))
 have h5:=at5_new w o 28
 have heq:=eql_op o (nearO o) b (Lh (by rw [near_ok];exact h.out))
 have hgo:=guard_op
 show Calls Tryz.prog 26 #[.agg #[.int .i64 o.mode,.int .i64 o.ns,.int .i64 o.rs,.int .i64 o.mg,.int .i64 o.rd]] w _
 go_enter Tryz.func26,Tryz.ntmps26
 go_wp2_with fail
 generalize w.alloc (.cells #[.int .i64 o.mode,.int .i64 o.ns,.int .i64 o.rs,.int .i64 o.mg,.int .i64 o.rd] 28)=w1 at *
 have hP0:Below w1.heap.size w1 w1∧at5 w1 w.heap.size o:=⟨Below.refl _ _,h5⟩
 go_region_held3 (fun w'=>Below w1.heap.size w1 w'∧at5 w' w.heap.size o)
  (repeat (first | assumption | (with_reducible refine o_drew ?_) | (with_reducible refine o_alloc ?_)))
  (first
  | (go_at_call 64;refine (clamp_of _ _ _).mono ?_;rintro e w6 ⟨rfl,rfl⟩;have hP:True:=trivial))
 all_goals
  have hn5:=o_alloc (x:=.cells #[.int .i64 (nearO o).mode,.int .i64 (nearO o).ns,.int .i64 (nearO o).rs,.int .i64 (nearO o).mg,.int .i64 (nearO o).rd] 28) hP0
  have hq5:=at5_new w1 (nearO o) 28
  obtain ⟨hbn,n0,n1,n2,n3,n4⟩:=hn5
  obtain ⟨q0,q1,q2,q3,q4⟩:=hq5
  unfold nearO at n0 n1 n2 n3 n4 q0 q1 q2 q3 q4 hbn heq
  simp only at n0 n1 n2 n3 n4 q0 q1 q2 q3 q4 hbn heq
  generalize w1.alloc (.cells #[.int .i64 (min (max o.mode 0) 4),.int .i64 (min (max o.ns 0) 1048576),.int .i64 (min (max o.rs 0) 1048576),.int .i64 (min (max o.mg 0) 1048576),.int .i64 (min (max o.rd 0) 100)] 28)=w2 at *
  have HB2:=Lh (below_keep hbn hb1.out)
  have m0:w2.drew.cell? ⟨w.heap.size,0,none⟩=some (.int .i64 o.mode):=n0
  have m1:w2.drew.cell? ⟨w.heap.size,1,none⟩=some (.int .i64 o.ns):=n1
  have m2:w2.drew.cell? ⟨w.heap.size,2,none⟩=some (.int .i64 o.rs):=n2
  have m3:w2.drew.cell? ⟨w.heap.size,3,none⟩=some (.int .i64 o.mg):=n3
  have m4:w2.drew.cell? ⟨w.heap.size,4,none⟩=some (.int .i64 o.rd):=n4
  have l0:w2.drew.cell? ⟨w1.heap.size,0,none⟩=some (.int .i64 (min (max o.mode 0) 4)):=q0
  have l1:w2.drew.cell? ⟨w1.heap.size,1,none⟩=some (.int .i64 (min (max o.ns 0) 1048576)):=q1
  have l2:w2.drew.cell? ⟨w1.heap.size,2,none⟩=some (.int .i64 (min (max o.rs 0) 1048576)):=q2
  have l3:w2.drew.cell? ⟨w1.heap.size,3,none⟩=some (.int .i64 (min (max o.mg 0) 1048576)):=q3
  have l4:w2.drew.cell? ⟨w1.heap.size,4,none⟩=some (.int .i64 (min (max o.rd 0) 100)):=q4
  clear n0 n1 n2 n3 n4 q0 q1 q2 q3 q4 hbn hP0 h5
  go_wp2
  go_ret
  exact ⟨rfl,HB2.out.drew⟩
end Go.Proofs.YtgmidodmmlmmeaaGreatDoor.nor
