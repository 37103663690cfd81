/-
  What the landed export's collector of attributes does (layer 13): text adds one unless its value is what holds without it; number likewise. Conditions: the collector's box in memory; the table of powers for number.
  A row of statements that is being made: it grows by a statement that a call returned, or by a list of them (layer 13). Conditions: as each theorem states them.
  A list of statements behind a row of statements (layer 13). Conditions: as each theorem states them.
  What contains of the reference of layer 13 returns: whether the next node lies in a cluster, or the cluster holds no node. Condition: a valid graph; the writer's box in memory.
  What ref of the reference of layer 13 returns: a node's name, and the name of a port of it. Condition: a node by value, its ports in memory; the port is one of them, or below zero.
  What node of the reference of layer 13 returns: the statement of a node. Condition: a valid node by value, its ports in memory.
  What edge of the reference of layer 13 returns: the statement of an edge. Condition: an edge of a valid graph, by value, the graph in memory.
  What block of the reference of layer 13 does: it writes the statements of a block, and the writer counts on. Conditions: a valid graph, the writer's box in memory.
  What options of the reference of layer 13 returns: the statements of the options that need one. Condition: valid options.
  What Tree of the reference of layer 13 returns: the tree that describes a graph and options, or the error. Condition: a graph in memory.
  What settings of the landed export returns (layer 13): the statements of the options that need one. Conditions: valid options, the table of powers.
-/
import Derived.Test.YtgmidodmmlmmeaaGreatDoorMeb
import Derived.Test.YtgmidodmmlmmeaaGreatDoorMce
import Derived.Test.YtgmidodmmlmmeaaGreatDoorMgb
namespace Go.Proofs.YtgmidodmmlmmeaaGreatDoor.xpt
open Go.RowKit lex tre att nor
def NB (B:Nat)(W:World)(b:Nat)(k:Int)(l:List Pr):Prop:=∃ ao ac,blk W b 132 #[.int .i64 k,.slice ao l.length ac]∧W.ownsRow B 69 2 (.slice ao l.length ac) l.length (l.flatMap prC)
theorem NB.below {B:Nat}{W W':World}{b:Nat}{k:Int}{l:List Pr}(h:NB B W b k l)(hb:Below W.heap.size W W'):NB B W' b k l:=by
 obtain ⟨ao,ac,h1,h2⟩:=h;exact ⟨ao,ac,blk_keep hb h1,row_below h2 hb⟩
theorem NB.new {B:Nat}(W:World)(k:Int):NB B (W.alloc (.cells #[.int .i64 k,.slice none 0 0] 132)) W.heap.size k []:=⟨none,0,blk_new ..,World.ownsRow_nil ..⟩
def KpN (B b:Nat)(w w':World):Prop:=Below B w w'∧∀ g t arr,blk w g t arr→t≠69→g≠b→blk w' g t arr
theorem KpN.refl (B b:Nat)(w:World):KpN B b w w:=⟨Below.refl _ _,fun _ _ _ h _ _=>h⟩
theorem KpN.trans {B b:Nat}{u v w:World}(h:KpN B b u v)(k:KpN B b v w):KpN B b u w:=⟨h.1.trans k.1,fun g t arr q e n=>k.2 g t arr (h.2 g t arr q e n) e n⟩
theorem KpN.below {B b:Nat}{u v:World}(h:Below u.heap.size u v)(hB:B≤u.heap.size):KpN B b u v:=⟨h.mono hB,fun _ _ _ q _ _=>blk_keep h q⟩
theorem str_eq {a b:List UInt8}{x y:ByteArray}(h:bb a=x)(k:bb b=y):(x.toList == y.toList)=decide (a=b):=by
 rw [← h,← k,Bool.eq_iff_iff,beq_iff_eq,decide_eq_true_eq,ByteArray.toList_eq,ByteArray.toList_eq]
set_option maxRecDepth 100000 in
set_option maxHeartbeats 2000000 in
theorem ctext_of (B b:Nat)(k:Int)(l:List Pr)(key val wo:ByteArray)(kk vv oo:List UInt8)(w:World)(h:Hid (NB B w b k l))(hk:Hid (bb kk=key))(hv:Hid (bb vv=val))(ho:Hid (bb oo=wo))(hB:B≤b)(hl:l.length≤1000) :
    Calls Tryz.prog 68 #[.pointer (some ⟨b,0,none⟩),.string key,.string val,.string wo] w fun e w'=>e=.returned (.tuple #[])∧NB B w' b k (addT l kk vv oo)∧KpN B b w w':=by
 obtain ⟨ao,ac,hb,hrow⟩:=id h.out
 have HE:=Lh (str_eq hv.out ho.out)
 by_cases g:vv=oo
 ·have bg:(val.toList == wo.toList)=true:=by rw [HE.out,decide_eq_true g]
  have HA:Hid (addT l kk vv oo=l):=Lh (by unfold addT;rw [if_pos g])
  clear HE g hb hrow
  go_enter Tryz.func68,Tryz.ntmps68
  go_wp2
  refine ⟨rfl,Value.tuple #[],(by simp [results,go_sem,Tryz.results68]),?_⟩
  exact ⟨rfl,by rw [HA.out];exact h.out,KpN.refl _ _ _⟩
 ·have bg:(val.toList == wo.toList)=false:=by rw [HE.out,decide_eq_false g]
  have HA:Hid (addT l kk vv oo=l ++ [(kk,vv)]):=Lh (by unfold addT;rw [if_neg g])
  have HR:=Lh hrow
  have HB:=Lh hb
  have c1:w.cell? ⟨b,1,none⟩=some (.slice ao l.length ac):=by rw [blk_cell hb];rfl
  have hlt:=blk_lt hb
  have HX:Hid (prC (kk,vv)=[.string key,.string val]):=Lh (by rw [← hk.out,← hv.out];rfl)
  clear HE g hb hrow
  go_enter Tryz.func68,Tryz.ntmps68
  go_wp2_with (at_builtin;refine ls_pr Tryz.underlying65 info_of_cla rfl (.tmp 15) (.tmp 19) rfl B _ _ l (kk,vv) key val HX.out w.heap.size rfl rfl (Lh (row_below HR.out (al1 ..))) (Lh (blk_new ..)) (by omega) (by simp;omega) ?_;intro gg cap V hown hkp;have hbv:=Lh (al1 w (.cells #[.string key,.string val] 69));have hN2:=hkp.out.2 _ _ _ (blk_keep hbv.out HB.out) (by decide);have fz2:V.frozen? ⟨b,1,none⟩=false:=blk_free hN2;have d2:V.cell? ⟨b,1,none⟩=some (.slice ao l.length ac):=(by rw [blk_cell hN2];rfl);clear hN2)
  refine ⟨rfl,Value.tuple #[],(by simp [results,go_sem,Tryz.results68]),?_⟩
  have hN2:=hkp.out.2 _ _ _ (blk_keep hbv.out HB.out) (by decide)
  refine ⟨rfl,?_,?_⟩
  ·rw [HA.out]
   refine ⟨some ⟨gg,0,none⟩,cap,?_,?_⟩
   ·have:=blk_set (o:=1) hN2 (.slice (some ⟨gg,0,none⟩) (l.length+1) cap)
    rw [List.length_append];exact this
   ·have:=row_set (o:=1) hown.out hN2 (by decide) (.slice (some ⟨gg,0,none⟩) (l.length+1) cap)
    rw [List.length_append] at this ⊢;exact this
  ·exact ⟨((hbv.out.mono (by omega)).trans hkp.out.1).setCell hB _,fun g t arr q e n=>blk_far (hkp.out.2 _ _ _ (blk_keep hbv.out q) e) n _⟩
set_option maxRecDepth 100000 in
set_option maxHeartbeats 2000000 in
theorem cnumb_of (B b:Nat)(k:Int)(l:List Pr)(key:ByteArray)(kk:List UInt8)(n un d:Int)(w:World)(h:Hid (NB B w b k l))(htb:Hid (Tab w))(hk:Hid (bb kk=key))(hks:key.size≤100)(hd:Hid (numL k [] kk=d))(hB:B≤b)(hl:l.length≤1000)(h0:-268435456≤n*un∧n*un≤268435456)(h1:-268435456≤d*un∧d*un≤268435456) :
    Calls Tryz.prog 70 #[.pointer (some ⟨b,0,none⟩),.string key,.int .i64 n,.int .i64 un] w fun e w'=>e=.returned (.tuple #[])∧NB B w' b k (addT l kk (fmtL (n*un)) (fmtL (d*un)))∧KpN B b w w':=by
 obtain ⟨ao,ac,hb,hrow⟩:=id h.out
 have c0:w.cell? ⟨b,0,none⟩=some (.int .i64 k):=by rw [blk_cell hb];rfl
 have hlt:=blk_lt hb
 have hwr:IntKind.i64.wrap (n*un)=n*un:=IntWalk.i64_in _ (by omega)
 have hwd:IntKind.i64.wrap (d*un)=d*un:=IntWalk.i64_in _ (by omega)
 have HD:Hid (numL k [] key.data.toList=d):=Lh (by rw [← hk.out];exact hd.out)
 have hms:key.size≤maxLen:=Nat.le_trans hks (by decide)
 clear hb hrow
 go_enter Tryz.func70,Tryz.ntmps70
 go_wp2_with fail
 refine (num10_of k (.slice none 0 0) [] key d w (Lh (Prs.nil w)) (by decide) hms HD).mono ?_
 rintro e w1 ⟨rfl,hb1⟩
 have HB1:=Lh hb1
 clear hb1 c0
 go_wp2_with fail
 refine (format_any (n*un) w1 (by omega) (by omega) (tab_below htb.out HB1.out)).mono ?_
 rintro e w2 ⟨rfl,hb2⟩
 have HB2:=Lh (below_keep hb2 HB1.out)
 clear hb2 HB1
 go_wp2_with fail
 refine (format_any (d*un) w2 (by omega) (by omega) (tab_below htb.out HB2.out)).mono ?_
 rintro e w3 ⟨rfl,hb3⟩
 have HB3:=Lh (below_keep hb3 HB2.out)
 clear hb3 HB2
 go_wp2_with fail
 refine (ctext_of B b k l key ⟨(fmtL (n*un)).toArray⟩ ⟨(fmtL (d*un)).toArray⟩ kk (fmtL (n*un)) (fmtL (d*un)) w3 (Lh (h.out.below HB3.out)) hk (Lh rfl) (Lh rfl) hB hl).mono ?_
 rintro e w4 ⟨rfl,hn4,hk4⟩
 have HN:=Lh hn4
 have HK:=Lh ((KpN.below (b:=b) HB3.out (by omega)).trans hk4)
 clear hn4 hk4
 go_wp2
 refine ⟨rfl,Value.tuple #[],(by simp [results,go_sem,Tryz.results70]),?_⟩
 exact ⟨rfl,HN.out,HK.out⟩
def RS (B:Nat)(W:World)(v:Value)(D:List Sv):Prop:=W.ownsRow B 67 5 v D.length (D.flatMap svC)∧∀ x∈D,elS B W v.ownBlock x
theorem RS.nil (B:Nat)(W:World):RS B W (.slice none 0 0) []:=⟨World.ownsRow_nil ..,fun x hx=>by cases hx⟩
theorem RS.form {B:Nat}{W:World}{v:Value}{D:List Sv}(h:RS B W v D):∃ ao cap,v=.slice ao D.length cap:=by
 obtain ⟨ao,cap,e,-,-⟩:=own_form h.1;exact ⟨ao,cap,e⟩
theorem elS.below {lo0:Nat}{w w':World}{ob:Option Nat}{x:Sv}(h:elS lo0 w ob x)(hb:Below w.heap.size w w'):elS lo0 w' ob x:=by
 obtain ⟨lo,hi,h1,h2,h3,h4⟩:=h
 exact ⟨lo,hi,h1,Nat.le_trans h2 hb.size,h3,fun W hW=>h4 W fun q q1 q2=>by rw [hW q q1 q2];exact hb.block q (by omega)⟩
theorem RS.below {B:Nat}{W W':World}{v:Value}{D:List Sv}(h:RS B W v D)(hb:Below W.heap.size W W'):RS B W' v D:=⟨row_below h.1 hb,fun x hx=>(h.2 x hx).below hb⟩
theorem RS.pk {B R:Nat}{W W':World}{v:Value}{D:List Sv}(h:RS B W v D)(hb:Pk R W W')(hR:R < B):RS B W' v D:=⟨hb.own hR h.1,fun x hx=>(h.2 x hx).later hb hR⟩
theorem RS.lt {B:Nat}{W:World}{v:Value}{D:List Sv}(h:RS B W v D):∀ q,v.ownBlock=some q→B≤q∧q < W.heap.size:=fun q e=>World.ownsRow.lt h.1 q e
theorem VSt.el {B:Nat}{W W':World}{v y:Value}{D:List Sv}{s:St}(h:VSt s W W' y)(hr:RS B W v D)(hB:B≤W.heap.size) :
    ∃ ro rc ao ac bo bc,y=.agg #[.int .i64 s.kind,.string (bb s.name),.slice ro s.refs.length rc,.slice ao s.attrs.length ac,.slice bo s.body.length bc]∧elS B W' v.ownBlock ⟨s,.slice ro s.refs.length rc,.slice ao s.attrs.length ac,.slice bo s.body.length bc⟩:=by
 obtain ⟨ro,rc,ao,ac,bo,bc,e,hW⟩:=h
 exact ⟨ro,rc,ao,ac,bo,bc,e,W.heap.size,W'.heap.size,hB,Nat.le_refl _,fun q hq h2=>by have:=hr.lt q hq;omega,hW⟩
theorem RS.app {B g cap:Nat}{w w':World}{v:Value}{D:List Sv}{x:Sv}(h:RS B w v D)(hx:elS B w v.ownBlock x)(ho:w'.ownsRow B 67 5 (.slice (some ⟨g,0,none⟩) (D.length+1) cap) (D ++ [x]).length ((D ++ [x]).flatMap svC))(hg:w.grownBy w' v.ownBlock)(hat:v.ownBlock=some g∨w.heap.size≤g):RS B w' (.slice (some ⟨g,0,none⟩) (D.length+1) cap) (D ++ [x]) :=
 ⟨ho,fun y hy=>by
  rcases List.mem_append.1 hy with q | q
  ·exact (h.2 y q).app hg hat hg.size
  ·rw [List.mem_singleton.1 q];exact hx.app hg hat hg.size⟩
theorem ls_st {w:World}{ops:Array Oper}{rest:List Oper}{o:Oper}{a:Act}{Q:Exit→Act→World→Prop}(hg:o.guard=none)(p y:Operand)(ho:o.op=.call { callee:=.builtin .append,args:=#[p,y],argTypes:=#[31,31] })
    (B:Nat) (v:Value) (D:List Sv) (x:Sv) (k:Int) (n:ByteArray) (rv av bv:Value) (ex:svC x=[.int .i64 k,.string n,rv,av,bv]) (H:Nat) (hH:w.heap.size=H) (hs:a.eval p=v) (hx:a.eval y=.slice (some ⟨H,0,none⟩) 1 1) (h:Hid (RS B w v D)) (he:Hid (elS B w v.ownBlock x)) (hl:D.length≤1000000) (hB:B≤w.heap.size) (h1:rv.oneCell'=true∧av.oneCell'=true∧bv.oneCell'=true)
    (hK:∀ g cap w',Hid (RS B w' (.slice (some ⟨g,0,none⟩) (D.length+1) cap) (D ++ [x]))→Hid (w.grownBy w' v.ownBlock)→wpList Tryz.prog ops Q rest (a.put o.dst (.slice (some ⟨g,0,none⟩) (D.length+1) cap)) w'):wpList Tryz.prog ops Q (o :: rest) a (w.alloc (.cells #[.int .i64 k,.string n,rv,av,bv] 67)) :=
 app_st hg p y ho B v D x k n rv av bv ex H hH hs hx (Lh h.out.1) hl hB h1 fun g cap w' ho hg hat=>hK g cap w' (Lh (h.out.app he.out ho hg hat)) (Lh hg)
theorem grownB {B:Nat}{V V':World}{v:Value}{D:List Sv}(h:RS B V v D)(hg:V.grownBy V' v.ownBlock)(hB:B≤V.heap.size):Below B V V':=grown_below h.1 hg hB
theorem grownK {B g:Nat}{V V':World}{v:Value}{D:List Sv}{t:TypeId}{arr:Array Value}(h:RS B V v D)(hg:V.grownBy V' v.ownBlock)(hk:blk V g t arr)(ht:t≠67):blk V' g t arr:=grown_blk h.1 hg hk ht
theorem RS.lower {B B':Nat}{W:World}{v:Value}{D:List Sv}(h:RS B' W v D)(hB:B≤B'):RS B W v D :=
 ⟨⟨h.1.1,h.1.2.imp id fun ⟨g,cap,cur,e,h1,h2⟩=>⟨g,cap,cur,e,Nat.le_trans hB h1,h2⟩⟩,fun x hx=>by
  obtain ⟨lo,hi,h1,h2⟩:=h.2 x hx
  exact ⟨lo,hi,Nat.le_trans hB h1,h2⟩⟩
theorem blk_set3 {W:World}{g:Nat}{t:TypeId}{a0 a1 a2:Value}(h:blk W g t #[a0,a1,a2])(c0 c1 c2:Value):blk (((W.setCell ⟨g,0,none⟩ c0).setCell ⟨g,1,none⟩ c1).setCell ⟨g,2,none⟩ c2) g t #[c0,c1,c2]:=by
 have h0:blk (W.setCell ⟨g,0,none⟩ c0) g t #[c0,a1,a2]:=blk_set h c0
 have h1:blk ((W.setCell ⟨g,0,none⟩ c0).setCell ⟨g,1,none⟩ c1) g t #[c0,c1,a2]:=blk_set h0 c1
 exact blk_set h1 c2
theorem below_set3 {B:Nat}{a W:World}{g:Nat}(h:Below B a W)(hg:B≤g)(c0 c1 c2:Value):Below B a (((W.setCell ⟨g,0,none⟩ c0).setCell ⟨g,1,none⟩ c1).setCell ⟨g,2,none⟩ c2):=((h.setCell hg _).setCell hg _).setCell hg _
theorem blk_far3 {W:World}{b g:Nat}{t:TypeId}{arr:Array Value}(h:blk W b t arr)(hb:b≠g)(c0 c1 c2:Value):blk (((W.setCell ⟨g,0,none⟩ c0).setCell ⟨g,1,none⟩ c1).setCell ⟨g,2,none⟩ c2) b t arr:=blk_far (blk_far (blk_far h hb _) hb _) hb _
theorem append_zero_run {w:World}(ty B:Nat)(v:Value)(D:List Sv)(h:w.ownsRow B 67 5 v D.length (D.flatMap svC))(ao:Option Addr)(c:Nat):(Builtin.append_ #[31,31] ty #[v,.slice ao 0 c]).run Tryz.prog w=.ok v w:=by
 obtain ⟨i0,hi,_,_,_⟩:=info_of_cls
 have hu:=run_underlying Tryz.underlying31
 have hl:∀ A:Addr,(loadCells A 0).run Tryz.prog w=.ok #[] w:=fun _=>rfl
 rcases h.2 with ⟨rfl,_⟩ | ⟨g,cap,cur,rfl,_,_,hnc,_⟩
 ·cases ao <;> simp [Builtin.append_,hu,sizeOf,typeInfo,hi,Builtin.lenOf,Builtin.firstCells,hl,Result.andThen]
 ·cases ao <;> simp [Builtin.append_,hu,sizeOf,typeInfo,hi,Builtin.lenOf,Builtin.firstCells,hnc,storeCells,hl,Result.andThen]
def elA (B:Nat)(w:World)(ob:Option Nat)(tb:Nat)(x:Sv):Prop:=∃ lo hi,B≤lo∧hi≤w.heap.size∧(∀ q,ob=some q→¬ (lo≤q∧q < hi))∧¬ (lo≤tb∧tb < hi)∧∀ W,agree lo hi w W→svOk W x
def RT (B:Nat)(W:World)(tb:Nat)(v:Value)(D:List Sv):Prop:=W.ownsRow B 67 5 v D.length (D.flatMap svC)∧∀ x∈D,elA B W v.ownBlock tb x
theorem RT.rs {B tb:Nat}{W:World}{v:Value}{D:List Sv}(h:RT B W tb v D):RS B W v D:=⟨h.1,fun x hx=>by
 obtain ⟨lo,hi,h1,h2,h3,-,h5⟩:=h.2 x hx;exact ⟨lo,hi,h1,h2,h3,h5⟩⟩
theorem RT.below {B tb:Nat}{W W':World}{v:Value}{D:List Sv}(h:RT B W tb v D)(hb:Below W.heap.size W W'):RT B W' tb v D:=⟨row_below h.1 hb,fun x hx=>by
 obtain ⟨lo,hi,h1,h2,h3,h4,h5⟩:=h.2 x hx
 exact ⟨lo,hi,h1,Nat.le_trans h2 hb.size,h3,h4,fun U hU=>h5 U fun q q1 q2=>by rw [hU q q1 q2];exact hb.block q (by omega)⟩⟩
theorem RT.pk {B R tb:Nat}{W W':World}{v:Value}{D:List Sv}(h:RT B W tb v D)(hp:Pk R W W')(hr:∀ q,v.ownBlock=some q→q≠R)(hR:R=tb∨W.heap.size≤R):RT B W' tb v D:=by
 refine ⟨⟨h.1.1,h.1.2.imp id ?_⟩,fun x hx=>?_⟩
 ·rintro ⟨g,cap,cur,e,h1,h2,h3⟩
  have hlt:g < W.heap.size:=by
   rcases Nat.lt_or_ge g W.heap.size with k | k
   ·exact k
   ·rw [Array.getElem?_eq_none (by omega)] at h2;cases h2
  exact ⟨g,cap,cur,e,h1,by rw [hp.block g (hr g (by rw [e];rfl)) hlt];exact h2,h3⟩
 ·obtain ⟨lo,hi,h1,h2,h3,h4,h5⟩:=h.2 x hx
  exact ⟨lo,hi,h1,Nat.le_trans h2 hp.size,h3,h4,fun U hU=>h5 U fun q q1 q2=>by rw [hU q q1 q2];exact hp.block q (by rintro rfl;rcases hR with rfl | hR;exact h4 ⟨q1,q2⟩;omega) (by omega)⟩
theorem elA.app {B tb g:Nat}{w w':World}{ob:Option Nat}{x:Sv}(h:elA B w ob tb x)(hg:w.grownBy w' ob)(hat:ob=some g∨w.heap.size≤g):elA B w' (some g) tb x:=by
 obtain ⟨lo,hi,h1,h2,h3,h4,h5⟩:=h
 refine ⟨lo,hi,h1,Nat.le_trans h2 hg.size,fun q hq e=>?_,h4,fun U hU=>h5 U fun q q1 q2=>?_⟩
 ·obtain rfl:g=q:=Option.some.inj hq
  rcases hat with hat | hat
  ·exact h3 g hat e
  ·omega
 ·rw [hU q q1 q2]
  exact hg.block q (by omega) fun e=>h3 q e.symm ⟨q1,q2⟩
theorem VSt.ea {B tb:Nat}{W W':World}{v y:Value}{D:List Sv}{s:St}(h:VSt s W W' y)(hr:RT B W tb v D)(hB:B≤W.heap.size)(ht:tb < W.heap.size) :
    ∃ ro rc ao ac bo bc,y=.agg #[.int .i64 s.kind,.string (bb s.name),.slice ro s.refs.length rc,.slice ao s.attrs.length ac,.slice bo s.body.length bc]∧elA B W' v.ownBlock tb ⟨s,.slice ro s.refs.length rc,.slice ao s.attrs.length ac,.slice bo s.body.length bc⟩:=by
 obtain ⟨ro,rc,ao,ac,bo,bc,e,hW⟩:=h
 exact ⟨ro,rc,ao,ac,bo,bc,e,W.heap.size,W'.heap.size,hB,Nat.le_refl _,fun q hq h2=>by have:=hr.rs.lt q hq;omega,by omega,hW⟩
def Wt (w0 w:World)(R:Nat)(g:gra.Gr)(n k:Nat):Prop :=
 ∃ no nc eo ec co cc,gra.GrV w0 (.agg #[.string (gra.bb g.nm),.bool g.dir,.slice no g.ns.length nc,.slice eo g.es.length ec,.slice co g.cs.length cc]) g∧Below w0.heap.size w0 w∧w0.heap.size≤R ∧
  blk w R 80 #[.string (gra.bb g.nm),.bool g.dir,.slice no g.ns.length nc,.slice eo g.es.length ec,.slice co g.cs.length cc,.int .i64 n,.int .i64 k]
theorem Wt.below {w0 w w':World}{R:Nat}{g:gra.Gr}{n k:Nat}(h:Wt w0 w R g n k)(hb:Below w.heap.size w w'):Wt w0 w' R g n k:=by
 obtain ⟨no,nc,eo,ec,co,cc,h1,h2,h3,h4⟩:=h
 exact ⟨no,nc,eo,ec,co,cc,h1,below_keep hb h2,h3,by unfold blk at h4 ⊢;rw [hb.block R (blk_lt h4)];exact h4⟩
theorem inC_memsK (g:gra.Gr)(n k:Nat):inC g n k=((gra.memsK g k g.ns.length).contains (n:Int) || (gra.memsK g k g.ns.length).isEmpty):=by
 unfold inC gra.memsK gra.mems
 congr 1
 ·rw [Bool.eq_iff_iff,List.contains_iff_mem,List.contains_iff_mem,List.mem_map]
  constructor
  ·exact fun h=>⟨n,h,rfl⟩
  ·rintro ⟨m,h,e⟩
   have:m=n:=by omega
   rw [← this];exact h
 ·rw [List.isEmpty_map]
def ndV (x:gra.Nd)(pv:Value):Value:=.agg #[.string (bb x.nm),.string (bb x.lb),.int .i64 x.w,.int .i64 x.h,.int .i64 x.cl,pv]
def rfV (r:Pr):Value:=.agg #[.string (bb r.1),.string (bb r.2)]
theorem prs_two {W:World}{g:Nat}{t:TypeId}{x y:Pr}(h:blk W g t #[.string (bb x.1),.string (bb x.2),.string (bb y.1),.string (bb y.2)])(h1:x.1.length≤maxLen)(h2:x.2.length≤maxLen)(h3:y.1.length≤maxLen)(h4:y.2.length≤maxLen):Prs W (.slice (some ⟨g,0,none⟩) 2 2) [x,y]:=by
 refine ⟨_,2,rfl,Nat.le_refl _,by decide,fun _=>⟨_,rfl,fun i hi=>?_⟩⟩
 have:i=0∨i=1:=by simp at hi;omega
 rcases this with rfl | rfl
 ·exact ⟨by rw [gra.add_at,blk_cell h];rfl,by show W.cell? ⟨g,_,none⟩=_;rw [blk_cell h];rfl,h1,h2⟩
 ·exact ⟨by rw [gra.add_at,blk_cell h];rfl,by show W.cell? ⟨g,_,none⟩=_;rw [blk_cell h];rfl,h3,h4⟩
def ndC (W:World)(A:Addr)(x:gra.Nd)(po:Option Addr)(pc:Nat):Prop :=
 W.cell? A=some (.string (bb x.nm))∧W.cell? ⟨A.block,A.off+1,none⟩=some (.string (bb x.lb))∧W.cell? ⟨A.block,A.off+2,none⟩=some (.int .i64 x.w)∧W.cell? ⟨A.block,A.off+3,none⟩=some (.int .i64 x.h)∧W.cell? ⟨A.block,A.off+4,none⟩=some (.int .i64 x.cl)∧W.cell? ⟨A.block,A.off+5,none⟩=some (.slice po x.ps.length pc)
theorem nds_c {w:World}{no:Option Addr}{nc:Nat}{l:List gra.Nd}(h:gra.Nds w (.slice no l.length nc) l){i:Nat}(hi:i < l.length):∃ A,no=some A∧∃ po pc,ndC w (A.add (i*6)) l[i] po pc∧gra.Pts w (.slice po l[i].ps.length pc) l[i].ps∧l[i].nm.length≤maxLen:=by
 obtain ⟨_,_,e,-,-,h2⟩:=h
 cases e
 obtain ⟨A,rfl,h3⟩:=h2 (by omega)
 obtain ⟨q0,q1,q2,q3,q4,⟨pv,q5,q6⟩,q7,-⟩:=h3 i hi
 obtain ⟨po,pc,rfl,-,-,-⟩:=id q6
 exact ⟨A,rfl,po,pc,⟨q0,q1,q2,q3,q4,q5⟩,q6,q7⟩
theorem ndC.keep {w w':World}{A:Addr}{x:gra.Nd}{po:Option Addr}{pc:Nat}(h:ndC w A x po pc)(hb:Below w.heap.size w w'):ndC w' A x po pc :=
 ⟨cell_later' hb h.1,cell_later' hb h.2.1,cell_later' hb h.2.2.1,cell_later' hb h.2.2.2.1,cell_later' hb h.2.2.2.2.1,cell_later' hb h.2.2.2.2.2⟩
end Go.Proofs.YtgmidodmmlmmeaaGreatDoor.xpt
namespace Go.Proofs.YtgmidodmmlmmeaaGreatDoor.xpt
open Go.RowKit Go.Sort lex tre att nor
theorem Wt.next {w0 w V:World}{R:Nat}{g:gra.Gr}{n k:Nat}(h:Wt w0 w R g n k)(hb:Below w0.heap.size w V)(hk:V.heap[R]?=w.heap[R]?):Wt w0 V R g n k:=by
 obtain ⟨no,nc,eo,ec,co,cc,h1,h2,h3,h4⟩:=h
 exact ⟨no,nc,eo,ec,co,cc,h1,h2.trans hb,h3,by unfold xpt.blk at h4 ⊢;rw [hk];exact h4⟩
theorem Wt.base {w0 w:World}{R:Nat}{g:gra.Gr}{n k:Nat}(h:Wt w0 w R g n k):Below w0.heap.size w0 w:=by
 obtain ⟨no,nc,eo,ec,co,cc,h1,h2,h3,h4⟩:=h;exact h2
theorem Wt.lt {w0 w:World}{R:Nat}{g:gra.Gr}{n k:Nat}(h:Wt w0 w R g n k):w0.heap.size≤R∧R < w.heap.size:=by
 obtain ⟨no,nc,eo,ec,co,cc,h1,h2,h3,h4⟩:=h
 exact ⟨h3,blk_lt h4⟩
theorem Wt.setN {w0 w:World}{R:Nat}{g:gra.Gr}{n k:Nat}(h:Wt w0 w R g n k):Wt w0 (w.setCell ⟨R,5,none⟩ (.int .i64 ((n:Int)+1))) R g (n+1) k:=by
 obtain ⟨no,nc,eo,ec,co,cc,h1,h2,h3,h4⟩:=h
 exact ⟨no,nc,eo,ec,co,cc,h1,h2.setCell h3 _,h3,blk_set h4 _⟩
theorem Wt.setK {w0 w:World}{R:Nat}{g:gra.Gr}{n k:Nat}(h:Wt w0 w R g n k):Wt w0 (w.setCell ⟨R,6,none⟩ (.int .i64 ((k:Int)+1))) R g n (k+1):=by
 obtain ⟨no,nc,eo,ec,co,cc,h1,h2,h3,h4⟩:=h
 exact ⟨no,nc,eo,ec,co,cc,h1,h2.setCell h3 _,h3,blk_set h4 _⟩
structure BI (w0 w:World)(R:Nat)(g:gra.Gr)(v:Value)(D:List Sv)(n k:Nat)(W:World):Prop where
 wt:Wt w0 W R g n k
 rs:RS w.heap.size W v D
 pk:Pk R w W
theorem BI.below {w0 w W W':World}{R:Nat}{g:gra.Gr}{v:Value}{D:List Sv}{n k:Nat}(h:BI w0 w R g v D n k W)(hb:Below W.heap.size W W'):BI w0 w R g v D n k W' :=
 ⟨h.wt.below hb,h.rs.below hb,h.pk.trans (Pk.below hb)⟩
theorem blk_cells {w0 W:World}{R:Nat}{g:gra.Gr}{n k:Nat}(h:Wt w0 W R g n k):∃ no nc co cc,W.cell? ⟨R,2,none⟩=some (.slice no g.ns.length nc)∧W.cell? ⟨R,4,none⟩=some (.slice co g.cs.length cc)∧W.cell? ⟨R,5,none⟩=some (.int .i64 n)∧W.cell? ⟨R,6,none⟩=some (.int .i64 k)∧W.frozen? ⟨R,5,none⟩=false∧W.frozen? ⟨R,6,none⟩=false∧gra.Nds W (.slice no g.ns.length nc) g.ns∧gra.Cls W (.slice co g.cs.length cc) g.cs:=by
 obtain ⟨no,nc,eo,ec,co,cc,h1,h2,h3,h4⟩:=h
 obtain ⟨nv,ev,cv,e,-,q1,-,q3⟩:=h1
 cases e
 exact ⟨no,nc,co,cc,by rw [blk_cell h4];rfl,by rw [blk_cell h4];rfl,by rw [blk_cell h4];rfl,by rw [blk_cell h4];rfl,blk_free h4,blk_free h4,q1.keep h2,q3.keep h2⟩
theorem cls_c {w:World}{co:Option Addr}{cc:Nat}{l:List gra.Cl}(h:gra.Cls w (.slice co l.length cc) l){i:Nat}(hi:i < l.length):∃ A,co=some A∧w.cell? (A.add (i*2))=some (.string (bb l[i].1))∧w.cell? ⟨(A.add (i*2)).block,(A.add (i*2)).off+1,none⟩=some (.int .i64 l[i].2)∧l[i].1.length≤maxLen:=by
 obtain ⟨_,_,e,-,-,h2⟩:=h
 cases e
 obtain ⟨A,rfl,h3⟩:=h2 (by omega)
 obtain ⟨q0,q1,q2,-⟩:=h3 i hi
 exact ⟨A,rfl,q0,q1,q2⟩
def cellN (W:World)(R o:Nat):Nat:=match W.cell? ⟨R,o,none⟩ with
 | some (.int _ i)=>i.toNat
 | _=>0
theorem Wt.count {w0 W:World}{R:Nat}{g:gra.Gr}{n k:Nat}(h:Wt w0 W R g n k):cellN W R 5=n∧cellN W R 6=k:=by
 obtain ⟨_,_,_,_,-,-,h5,h6,-⟩:=blk_cells h
 unfold cellN
 rw [h5,h6]
 exact ⟨Int.toNat_natCast n,Int.toNat_natCast k⟩
def A2 (a:Act)(R:Nat)(c:Int)(v e8:Value)(b:Bool):Prop:=a=⟨#[.pointer (some ⟨R,0,none⟩),.int .i64 c,undef,undef,a.tmps.getD 4 undef,v,a.tmps.getD 6 undef,a.tmps.getD 7 undef,e8,a.tmps.getD 9 undef,a.tmps.getD 10 undef,a.tmps.getD 11 undef,a.tmps.getD 12 undef,a.tmps.getD 13 undef,a.tmps.getD 14 undef,a.tmps.getD 15 undef,a.tmps.getD 16 undef,a.tmps.getD 17 undef,a.tmps.getD 18 undef,a.tmps.getD 19 undef,a.tmps.getD 20 undef,a.tmps.getD 21 undef,a.tmps.getD 22 undef,a.tmps.getD 23 undef,a.tmps.getD 24 undef,a.tmps.getD 25 undef,a.tmps.getD 26 undef,a.tmps.getD 27 undef,a.tmps.getD 28 undef,a.tmps.getD 29 undef,a.tmps.getD 30 undef,a.tmps.getD 31 undef,.bool b,a.tmps.getD 33 undef,a.tmps.getD 34 undef,a.tmps.getD 35 undef,a.tmps.getD 36 undef,a.tmps.getD 37 undef,a.tmps.getD 38 undef,a.tmps.getD 39 undef,a.tmps.getD 40 undef,a.tmps.getD 41 undef,a.tmps.getD 42 undef,a.tmps.getD 43 undef,a.tmps.getD 44 undef,a.tmps.getD 45 undef,a.tmps.getD 46 undef,a.tmps.getD 47 undef,a.tmps.getD 48 undef,a.tmps.getD 49 undef,a.tmps.getD 50 undef,a.tmps.getD 51 undef,a.tmps.getD 52 undef,a.tmps.getD 53 undef,a.tmps.getD 54 undef,a.tmps.getD 55 undef,a.tmps.getD 56 undef,a.tmps.getD 57 undef,a.tmps.getD 58 undef,a.tmps.getD 59 undef,a.tmps.getD 60 undef,a.tmps.getD 61 undef,a.tmps.getD 62 undef,a.tmps.getD 63 undef,a.tmps.getD 64 undef,a.tmps.getD 65 undef,a.tmps.getD 66 undef,a.tmps.getD 67 undef,a.tmps.getD 68 undef,a.tmps.getD 69 undef,a.tmps.getD 70 undef,a.tmps.getD 71 undef,a.tmps.getD 72 undef,a.tmps.getD 73 undef,a.tmps.getD 74 undef,a.tmps.getD 75 undef,a.tmps.getD 76 undef,a.tmps.getD 77 undef,a.tmps.getD 78 undef,a.tmps.getD 79 undef,a.tmps.getD 80 undef,a.tmps.getD 81 undef,a.tmps.getD 82 undef,a.tmps.getD 83 undef,a.tmps.getD 84 undef,a.tmps.getD 85 undef,a.tmps.getD 86 undef,a.tmps.getD 87 undef,a.tmps.getD 88 undef,a.tmps.getD 89 undef,a.tmps.getD 90 undef,a.tmps.getD 91 undef,a.tmps.getD 92 undef,a.tmps.getD 93 undef,a.tmps.getD 94 undef,a.tmps.getD 95 undef,a.tmps.getD 96 undef,a.tmps.getD 97 undef,a.tmps.getD 98 undef,a.tmps.getD 99 undef,a.tmps.getD 100 undef,a.tmps.getD 101 undef,a.tmps.getD 102 undef,a.tmps.getD 103 undef,a.tmps.getD 104 undef,a.tmps.getD 105 undef,a.tmps.getD 106 undef,a.tmps.getD 107 undef,a.tmps.getD 108 undef,a.tmps.getD 109 undef,a.tmps.getD 110 undef,a.tmps.getD 111 undef,a.tmps.getD 112 undef,a.tmps.getD 113 undef,a.tmps.getD 114 undef,a.tmps.getD 115 undef,a.tmps.getD 116 undef,a.tmps.getD 117 undef,a.tmps.getD 118 undef,a.tmps.getD 119 undef,a.tmps.getD 120 undef,a.tmps.getD 121 undef,a.tmps.getD 122 undef,a.tmps.getD 123 undef,a.tmps.getD 124 undef,a.tmps.getD 125 undef,a.tmps.getD 126 undef,a.tmps.getD 127 undef,a.tmps.getD 128 undef,a.tmps.getD 129 undef,a.tmps.getD 130 undef,a.tmps.getD 131 undef,a.tmps.getD 132 undef,a.tmps.getD 133 undef,a.tmps.getD 134 undef,a.tmps.getD 135 undef,a.tmps.getD 136 undef,a.tmps.getD 137 undef,a.tmps.getD 138 undef,a.tmps.getD 139 undef,a.tmps.getD 140 undef,a.tmps.getD 141 undef,a.tmps.getD 142 undef,a.tmps.getD 143 undef,a.tmps.getD 144 undef,undef],[]⟩
theorem A2.use {a:Act}{R:Nat}{c:Int}{v e8:Value}{b:Bool}(h:A2 a R c v e8 b):∃ f:Nat→Value,a=⟨#[.pointer (some ⟨R,0,none⟩),.int .i64 c,undef,undef,f 4,v,f 6,f 7,e8,f 9,f 10,f 11,f 12,f 13,f 14,f 15,f 16,f 17,f 18,f 19,f 20,f 21,f 22,f 23,f 24,f 25,f 26,f 27,f 28,f 29,f 30,f 31,.bool b,f 33,f 34,f 35,f 36,f 37,f 38,f 39,f 40,f 41,f 42,f 43,f 44,f 45,f 46,f 47,f 48,f 49,f 50,f 51,f 52,f 53,f 54,f 55,f 56,f 57,f 58,f 59,f 60,f 61,f 62,f 63,f 64,f 65,f 66,f 67,f 68,f 69,f 70,f 71,f 72,f 73,f 74,f 75,f 76,f 77,f 78,f 79,f 80,f 81,f 82,f 83,f 84,f 85,f 86,f 87,f 88,f 89,f 90,f 91,f 92,f 93,f 94,f 95,f 96,f 97,f 98,f 99,f 100,f 101,f 102,f 103,f 104,f 105,f 106,f 107,f 108,f 109,f 110,f 111,f 112,f 113,f 114,f 115,f 116,f 117,f 118,f 119,f 120,f 121,f 122,f 123,f 124,f 125,f 126,f 127,f 128,f 129,f 130,f 131,f 132,f 133,f 134,f 135,f 136,f 137,f 138,f 139,f 140,f 141,f 142,f 143,f 144,undef],[]⟩:=⟨fun i=>a.tmps.getD i undef,h⟩
theorem A2.box (w0 w:World)(R:Nat)(g:gra.Gr)(c:Int)(v e8:Value)(D:List Sv)(n k:Nat)(b:Bool):∃ M:Act→World→Prop,Hid (∀ a W,M a W ↔ A2 a R c v e8 b∧BI w0 w R g v D n k W):=⟨fun a W=>A2 a R c v e8 b∧BI w0 w R g v D n k W,Lh fun _ _=>Iff.rfl⟩
end Go.Proofs.YtgmidodmmlmmeaaGreatDoor.xpt
namespace Go.Proofs.YtgmidodmmlmmeaaGreatDoor.xpt
open Go.RowKit lex tre att nor
end Go.Proofs.YtgmidodmmlmmeaaGreatDoor.xpt
namespace Go.Proofs.YtgmidodmmlmmeaaGreatDoor.xpt
open Go.RowKit Go.Sort lex tre att nor
def TroO (T:Tr)(E:Int)(w:World)(e:Ending)(w':World):Prop:=∃ tv,e=.returned (.tuple #[tv,.int .i64 E])∧TrV w' tv T∧Below w.heap.size w w'
theorem em_trv (w:World):TrV w (.agg #[.string ⟨#[]⟩,.bool false,.slice none 0 0]) emT:=⟨_,rfl,Nat.zero_le _,Sts.nil w⟩
theorem cnt_tree (g:gra.Gr)(o:Op')(hg:GV g):cnt (treeG g o).body≤400:=by
 have h1:=blk_cnt g (g.ns.length+g.cs.length+1) (-1) 0 0 (Nat.zero_le _) (Nat.zero_le _)
 have h2:=blk0_le g (g.ns.length+g.cs.length+1) (-1) 0 0 (Nat.zero_le _) (Nat.zero_le _)
 have h3:=hg.nl
 have h4:=hg.el
 have h5:=hg.cl
 have h6:cnt (g.es.map (edgeS g.ns))=g.es.length:=by
  generalize g.es=es
  clear h4
  induction es with
  | nil=>rfl
  | cons e t ih=>rw [List.map_cons,cnt_cons,ih,List.length_cons];show 1+0+_=_;omega
 have h7:cnt (optS o)≤5:=by
  unfold optS
  simp only [cnt_app]
  have h8:∀ (P:Prop) [Decidable P] (k v:List UInt8),cnt (if P then [] else [setS k v])≤1:=fun P _ k v=>by
   split
   ·exact Nat.zero_le _
   ·exact Nat.le_refl _
  have a1:=h8 (o.mode=0) wMode (modes.getD o.mode.toNat [])
  have a2:=h8 (o.ns=10000) wNodesep (fmtL o.ns)
  have a3:=h8 (o.rs=20000) wRanksep (fmtL o.rs)
  have a4:=h8 (o.mg=5000) wMargin (fmtL o.mg)
  have a5:=h8 (o.rd=8) wRounds (fmtL (1000*o.rd))
  omega
 show cnt (optS o ++ ((blk0 g).1 ++ g.es.map (edgeS g.ns)))≤400
 rw [cnt_app,cnt_app,h6]
 have:(blk0 g).1=(blkW g (g.ns.length+g.cs.length+1) (-1) 0 0).1:=rfl
 rw [this]
 omega
end Go.Proofs.YtgmidodmmlmmeaaGreatDoor.xpt
namespace Go.Proofs.YtgmidodmmlmmeaaGreatDoor.xpt
open Go.RowKit lex tre att nor
theorem setA_one (P:Prop)[Decidable P](a:Pr):(if P then [] else [a]).map (fun a:Pr=>setS a.1 a.2)=(if P then [] else [setS a.1 a.2]):=by
 by_cases h:P <;> simp [h]
theorem optS_map (o:Op'):(optA o).map (fun a:Pr=>setS a.1 a.2)=optS o:=by
 unfold optA optS
 rw [List.map_append,List.map_append,List.map_append,List.map_append,setA_one,setA_one,setA_one,setA_one,setA_one]
theorem mode_inj {m:Int}(h0:0≤m)(h4:m≤4):modes.getD m.toNat []=modes.getD (0:Int).toNat [] ↔ m=0:=by
 refine ⟨fun h=>?_,fun h=>by rw [h]⟩
 have h1:=mode_ways h0 h4
 have h2:=mode_ways (m:=0) (by omega) (by omega)
 rw [h] at h1;rw [← h1,h2]
theorem optC_eq {o:Op'}(h:OpV o):addT (addT (addT (addT (addT [] wMode (modes.getD o.mode.toNat []) (modes.getD (0:Int).toNat [])) wNodesep (fmtL (o.ns*1)) (fmtL (10000*1))) wRanksep (fmtL (o.rs*1)) (fmtL (20000*1))) wMargin (fmtL (o.mg*1)) (fmtL (5000*1))) wRounds (fmtL (o.rd*1000)) (fmtL (8*1000))=optA o:=by
 have h1:=h.md
 have h2:=h.ns
 have h3:=h.rs
 have h4:=h.mg
 have h5:=h.rd
 have e2:fmtL (o.ns*1)=fmtL (10000*1) ↔ o.ns=10000:=by rw [fmt_inj (by omega) (by omega)];omega
 have e3:fmtL (o.rs*1)=fmtL (20000*1) ↔ o.rs=20000:=by rw [fmt_inj (by omega) (by omega)];omega
 have e4:fmtL (o.mg*1)=fmtL (5000*1) ↔ o.mg=5000:=by rw [fmt_inj (by omega) (by omega)];omega
 have e5:fmtL (o.rd*1000)=fmtL (8*1000) ↔ o.rd=8:=by rw [fmt_inj (by omega) (by omega)];omega
 rw [addT_app (mode_inj h1.1 h1.2),addT_app e2,addT_app e3,addT_app e4,addT_app e5]
 unfold optA
 rw [Int.mul_comm o.rd,Int.mul_one,Int.mul_one,Int.mul_one]
 simp only [List.append_assoc,List.nil_append]
theorem optA_mem {o:Op'}(h:OpV o):∀ r∈optA o,r.1.length≤maxLen∧r.2.length≤maxLen:=by
 have h1:=h.md
 have h2:=h.ns
 have h3:=h.rs
 have h4:=h.mg
 have h5:=h.rd
 have hm:(modes.getD o.mode.toNat []).length≤maxLen:=by
  have:o.mode=0∨o.mode=1∨o.mode=2∨o.mode=3∨o.mode=4:=by omega
  rcases this with e | e | e | e | e <;> rw [e] <;> decide
 have f2:=fmtL_le o.ns (by omega) (by omega)
 have f3:=fmtL_le o.rs (by omega) (by omega)
 have f4:=fmtL_le o.mg (by omega) (by omega)
 have f5:=fmtL_le (1000*o.rd) (by omega) (by omega)
 have hM:100≤maxLen:=by decide
 intro r hr
 unfold optA at hr
 rcases List.mem_append.1 hr with q | q
 ·rw [(mem_one q).1];exact ⟨(show wMode.length≤maxLen by decide),hm⟩
 rcases List.mem_append.1 q with q | q
 ·rw [(mem_one q).1];exact ⟨(show wNodesep.length≤maxLen by decide),by simp only;omega⟩
 rcases List.mem_append.1 q with q | q
 ·rw [(mem_one q).1];exact ⟨(show wRanksep.length≤maxLen by decide),by simp only;omega⟩
 rcases List.mem_append.1 q with q | q
 ·rw [(mem_one q).1];exact ⟨(show wMargin.length≤maxLen by decide),by simp only;omega⟩
 ·rw [(mem_one q).1];exact ⟨(show wRounds.length≤maxLen by decide),by simp only;omega⟩
set_option maxRecDepth 100000 in
set_option maxHeartbeats 16000000 in
theorem csett_of (o:Op')(w:World)(ho:Hid (okO o=true))(htb:Hid (Tab w)) :
    Calls Tryz.prog 30 #[opV o] w fun e w'=>(∃ v D,e=.returned v∧RS w.heap.size w' v D∧D.map Sv.s=optS o)∧Below w.heap.size w w':=by
 have hv:=opv_of ho.out
 have HEQ:=Lh (optC_eq hv)
 have HMX:=Lh (optA_mem hv)
 have HMP:=Lh (optS_map o)
 obtain ⟨md,ns,rs,mg,rd⟩:=o
 obtain ⟨m0,m1⟩:=hv.md
 obtain ⟨n0',n1⟩:=hv.ns
 obtain ⟨r0,r1⟩:=hv.rs
 obtain ⟨g0,g1⟩:=hv.mg
 obtain ⟨d0,d1⟩:=hv.rd
 simp only at m0 m1 n0' n1 r0 r1 g0 g1 d0 d1
 clear hv ho
 unfold opV
 simp only
 have HB1:=Lh (al1 w (.cells #[.int .i64 md,.int .i64 ns,.int .i64 rs,.int .i64 mg,.int .i64 rd] 28))
 have HK1:=Lh (blk_new w #[.int .i64 md,.int .i64 ns,.int .i64 rs,.int .i64 mg,.int .i64 rd] 28)
 have HQ1:Hid ((w.alloc (.cells #[.int .i64 md,.int .i64 ns,.int .i64 rs,.int .i64 mg,.int .i64 rd] 28)).heap.size=w.heap.size+1):=Lh (by simp)
 go_enter Tryz.func30,Tryz.ntmps30
 go_wp2_with fail
 generalize w.alloc (.cells #[.int .i64 md,.int .i64 ns,.int .i64 rs,.int .i64 mg,.int .i64 rd] 28)=w1 at HB1 HK1 HQ1 ⊢
 have hq1:=HQ1.out
 have hlb0:=NB.new (B:=w.heap.size+1) w1 4
 have hbl:=al1 w1 (.cells #[.int .i64 4,.slice none 0 0] 132)
 generalize w1.alloc (.cells #[.int .i64 4,.slice none 0 0] 132)=w2 at hlb0 hbl ⊢
 rw [hq1] at hlb0 hbl
 try simp only [hq1]
 obtain ⟨n0,hn0⟩:∃ n0,w.heap.size=n0:=⟨_,rfl⟩
 have hke2:blk w2 n0 28 #[.int .i64 md,.int .i64 ns,.int .i64 rs,.int .i64 mg,.int .i64 rd]:=blk_keep (show Below w1.heap.size w1 w2 by rw [hq1];exact hbl) (by rw [← hn0];exact HK1.out)
 have hb2:Below w.heap.size w w2:=HB1.out.trans (hbl.mono (by omega))
 rw [hn0] at hlb0
 simp only [hn0]
 have HN0:=Lh hn0
 have HNB2:=Lh hlb0
 have HKE2:=Lh hke2
 have HB2:=Lh hb2
 have hz2:n0+2≤w2.heap.size:=by obtain ⟨_,_,q,-⟩:=hlb0;exact blk_lt q
 clear hlb0 hbl hke2 hb2 HB1 HK1 HQ1 hq1 hn0
 obtain ⟨S1,hS1⟩:∃ S,bb (modes.getD md.toNat [])=S:=⟨_,rfl⟩
 obtain ⟨S0,hS0⟩:∃ S,bb (modes.getD (0:Int).toNat [])=S:=⟨_,rfl⟩
 have HS1:=Lh hS1
 have HS0:=Lh hS0
 clear hS1 hS0
 have c0:w2.cell? ⟨n0,0,none⟩=some (.int .i64 md):=by rw [blk_cell HKE2.out];rfl
 go_wp2_with fail
 refine (cmode_of md S1 w2 m0 m1 HS1).mono ?_
 rintro e x1 ⟨rfl,hx1⟩
 have HX1:=Lh hx1
 clear hx1 c0
 go_wp2_with fail
 refine (cmode_of 0 S0 x1 (by decide) (by decide) HS0).mono ?_
 rintro e x2 ⟨rfl,hx2⟩
 have HX2:=Lh (below_keep hx2 HX1.out)
 clear hx2 HX1
 go_wp2_with fail
 have hzx:n0+2≤x2.heap.size:=by have:=HX2.out.size;omega
 have HNBx:=Lh (HNB2.out.below HX2.out)
 have HKEx:=Lh (blk_keep HX2.out HKE2.out)
 have HBx:=Lh (HB2.out.trans (HX2.out.mono (by have:=HN0.out;omega)))
 clear HX2 HKE2 HNB2
 refine (ctext_of (n0+1) (n0+1) 4 [] ⟨#[109,111,100,101]⟩ S1 S0 wMode (modes.getD md.toNat []) (modes.getD (0:Int).toNat []) x2 HNBx (Lh rfl) HS1 HS0 (Nat.le_refl _) (by decide)).mono ?_
 rintro e w3 ⟨rfl,hnb,hkp⟩
 have HNB3:=Lh hnb
 have HKE3:=Lh (hkp.2 _ _ _ HKEx.out (by decide) (by omega))
 have HB3:=Lh (HBx.out.trans (hkp.1.mono (by have:=HN0.out;omega)))
 have hz3:n0+2≤w3.heap.size:=by obtain ⟨_,_,q,-⟩:=hnb;exact blk_lt q
 clear hnb hkp
 have hl3:(addT [] wMode (modes.getD md.toNat []) (modes.getD (0:Int).toNat [])).length≤1:=by have:=addT_len [] wMode (modes.getD md.toNat []) (modes.getD (0:Int).toNat []);first | omega | (simp only [List.length_nil] at this;omega)
 obtain ⟨l3,hl3'⟩:∃ l,addT [] wMode (modes.getD md.toNat []) (modes.getD (0:Int).toNat [])=l:=⟨_,rfl⟩
 rw [hl3'] at hl3 HNB3
 have HL3:=Lh hl3'
 clear hl3'
 have c1:w3.cell? ⟨n0,1,none⟩=some (.int .i64 ns):=by rw [blk_cell HKE3.out];rfl
 go_wp2_with fail
 refine (cnumb_of (n0+1) (n0+1) 4 l3 ⟨#[110,111,100,101,115,101,112]⟩ wNodesep ns 1 10000 w3 HNB3 (Lh (tab_below htb.out HB3.out)) (Lh rfl) (by decide) (Lh rfl) (Nat.le_refl _) (by omega) (by omega) (by omega)).mono ?_
 rintro e w4 ⟨rfl,hnb,hkp⟩
 have HNB4:=Lh hnb
 have HKE4:=Lh (hkp.2 _ _ _ HKE3.out (by decide) (by omega))
 have HB4:=Lh (HB3.out.trans (hkp.1.mono (by have:=HN0.out;omega)))
 have hz4:n0+2≤w4.heap.size:=by obtain ⟨_,_,q,-⟩:=hnb;exact blk_lt q
 clear hnb hkp
 clear c1
 have hl4:(addT l3 wNodesep (fmtL (ns*1)) (fmtL (10000*1))).length≤2:=by have:=addT_len l3 wNodesep (fmtL (ns*1)) (fmtL (10000*1));first | omega | (simp only [List.length_nil] at this;omega)
 obtain ⟨l4,hl4'⟩:∃ l,addT l3 wNodesep (fmtL (ns*1)) (fmtL (10000*1))=l:=⟨_,rfl⟩
 rw [hl4'] at hl4 HNB4
 have HL4:=Lh hl4'
 clear hl4'
 have c2:w4.cell? ⟨n0,2,none⟩=some (.int .i64 rs):=by rw [blk_cell HKE4.out];rfl
 go_wp2_with fail
 refine (cnumb_of (n0+1) (n0+1) 4 l4 ⟨#[114,97,110,107,115,101,112]⟩ wRanksep rs 1 20000 w4 HNB4 (Lh (tab_below htb.out HB4.out)) (Lh rfl) (by decide) (Lh rfl) (Nat.le_refl _) (by omega) (by omega) (by omega)).mono ?_
 rintro e w5 ⟨rfl,hnb,hkp⟩
 have HNB5:=Lh hnb
 have HKE5:=Lh (hkp.2 _ _ _ HKE4.out (by decide) (by omega))
 have HB5:=Lh (HB4.out.trans (hkp.1.mono (by have:=HN0.out;omega)))
 have hz5:n0+2≤w5.heap.size:=by obtain ⟨_,_,q,-⟩:=hnb;exact blk_lt q
 clear hnb hkp
 clear c2
 have hl5:(addT l4 wRanksep (fmtL (rs*1)) (fmtL (20000*1))).length≤3:=by have:=addT_len l4 wRanksep (fmtL (rs*1)) (fmtL (20000*1));first | omega | (simp only [List.length_nil] at this;omega)
 obtain ⟨l5,hl5'⟩:∃ l,addT l4 wRanksep (fmtL (rs*1)) (fmtL (20000*1))=l:=⟨_,rfl⟩
 rw [hl5'] at hl5 HNB5
 have HL5:=Lh hl5'
 clear hl5'
 have c3:w5.cell? ⟨n0,3,none⟩=some (.int .i64 mg):=by rw [blk_cell HKE5.out];rfl
 go_wp2_with fail
 refine (cnumb_of (n0+1) (n0+1) 4 l5 ⟨#[109,97,114,103,105,110]⟩ wMargin mg 1 5000 w5 HNB5 (Lh (tab_below htb.out HB5.out)) (Lh rfl) (by decide) (Lh rfl) (Nat.le_refl _) (by omega) (by omega) (by omega)).mono ?_
 rintro e w6 ⟨rfl,hnb,hkp⟩
 have HNB6:=Lh hnb
 have HKE6:=Lh (hkp.2 _ _ _ HKE5.out (by decide) (by omega))
 have HB6:=Lh (HB5.out.trans (hkp.1.mono (by have:=HN0.out;omega)))
 have hz6:n0+2≤w6.heap.size:=by obtain ⟨_,_,q,-⟩:=hnb;exact blk_lt q
 clear hnb hkp
 clear c3
 have hl6:(addT l5 wMargin (fmtL (mg*1)) (fmtL (5000*1))).length≤4:=by have:=addT_len l5 wMargin (fmtL (mg*1)) (fmtL (5000*1));first | omega | (simp only [List.length_nil] at this;omega)
 obtain ⟨l6,hl6'⟩:∃ l,addT l5 wMargin (fmtL (mg*1)) (fmtL (5000*1))=l:=⟨_,rfl⟩
 rw [hl6'] at hl6 HNB6
 have HL6:=Lh hl6'
 clear hl6'
 have c4:w6.cell? ⟨n0,4,none⟩=some (.int .i64 rd):=by rw [blk_cell HKE6.out];rfl
 go_wp2_with fail
 refine (cnumb_of (n0+1) (n0+1) 4 l6 ⟨#[114,111,117,110,100,115]⟩ wRounds rd 1000 8 w6 HNB6 (Lh (tab_below htb.out HB6.out)) (Lh rfl) (by decide) (Lh rfl) (Nat.le_refl _) (by omega) (by omega) (by omega)).mono ?_
 rintro e w7 ⟨rfl,hnb,hkp⟩
 have HNB7:=Lh hnb
 have HKE7:=Lh (hkp.2 _ _ _ HKE6.out (by decide) (by omega))
 have HB7:=Lh (HB6.out.trans (hkp.1.mono (by have:=HN0.out;omega)))
 have hz7:n0+2≤w7.heap.size:=by obtain ⟨_,_,q,-⟩:=hnb;exact blk_lt q
 clear hnb hkp
 clear c4
 have hl7:(addT l6 wRounds (fmtL (rd*1000)) (fmtL (8*1000))).length≤5:=by have:=addT_len l6 wRounds (fmtL (rd*1000)) (fmtL (8*1000));first | omega | (simp only [List.length_nil] at this;omega)
 obtain ⟨l7,hl7'⟩:∃ l,addT l6 wRounds (fmtL (rd*1000)) (fmtL (8*1000))=l:=⟨_,rfl⟩
 rw [hl7'] at hl7 HNB7
 have HL7:=Lh hl7'
 clear hl7'
 have hA:l7=optA ⟨md,ns,rs,mg,rd⟩:=by rw [← HL7.out,← HL6.out,← HL5.out,← HL4.out,← HL3.out];exact HEQ.out
 have HA:=Lh hA
 clear hA HL7 HL6 HL5 HL4 HL3 HEQ
 have HBN:Hid (∀ r∈l7,r.1.length≤maxLen∧r.2.length≤maxLen):=Lh (by rw [HA.out];exact HMX.out)
 obtain ⟨ao,ac,hbx,hrx⟩:=HNB7.out
 have u1:w7.cell? ⟨n0+1,1,none⟩=some (.slice ao l7.length ac):=by rw [blk_cell hbx];rfl
 have HPR:=Lh (own_selfP hrx (Nat.le_refl (n0+1)) HBN.out w7 (agree.self _ _ _))
 obtain ⟨b0,hb0⟩:∃ b0,w7.heap.size=b0:=⟨_,rfl⟩
 clear hbx hrx
 go_wp2_with fail
 go_loopw [4,28] (fun lv iv wr=>∃ (k:Nat) (D:List Sv),iv=.int .i64 k∧k≤l7.length∧RS b0 wr lv D∧D.map Sv.s=(l7.take k).map (fun a:Pr=>setS a.1 a.2)∧Below b0 w7 wr) (fun _ iv _=>l7.length - (intOf iv).toNat)
 case atStart=>exact ⟨0,[],rfl,Nat.zero_le _,RS.nil _ _,rfl,Below.refl _ _⟩
 case round =>
  obtain ⟨k,D,rfl,hk,hrs,hD,hbw⟩:=hrel
  rename World=>wr
  obtain ⟨vo,vc,rfl⟩:=hrs.form
  have hDk:D.length≤300:=by rw [← List.length_map (f:=Sv.s),hD,List.length_map,List.length_take];omega
  have HRS:=Lh hrs
  have HD:=Lh hD
  have HBW:=Lh hbw
  have hzr:=hbw.size
  clear hrs hD hbw u1
  by_cases hlt:k < l7.length
  case neg =>
   obtain rfl:k=l7.length:=by omega
   go_wp2
   go_ret
   refine ⟨⟨_,D,rfl,HRS.out.lower (by have:=HN0.out;omega),?_⟩,HB7.out.trans (HBW.out.mono (by have:=HN0.out;omega))⟩
   rw [HD.out,List.take_length,HA.out];exact HMP.out
  have HTK:=Lh (take_one hlt)
  have hb9:=HBN.out _ (List.getElem_mem hlt)
  obtain ⟨A,rfl,q0,q1,-,-⟩:=(HPR.out.keep (show Below w7.heap.size w7 wr by rw [hb0];exact HBW.out)).get hlt
  obtain ⟨x,hx⟩:∃ x,l7[k]=x:=⟨_,rfl⟩
  rw [hx] at q0 q1 hb9 HTK
  obtain ⟨xk,xv⟩:=x
  clear hx
  simp only at q0 q1 hb9
  have HB9:=Lh hb9
  obtain ⟨X,hX⟩:∃ X,bb xk=X:=⟨_,rfl⟩
  obtain ⟨V,hV⟩:∃ X,bb xv=X:=⟨_,rfl⟩
  rw [hX] at q0
  rw [hV] at q1
  have HX:=Lh hX
  have HV:=Lh hV
  clear hX hV hb9
  have z5:(0:Int)≤(k:Int):=by omega
  have z6:(k:Int) < (l7.length:Int):=by omega
  have HB8:Hid (Below wr.heap.size wr ((wr.alloc (.cells #[.string X,.string V] 69)).alloc (.cells #[.string ⟨#[]⟩,.string V] 69))):=Lh (below_keep (al1 (wr.alloc (.cells #[.string X,.string V] 69)) (.cells #[.string ⟨#[]⟩,.string V] 69)) (al1 wr (.cells #[.string X,.string V] 69)))
  have hq7:(wr.alloc (.cells #[.string X,.string V] 69)).heap.size=wr.heap.size+1:=by simp
  have hk8:=blk_new (wr.alloc (.cells #[.string X,.string V] 69)) #[.string ⟨#[]⟩,.string V] 69
  have hq8:((wr.alloc (.cells #[.string X,.string V] 69)).alloc (.cells #[.string ⟨#[]⟩,.string V] 69)).heap.size=wr.heap.size+2:=by simp
  rw [hq7] at hk8
  have HRS8:=Lh (HRS.out.below HB8.out)
  have HXX:Hid (elS b0 ((wr.alloc (.cells #[.string X,.string V] 69)).alloc (.cells #[.string ⟨#[]⟩,.string V] 69)) (Value.slice vo D.length vc).ownBlock ⟨setS xk xv,.slice none 0 0,.slice (some ⟨wr.heap.size+1,0,none⟩) 1 1,.slice none 0 0⟩):=Lh (by
   refine ⟨wr.heap.size,((wr.alloc (.cells #[.string X,.string V] 69)).alloc (.cells #[.string ⟨#[]⟩,.string V] 69)).heap.size,by omega,Nat.le_refl _,fun q hq h2=>?_,fun U hU=>?_⟩
   ·have:=(HRS.out.lt q hq).2;omega
   ·have hq:=prs_one (a:=[]) (b:=xv) (hU.blk (g:=wr.heap.size+1) (by omega) (by omega) (by rw [show bb xv=V from HV.out];exact hk8)) (show 0≤maxLen by decide) HB9.out.2
    exact ⟨HB9.out.1,Prs.nil U,hq,Sts.nil U⟩)
  have HK8:=Lh hk8
  have HQ8:=Lh hq8
  clear hk8 hq8 hq7
  have HXE:Hid (svC ⟨setS xk xv,.slice none 0 0,.slice (some ⟨wr.heap.size+1,0,none⟩) 1 1,.slice none 0 0⟩=[.int .i64 4,.string X,.slice none 0 0,.slice (some ⟨wr.heap.size+1,0,none⟩) 1 1,.slice none 0 0]):=Lh (by show [_,Value.string (bb xk),_,_,_]=_;rw [show bb xk=X from HX.out];rfl)
  go_wp2_with (at_builtin;refine ls_st rfl (.tmp 32) (.tmp 40) rfl b0 _ D ⟨setS xk xv,.slice none 0 0,.slice (some ⟨wr.heap.size+1,0,none⟩) 1 1,.slice none 0 0⟩ 4 X _ _ _ HXE.out (wr.heap.size+1+1) HQ8.out rfl rfl HRS8 HXX (by omega) (by rw [HQ8.out];omega) ⟨rfl,rfl,rfl⟩ ?_;intro gg cap V hrs9 hg9)
  have hB9:=grownB HRS8.out hg9.out (by rw [HQ8.out];omega)
  have HBW9:=Lh (HBW.out.trans ((HB8.out.mono (by omega)).trans hB9))
  clear hB9
  go_wp2
  go_roundw
  case rel=>exact ⟨k+1,D ++ [⟨setS xk xv,.slice none 0 0,.slice (some ⟨wr.heap.size+1,0,none⟩) 1 1,.slice none 0 0⟩],by go_num,by omega,hrs9.out,by rw [List.map_append,HD.out,HTK.out,List.map_append];rfl,HBW9.out⟩
  case measure=>simp [intOf];omega
end Go.Proofs.YtgmidodmmlmmeaaGreatDoor.xpt
