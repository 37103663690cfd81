/-
  A row of statements that is being made: it grows by a statement that a call returned, or by a list of them (layer 13). Conditions: as each theorem states them.
  A list of statements behind a row of statements (layer 13). Conditions: as each theorem states them.
  What contains of the reference of layer 13 returns: whether the next node lies in a cluster, or the cluster holds no node. Condition: a valid graph; the writer's box in memory.
  What ref of the reference of layer 13 returns: a node's name, and the name of a port of it. Condition: a node by value, its ports in memory; the port is one of them, or below zero.
  What node of the reference of layer 13 returns: the statement of a node. Condition: a valid node by value, its ports in memory.
-/
import Derived.Test.YtgmidodmmlmmeaaGreatDoorMgc
import Derived.Test.YtgmidodmmlmmeaaGreatDoorMeb
namespace Go.Proofs.YtgmidodmmlmmeaaGreatDoor.xpt
open Go.RowKit lex tre att nor
def RS (B:Nat)(W:World)(v:Value)(D:List Sv):Prop:=W.ownsRow B 67 5 v D.length (D.flatMap svC)∧∀ x∈D,elS B W v.ownBlock x
theorem RS.nil (B:Nat)(W:World):RS B W (.slice none 0 0) []:=⟨World.ownsRow_nil ..,fun x hx=>by cases hx⟩
theorem RS.form {B:Nat}{W:World}{v:Value}{D:List Sv}(h:RS B W v D):∃ ao cap,v=.slice ao D.length cap:=by
 obtain ⟨ao,cap,e,-,-⟩:=own_form h.1;exact ⟨ao,cap,e⟩
theorem elS.below {lo0:Nat}{w w':World}{ob:Option Nat}{x:Sv}(h:elS lo0 w ob x)(hb:Below w.heap.size w w'):elS lo0 w' ob x:=by
 obtain ⟨lo,hi,h1,h2,h3,h4⟩:=h
 exact ⟨lo,hi,h1,Nat.le_trans h2 hb.size,h3,fun W hW=>h4 W fun q q1 q2=>by rw [hW q q1 q2];exact hb.block q (by omega)⟩
theorem RS.below {B:Nat}{W W':World}{v:Value}{D:List Sv}(h:RS B W v D)(hb:Below W.heap.size W W'):RS B W' v D:=⟨row_below h.1 hb,fun x hx=>(h.2 x hx).below hb⟩
theorem RS.pk {B R:Nat}{W W':World}{v:Value}{D:List Sv}(h:RS B W v D)(hb:Pk R W W')(hR:R < B):RS B W' v D:=⟨hb.own hR h.1,fun x hx=>(h.2 x hx).later hb hR⟩
theorem RS.lt {B:Nat}{W:World}{v:Value}{D:List Sv}(h:RS B W v D):∀ q,v.ownBlock=some q→B≤q∧q < W.heap.size:=fun q e=>World.ownsRow.lt h.1 q e
theorem VSt.el {B:Nat}{W W':World}{v y:Value}{D:List Sv}{s:St}(h:VSt s W W' y)(hr:RS B W v D)(hB:B≤W.heap.size) :
    ∃ ro rc ao ac bo bc,y=.agg #[.int .i64 s.kind,.string (bb s.name),.slice ro s.refs.length rc,.slice ao s.attrs.length ac,.slice bo s.body.length bc]∧elS B W' v.ownBlock ⟨s,.slice ro s.refs.length rc,.slice ao s.attrs.length ac,.slice bo s.body.length bc⟩:=by
 obtain ⟨ro,rc,ao,ac,bo,bc,e,hW⟩:=h
 exact ⟨ro,rc,ao,ac,bo,bc,e,W.heap.size,W'.heap.size,hB,Nat.le_refl _,fun q hq h2=>by have:=hr.lt q hq;omega,hW⟩
theorem RS.app {B g cap:Nat}{w w':World}{v:Value}{D:List Sv}{x:Sv}(h:RS B w v D)(hx:elS B w v.ownBlock x)(ho:w'.ownsRow B 67 5 (.slice (some ⟨g,0,none⟩) (D.length+1) cap) (D ++ [x]).length ((D ++ [x]).flatMap svC))(hg:w.grownBy w' v.ownBlock)(hat:v.ownBlock=some g∨w.heap.size≤g):RS B w' (.slice (some ⟨g,0,none⟩) (D.length+1) cap) (D ++ [x]) :=
 ⟨ho,fun y hy=>by
  rcases List.mem_append.1 hy with q | q
  ·exact (h.2 y q).app hg hat hg.size
  ·rw [List.mem_singleton.1 q];exact hx.app hg hat hg.size⟩
theorem ls_st {w:World}{ops:Array Oper}{rest:List Oper}{o:Oper}{a:Act}{Q:Exit→Act→World→Prop}(hg:o.guard=none)(p y:Operand)(ho:o.op=.call { callee:=.builtin .append,args:=#[p,y],argTypes:=#[31,31] })
    (B:Nat) (v:Value) (D:List Sv) (x:Sv) (k:Int) (n:ByteArray) (rv av bv:Value) (ex:svC x=[.int .i64 k,.string n,rv,av,bv]) (H:Nat) (hH:w.heap.size=H) (hs:a.eval p=v) (hx:a.eval y=.slice (some ⟨H,0,none⟩) 1 1) (h:Hid (RS B w v D)) (he:Hid (elS B w v.ownBlock x)) (hl:D.length≤1000000) (hB:B≤w.heap.size) (h1:rv.oneCell'=true∧av.oneCell'=true∧bv.oneCell'=true)
    (hK:∀ g cap w',Hid (RS B w' (.slice (some ⟨g,0,none⟩) (D.length+1) cap) (D ++ [x]))→Hid (w.grownBy w' v.ownBlock)→wpList Tryz.prog ops Q rest (a.put o.dst (.slice (some ⟨g,0,none⟩) (D.length+1) cap)) w'):wpList Tryz.prog ops Q (o :: rest) a (w.alloc (.cells #[.int .i64 k,.string n,rv,av,bv] 67)) :=
 app_st hg p y ho B v D x k n rv av bv ex H hH hs hx (Lh h.out.1) hl hB h1 fun g cap w' ho hg hat=>hK g cap w' (Lh (h.out.app he.out ho hg hat)) (Lh hg)
theorem st_st {ops:Array Oper}{o:Oper}{a:Act}{K:Act→World→Prop}{Q:Exit→Act→World→Prop}{X:Prop}(hgd:o.guard=none)(p y:Operand)(ho:o.op=.call { callee:=.builtin .append,args:=#[p,y],argTypes:=#[31,31] })
    (B:Nat) (w V:World) (v:Value) (D:List Sv) (x:Sv) (k:Int) (n:ByteArray) (rv av bv:Value) (ex:svC x=[.int .i64 k,.string n,rv,av,bv]) (H:Nat) (hs:a.eval p=v) (hx:a.eval y=.slice (some ⟨H,0,none⟩) 1 1) (h:Hid (RS B w v D)) (he:Hid (elS B w v.ownBlock x)) (hb:Hid (Below w.heap.size w V)) (hn:Hid (blk V H 67 #[.int .i64 k,.string n,rv,av,bv])) (hl:D.length≤1000000) (hB:B≤w.heap.size) (h1:rv.oneCell'=true∧av.oneCell'=true∧bv.oneCell'=true)
    (hK:∀ g cap w',Hid (RS B w' (.slice (some ⟨g,0,none⟩) (D.length+1) cap) (D ++ [x]))→Hid (w.grownBy w' v.ownBlock)→K (a.put o.dst (.slice (some ⟨g,0,none⟩) (D.length+1) cap)) w') :
    if Region.wanted o (yielded ops a.tmps)=true then Oper.wp Tryz.prog o a V K Q else X:=by
 obtain ⟨i0,hi,hz0,hz1,hz2⟩:=info_of_cls
 have hz:=hb.out.size
 refine step_append_lies _ hgd p y 31 ho B 67 i0 _ 5 96 Tryz.underlying31 hi hz0 hz1 hz2 rfl (by decide) v D.length _ hs (row_below h.out.1 hb.out) ⟨H,0,none⟩ 1 1 [.int .i64 k,.string n,rv,av,bv] hx rfl ?_ (by simp [Value.oneCell'];exact h1) (by decide) (by unfold maxLen;omega) (by omega) (by omega) V.heap.size rfl ?_
 ·intro j u hj
  rw [gra.add_at,Nat.zero_add,blk_cell hn.out,← hj]
  simp
 ·intro g cap V' hown hgrow hat _
  have hg2:w.grownBy V' v.ownBlock:=⟨hgrow.os.trans hb.out.os,hgrow.tape.trans hb.out.tape,hgrow.output.trans hb.out.output,Nat.le_trans hz hgrow.size,fun q hq hne=>by rw [hgrow.block q (by omega) hne];exact hb.out.block q hq⟩
  refine hK g cap V' (Lh (h.out.app he.out ?_ hg2 (hat.imp id fun e=>by omega))) (Lh hg2)
  rw [List.length_append,List.flatMap_append,List.flatMap_cons,List.flatMap_nil,List.append_nil,ex];exact hown
theorem grownB {B:Nat}{V V':World}{v:Value}{D:List Sv}(h:RS B V v D)(hg:V.grownBy V' v.ownBlock)(hB:B≤V.heap.size):Below B V V':=grown_below h.1 hg hB
theorem grownK {B g:Nat}{V V':World}{v:Value}{D:List Sv}{t:TypeId}{arr:Array Value}(h:RS B V v D)(hg:V.grownBy V' v.ownBlock)(hk:blk V g t arr)(ht:t≠67):blk V' g t arr:=grown_blk h.1 hg hk ht
theorem RS.lower {B B':Nat}{W:World}{v:Value}{D:List Sv}(h:RS B' W v D)(hB:B≤B'):RS B W v D :=
 ⟨⟨h.1.1,h.1.2.imp id fun ⟨g,cap,cur,e,h1,h2⟩=>⟨g,cap,cur,e,Nat.le_trans hB h1,h2⟩⟩,fun x hx=>by
  obtain ⟨lo,hi,h1,h2⟩:=h.2 x hx
  exact ⟨lo,hi,Nat.le_trans hB h1,h2⟩⟩
theorem blk_set3 {W:World}{g:Nat}{t:TypeId}{a0 a1 a2:Value}(h:blk W g t #[a0,a1,a2])(c0 c1 c2:Value):blk (((W.setCell ⟨g,0,none⟩ c0).setCell ⟨g,1,none⟩ c1).setCell ⟨g,2,none⟩ c2) g t #[c0,c1,c2]:=by
 have h0:blk (W.setCell ⟨g,0,none⟩ c0) g t #[c0,a1,a2]:=blk_set h c0
 have h1:blk ((W.setCell ⟨g,0,none⟩ c0).setCell ⟨g,1,none⟩ c1) g t #[c0,c1,a2]:=blk_set h0 c1
 exact blk_set h1 c2
theorem below_set3 {B:Nat}{a W:World}{g:Nat}(h:Below B a W)(hg:B≤g)(c0 c1 c2:Value):Below B a (((W.setCell ⟨g,0,none⟩ c0).setCell ⟨g,1,none⟩ c1).setCell ⟨g,2,none⟩ c2):=((h.setCell hg _).setCell hg _).setCell hg _
theorem blk_far3 {W:World}{b g:Nat}{t:TypeId}{arr:Array Value}(h:blk W b t arr)(hb:b≠g)(c0 c1 c2:Value):blk (((W.setCell ⟨g,0,none⟩ c0).setCell ⟨g,1,none⟩ c1).setCell ⟨g,2,none⟩ c2) b t arr:=blk_far (blk_far (blk_far h hb _) hb _) hb _
theorem agree_set3 {lo hi g:Nat}(w:World)(c0 c1 c2:Value)(h:g < lo):agree lo hi w (((w.setCell ⟨g,0,none⟩ c0).setCell ⟨g,1,none⟩ c1).setCell ⟨g,2,none⟩ c2):=fun q h1 _=>by
 rw [Below.heap_setCell _ _ _ _ (show q≠g by omega),Below.heap_setCell _ _ _ _ (show q≠g by omega),Below.heap_setCell _ _ _ _ (show q≠g by omega)]
theorem append_zero_run {w:World}(ty B:Nat)(v:Value)(D:List Sv)(h:w.ownsRow B 67 5 v D.length (D.flatMap svC))(ao:Option Addr)(c:Nat):(Builtin.append_ #[31,31] ty #[v,.slice ao 0 c]).run Tryz.prog w=.ok v w:=by
 obtain ⟨i0,hi,_,_,_⟩:=info_of_cls
 have hu:=run_underlying Tryz.underlying31
 have hl:∀ A:Addr,(loadCells A 0).run Tryz.prog w=.ok #[] w:=fun _=>rfl
 rcases h.2 with ⟨rfl,_⟩ | ⟨g,cap,cur,rfl,_,_,hnc,_⟩
 ·cases ao <;> simp [Builtin.append_,hu,sizeOf,typeInfo,hi,Builtin.lenOf,Builtin.firstCells,hl,Result.andThen]
 ·cases ao <;> simp [Builtin.append_,hu,sizeOf,typeInfo,hi,Builtin.lenOf,Builtin.firstCells,hnc,storeCells,hl,Result.andThen]
theorem row_cells {w:World}{B g n cap:Nat}{D:List Sv}(h:w.ownsRow B 67 5 (.slice (some ⟨g,0,none⟩) n cap) D.length (D.flatMap svC))(hn:0 < D.length):∀ j u,(D.flatMap svC)[j]?=some u→w.cell? ((⟨g,0,none⟩:Addr).add j)=some u:=by
 obtain ⟨g',cap',arr,e,-,hk,-,-,h3⟩:=own_blk h hn
 cases e
 intro j u hj
 have hl:=flat_len svC 5 svC_len D
 have hj2:j < D.length*5:=by rw [← hl];exact (List.getElem?_eq_some_iff.1 hj).1
 rw [gra.add_at,Nat.zero_add,blk_cell hk,h3 j hj2];exact hj
theorem st_cat0 {ops:Array Oper}{o:Oper}{a:Act}{K:Act→World→Prop}{Q:Exit→Act→World→Prop}{X:Prop}(hgd:o.guard=none)(p y:Operand)(ho:o.op=.call { callee:=.builtin .append,args:=#[p,y],argTypes:=#[31,31] })
    (B B':Nat) (w:World) (v vb:Value) (D Db:List Sv) (hs:a.eval p=v) (hx:a.eval y=vb) (h:Hid (RS B w v D)) (hb:Hid (RS B' w vb Db)) (hl:D.length+Db.length≤1000000) (hBw:B≤w.heap.size)
    (hK:∀ ao cap w',w'.ownsRow B 67 5 (.slice ao (D ++ Db).length cap) (D ++ Db).length ((D ++ Db).flatMap svC)→w.grownBy w' v.ownBlock→(v=.slice ao (D ++ Db).length cap∧w'=w∧Db=[]∨∃ g,ao=some ⟨g,0,none⟩∧(v.ownBlock=some g∨w.heap.size≤g))→K (a.put o.dst (.slice ao (D ++ Db).length cap)) w') :
    if Region.wanted o (yielded ops a.tmps)=true then Oper.wp Tryz.prog o a w K Q else X:=by
 have hw:Region.wanted o (yielded ops a.tmps)=true:=by simp [Region.wanted,hgd]
 obtain ⟨bo,bc,rfl⟩:=hb.out.form
 by_cases h0:Db.length=0
 ·obtain rfl:Db=[]:=List.eq_nil_of_length_eq_zero h0
  obtain ⟨ao,cap,rfl⟩:=h.out.form
  rw [if_pos hw]
  have hrun:=append_zero_run o.type B _ D h.out.1 bo bc
  have:=hK ao cap w (by rw [List.append_nil];exact h.out.1) (World.grownBy.refl w _) (Or.inl ⟨by rw [List.append_nil],rfl,rfl⟩)
  rw [List.append_nil] at this
  unfold Oper.wp
  rw [List.length_nil] at hx
  simp [execOp,ho,resolve,invoke,builtin,hs,hx,hrun,Result.andThen,Oper.upon]
  exact this
 ·obtain ⟨i0,hi,hz0,hz1,hz2⟩:=info_of_cls
  obtain ⟨gb,cb,arr,e,-,-,-⟩:=own_blk hb.out.1 (by omega)
  cases e
  refine step_append_lies _ hgd p y 31 ho B 67 i0 _ 5 96 Tryz.underlying31 hi hz0 hz1 hz2 rfl (by decide) v D.length _ hs h.out.1 ⟨gb,0,none⟩ Db.length bc (Db.flatMap svC) hx (flat_len svC 5 svC_len Db) (row_cells hb.out.1 (by omega)) ?_ (by omega) (by unfold maxLen;omega) (by omega) hBw w.heap.size rfl ?_
  ·intro u hu
   obtain ⟨r,hr0,hr⟩:=List.mem_flatMap.1 hu
   obtain ⟨lo,hi',-,-,-,h4⟩:=hb.out.2 r hr0
   obtain ⟨-,⟨_,_,e1,_⟩,⟨_,_,e2,_⟩,⟨_,_,e3,_⟩⟩:=h4 w (fun q _ _=>rfl)
   simp only [svC,List.mem_cons,List.not_mem_nil,or_false] at hr
   rcases hr with rfl | rfl | rfl | rfl | rfl
   ·rfl
   ·rfl
   ·rw [e1];rfl
   ·rw [e2];rfl
   ·rw [e3];rfl
  ·intro g cap V' hown hgrow hat _
   have hown2:V'.ownsRow B 67 5 (.slice (some ⟨g,0,none⟩) (D.length+Db.length) cap) (D ++ Db).length ((D ++ Db).flatMap svC):=by rw [List.length_append,List.flatMap_append];exact hown
   rw [show D.length+Db.length=(D ++ Db).length by rw [List.length_append]] at hown2 ⊢
   exact hK (some ⟨g,0,none⟩) cap V' hown2 hgrow (Or.inr ⟨g,rfl,hat.imp id fun e=>by omega⟩)
def elA (B:Nat)(w:World)(ob:Option Nat)(tb:Nat)(x:Sv):Prop:=∃ lo hi,B≤lo∧hi≤w.heap.size∧(∀ q,ob=some q→¬ (lo≤q∧q < hi))∧¬ (lo≤tb∧tb < hi)∧∀ W,agree lo hi w W→svOk W x
def RT (B:Nat)(W:World)(tb:Nat)(v:Value)(D:List Sv):Prop:=W.ownsRow B 67 5 v D.length (D.flatMap svC)∧∀ x∈D,elA B W v.ownBlock tb x
theorem RT.rs {B tb:Nat}{W:World}{v:Value}{D:List Sv}(h:RT B W tb v D):RS B W v D:=⟨h.1,fun x hx=>by
 obtain ⟨lo,hi,h1,h2,h3,-,h5⟩:=h.2 x hx;exact ⟨lo,hi,h1,h2,h3,h5⟩⟩
theorem RS.rt {B B' tb:Nat}{W:World}{v:Value}{D:List Sv}(h:RS B' W v D)(hB:B≤B')(ht:tb < B'∨W.heap.size≤tb):RT B W tb v D:=⟨(h.lower hB).1,fun x hx=>by
 obtain ⟨lo,hi,h1,h2,h3,h4⟩:=h.2 x hx;exact ⟨lo,hi,by omega,h2,h3,by omega,h4⟩⟩
theorem RT.below {B tb:Nat}{W W':World}{v:Value}{D:List Sv}(h:RT B W tb v D)(hb:Below W.heap.size W W'):RT B W' tb v D:=⟨row_below h.1 hb,fun x hx=>by
 obtain ⟨lo,hi,h1,h2,h3,h4,h5⟩:=h.2 x hx
 exact ⟨lo,hi,h1,Nat.le_trans h2 hb.size,h3,h4,fun U hU=>h5 U fun q q1 q2=>by rw [hU q q1 q2];exact hb.block q (by omega)⟩⟩
theorem RT.pk {B R tb:Nat}{W W':World}{v:Value}{D:List Sv}(h:RT B W tb v D)(hp:Pk R W W')(hr:∀ q,v.ownBlock=some q→q≠R)(hR:R=tb∨W.heap.size≤R):RT B W' tb v D:=by
 refine ⟨⟨h.1.1,h.1.2.imp id ?_⟩,fun x hx=>?_⟩
 ·rintro ⟨g,cap,cur,e,h1,h2,h3⟩
  have hlt:g < W.heap.size:=by
   rcases Nat.lt_or_ge g W.heap.size with k | k
   ·exact k
   ·rw [Array.getElem?_eq_none (by omega)] at h2;cases h2
  exact ⟨g,cap,cur,e,h1,by rw [hp.block g (hr g (by rw [e];rfl)) hlt];exact h2,h3⟩
 ·obtain ⟨lo,hi,h1,h2,h3,h4,h5⟩:=h.2 x hx
  exact ⟨lo,hi,h1,Nat.le_trans h2 hp.size,h3,h4,fun U hU=>h5 U fun q q1 q2=>by rw [hU q q1 q2];exact hp.block q (by rintro rfl;rcases hR with rfl | hR;exact h4 ⟨q1,q2⟩;omega) (by omega)⟩
theorem rt_ne {B tb g:Nat}{W:World}{v:Value}{D:List Sv}{t:TypeId}{arr:Array Value}(h:RT B W tb v D)(hb:blk W g t arr)(ht:t≠67:=by decide):∀ q,v.ownBlock=some q→q≠g:=fun q hq e=>by
 subst e
 rcases h.1.2 with ⟨rfl,-⟩ | ⟨p,cap,cur,rfl,-,hk,-⟩
 ·cases hq
 ·obtain rfl:p=q:=Option.some.inj hq
  unfold xpt.blk at hb;rw [hb] at hk;cases hk;exact ht rfl
theorem elA.app {B tb g:Nat}{w w':World}{ob:Option Nat}{x:Sv}(h:elA B w ob tb x)(hg:w.grownBy w' ob)(hat:ob=some g∨w.heap.size≤g):elA B w' (some g) tb x:=by
 obtain ⟨lo,hi,h1,h2,h3,h4,h5⟩:=h
 refine ⟨lo,hi,h1,Nat.le_trans h2 hg.size,fun q hq e=>?_,h4,fun U hU=>h5 U fun q q1 q2=>?_⟩
 ·obtain rfl:g=q:=Option.some.inj hq
  rcases hat with hat | hat
  ·exact h3 g hat e
  ·omega
 ·rw [hU q q1 q2]
  exact hg.block q (by omega) fun e=>h3 q e.symm ⟨q1,q2⟩
theorem VSt.ea {B tb:Nat}{W W':World}{v y:Value}{D:List Sv}{s:St}(h:VSt s W W' y)(hr:RT B W tb v D)(hB:B≤W.heap.size)(ht:tb < W.heap.size) :
    ∃ ro rc ao ac bo bc,y=.agg #[.int .i64 s.kind,.string (bb s.name),.slice ro s.refs.length rc,.slice ao s.attrs.length ac,.slice bo s.body.length bc]∧elA B W' v.ownBlock tb ⟨s,.slice ro s.refs.length rc,.slice ao s.attrs.length ac,.slice bo s.body.length bc⟩:=by
 obtain ⟨ro,rc,ao,ac,bo,bc,e,hW⟩:=h
 exact ⟨ro,rc,ao,ac,bo,bc,e,W.heap.size,W'.heap.size,hB,Nat.le_refl _,fun q hq h2=>by have:=hr.rs.lt q hq;omega,by omega,hW⟩
theorem st_rt {ops:Array Oper}{o:Oper}{a:Act}{K:Act→World→Prop}{Q:Exit→Act→World→Prop}{X:Prop}(hgd:o.guard=none)(p y:Operand)(ho:o.op=.call { callee:=.builtin .append,args:=#[p,y],argTypes:=#[31,31] })
    (B tb:Nat) (w V:World) (v:Value) (D:List Sv) (x:Sv) (k:Int) (n:ByteArray) (rv av bv:Value) (ex:svC x=[.int .i64 k,.string n,rv,av,bv]) (H:Nat) (hs:a.eval p=v) (hx:a.eval y=.slice (some ⟨H,0,none⟩) 1 1) (h:Hid (RT B w tb v D)) (he:Hid (elA B w v.ownBlock tb x)) (hb:Hid (Below w.heap.size w V)) (hn:Hid (blk V H 67 #[.int .i64 k,.string n,rv,av,bv])) (hl:D.length≤1000000) (hB:B≤w.heap.size) (h1:rv.oneCell'=true∧av.oneCell'=true∧bv.oneCell'=true)
    (hK:∀ g cap w',Hid (RT B w' tb (.slice (some ⟨g,0,none⟩) (D.length+1) cap) (D ++ [x]))→Hid (w.grownBy w' v.ownBlock)→K (a.put o.dst (.slice (some ⟨g,0,none⟩) (D.length+1) cap)) w') :
    if Region.wanted o (yielded ops a.tmps)=true then Oper.wp Tryz.prog o a V K Q else X:=by
 obtain ⟨i0,hi,hz0,hz1,hz2⟩:=info_of_cls
 have hz:=hb.out.size
 refine step_append_lies _ hgd p y 31 ho B 67 i0 _ 5 96 Tryz.underlying31 hi hz0 hz1 hz2 rfl (by decide) v D.length _ hs (row_below h.out.1 hb.out) ⟨H,0,none⟩ 1 1 [.int .i64 k,.string n,rv,av,bv] hx rfl ?_ (by simp [Value.oneCell'];exact h1) (by decide) (by unfold maxLen;omega) (by omega) (by omega) V.heap.size rfl ?_
 ·intro j u hj
  rw [gra.add_at,Nat.zero_add,blk_cell hn.out,← hj]
  simp
 ·intro g cap V' hown hgrow hat _
  have hg2:w.grownBy V' v.ownBlock:=⟨hgrow.os.trans hb.out.os,hgrow.tape.trans hb.out.tape,hgrow.output.trans hb.out.output,Nat.le_trans hz hgrow.size,fun q hq hne=>by rw [hgrow.block q (by omega) hne];exact hb.out.block q hq⟩
  have hat2:v.ownBlock=some g∨w.heap.size≤g:=hat.imp id fun e=>by omega
  refine hK g cap V' (Lh ⟨?_,fun y hy=>?_⟩) (Lh hg2)
  ·rw [List.length_append,List.flatMap_append,List.flatMap_cons,List.flatMap_nil,List.append_nil,ex];exact hown
  ·rcases List.mem_append.1 hy with q | q
   ·exact (h.out.2 y q).app hg2 hat2
   ·rw [List.mem_singleton.1 q];exact he.out.app hg2 hat2
theorem st_rtcat {ops:Array Oper}{o:Oper}{a:Act}{K:Act→World→Prop}{Q:Exit→Act→World→Prop}{X:Prop}(hgd:o.guard=none)(p y:Operand)(ho:o.op=.call { callee:=.builtin .append,args:=#[p,y],argTypes:=#[31,31] })
    (B B' tb:Nat) (w:World) (v vb:Value) (D Db:List Sv) (hs:a.eval p=v) (hx:a.eval y=vb) (h:Hid (RT B w tb v D)) (hb:Hid (RS B' w vb Db)) (hB:B≤B') (hv:∀ q,v.ownBlock=some q→q < B') (ht:tb < B') (hl:D.length+Db.length≤1000000) (hBw:B≤w.heap.size)
    (hK:∀ ao cap w',Hid (RT B w' tb (.slice ao (D ++ Db).length cap) (D ++ Db))→Hid (w.grownBy w' v.ownBlock)→K (a.put o.dst (.slice ao (D ++ Db).length cap)) w') :
    if Region.wanted o (yielded ops a.tmps)=true then Oper.wp Tryz.prog o a w K Q else X:=by
 refine st_cat0 hgd p y ho B B' w v vb D Db hs hx (Lh h.out.rs) hb hl hBw fun ao cap w' hown hg hat=>hK ao cap w' (Lh ?_) (Lh hg)
 rcases hat with ⟨e,rfl,rfl⟩ | ⟨g,rfl,hat⟩
 ·rw [← e,List.append_nil];exact h.out
 ·refine ⟨hown,fun x hx=>?_⟩
  rcases List.mem_append.1 hx with q | q
  ·exact (h.out.2 x q).app hg hat
  ·obtain ⟨lo,hi,h1,h2,h3,h4⟩:=hb.out.2 x q
   refine ⟨lo,hi,by omega,Nat.le_trans h2 hg.size,fun q hq e=>?_,by omega,fun W hW=>h4 W fun q q1 q2=>?_⟩
   ·obtain rfl:g=q:=Option.some.inj hq
    rcases hat with r | r
    ·have:=hv g r;omega
    ·omega
   ·rw [hW q q1 q2]
    exact hg.block q (by omega) (fun e=>by have:=hv q e.symm;omega)
def Wt (w0 w:World)(R:Nat)(g:gra.Gr)(n k:Nat):Prop :=
 ∃ no nc eo ec co cc,gra.GrV w0 (.agg #[.string (gra.bb g.nm),.bool g.dir,.slice no g.ns.length nc,.slice eo g.es.length ec,.slice co g.cs.length cc]) g∧Below w0.heap.size w0 w∧w0.heap.size≤R ∧
  blk w R 80 #[.string (gra.bb g.nm),.bool g.dir,.slice no g.ns.length nc,.slice eo g.es.length ec,.slice co g.cs.length cc,.int .i64 n,.int .i64 k]
theorem Wt.below {w0 w w':World}{R:Nat}{g:gra.Gr}{n k:Nat}(h:Wt w0 w R g n k)(hb:Below w.heap.size w w'):Wt w0 w' R g n k:=by
 obtain ⟨no,nc,eo,ec,co,cc,h1,h2,h3,h4⟩:=h
 exact ⟨no,nc,eo,ec,co,cc,h1,below_keep hb h2,h3,by unfold blk at h4 ⊢;rw [hb.block R (blk_lt h4)];exact h4⟩
theorem inC_memsK (g:gra.Gr)(n k:Nat):inC g n k=((gra.memsK g k g.ns.length).contains (n:Int) || (gra.memsK g k g.ns.length).isEmpty):=by
 unfold inC gra.memsK gra.mems
 congr 1
 ·rw [Bool.eq_iff_iff,List.contains_iff_mem,List.contains_iff_mem,List.mem_map]
  constructor
  ·exact fun h=>⟨n,h,rfl⟩
  ·rintro ⟨m,h,e⟩
   have:m=n:=by omega
   rw [← this];exact h
 ·rw [List.isEmpty_map]
set_option maxRecDepth 100000 in
set_option maxHeartbeats 8000000 in
theorem rcon_of (w0:World)(R:Nat)(g:gra.Gr)(n k:Nat)(c:Nat)(b:Bool)(w:World)(h:Hid (Wt w0 w R g n k))(hv:Hid (gra.validE g=0))(hc:c < g.cs.length)(hr:Hid (inC g n c=b)) :
    Calls Tryz.prog 83 #[.pointer (some ⟨R,0,none⟩),.int .i64 c] w fun e w'=>e=.returned (.bool b)∧Below w.heap.size w w':=by
 obtain ⟨no,nc,eo,ec,co,cc,hG,hB,hR,hK⟩:=id h.out
 have HG:=Lh (hG.keep hB)
 have HM:Hid (gra.memV g (c:Int)=gra.memsK g c g.ns.length):=Lh (by unfold gra.memV;rw [if_neg (by have:=hv.out;omega)])
 obtain ⟨L,hL⟩:∃ L,gra.memsK g c g.ns.length=L:=⟨_,rfl⟩
 have HL:=Lh (HM.out.trans hL)
 have HI:Hid ((L.contains (n:Int) || L.isEmpty)=b):=Lh (by rw [← hL,← inC_memsK];exact hr.out)
 have c0:=blk_cell (o:=0) hK
 have c1:=blk_cell (o:=1) hK
 have c2:=blk_cell (o:=2) hK
 have c3:=blk_cell (o:=3) hK
 have c4:=blk_cell (o:=4) hK
 have HK:=Lh hK
 clear hG hB hR hK hr hv hL HM
 go_enter Tryz.func83,Tryz.ntmps83
 go_wp2_with fail
 refine (gra.gMembers_of _ g (c:Int) L w HG HL).mono ?_
 rintro e w1 ⟨v,rfl,hi,hb1⟩
 have HB1:=Lh hb1
 have HI1:=Lh hi
 obtain ⟨ao,cap,rfl,hc1,hc2,-⟩:=id hi
 clear hb1 hi hc1 hc2
 have hlm:L.length≤9223372036854775807:=by obtain ⟨_,_,e,q1,q2,-⟩:=HI1.out;cases e;unfold maxLen at q2;omega
 clear c0 c1 c2 c3 c4
 go_wp2_with fail
 go_loopw [6] (fun iv wr=>∃ j:Nat,iv=.int .i64 j∧j≤L.length∧(L.take j).contains (n:Int)=false∧Below w1.heap.size w1 wr) (fun iv _=>L.length - (intOf iv).toNat)
 case atStart=>exact ⟨0,rfl,Nat.zero_le _,by simp,Below.refl _ _⟩
 case round =>
  obtain ⟨j,rfl,hj,hany,hB2⟩:=hrel
  rename World=>wq
  have HB2:=Lh hB2
  by_cases hlt:j < L.length
  ·obtain ⟨A,e1,p0⟩:=(HI1.out.keep hB2).get hlt
   cases e1
   obtain ⟨x,hx⟩:∃ x,L[j]=x:=⟨_,rfl⟩
   have p0':wq.cell? (A.add (j*1))=some (.int .i64 x):=by rw [← hx];exact p0
   rw [Nat.mul_one] at p0'
   have HKq:=(h.out.below HB1.out).below hB2
   obtain ⟨_,_,_,_,_,_,-,-,-,hK5⟩:=HKq
   have c5:=blk_cell (o:=5) hK5
   have j0:(0:Int)≤(j:Int):=by omega
   have j1:(j:Int) < (L.length:Int):=by omega
   by_cases hxn:x=(n:Int)
   ·have HC:Hid (true=b):=Lh (by
      rw [← HI.out]
      have:L.contains (n:Int)=true:=List.contains_iff_mem.2 (by rw [← hxn,← hx];exact List.getElem_mem hlt)
      rw [this];rfl)
    subst hxn
    clear hx p0 hany hB2 hK5
    go_wp2_with fail
    go_quiet (fail)
    have HB3:=Lh (below_keep (below_keep (gra.drew_n wq nq) HB2.out) HB1.out)
    generalize wq.drewN nq=w3 at HB3 ⊢
    go_wp2
    go_ret
    exact ⟨by rw [← HC.out];rfl,HB3.out⟩
   ·have hne:(x == (n:Int))=false:=by rw [beq_eq_false_iff_ne];exact hxn
    have HA:Hid ((L.take (j+1)).contains (n:Int)=false):=Lh (by
     cases q:(L.take (j+1)).contains (n:Int) with
     | false=>rfl
     | true =>
      have q2:=List.contains_iff_mem.1 q
      rw [List.take_add_one,List.getElem?_eq_getElem hlt,List.mem_append] at q2
      rcases q2 with q2 | q2
      ·rw [List.contains_iff_mem.2 q2] at hany;cases hany
      ·rw [hx] at q2;simp at q2;exact absurd q2.symm hxn)
    clear hx p0 hany hB2 hK5
    go_wp2_with fail
    go_quiet (fail)
    have HB3:=Lh (below_keep (gra.drew_n wq nq) HB2.out)
    generalize wq.drewN nq=w3 at HB3 ⊢
    go_wp2
    go_roundw
    case rel=>exact ⟨j+1,by go_num,by omega,HA.out,HB3.out⟩
    case measure=>simp [intOf];omega
  ·obtain rfl:j=L.length:=by omega
   have hE:decide (L.length=0)=b:=by
    rw [← HI.out]
    rw [List.take_length] at hany
    rw [hany]
    cases L <;> simp
   have HE:=Lh hE
   clear hany hE
   go_wp2
   go_ret
   have hq:(((L.length:Nat):Int) == 0)=b:=by rw [← HE.out,Bool.eq_iff_iff,beq_iff_eq,decide_eq_true_eq];omega
   exact ⟨by rw [← hq];rfl,below_keep HB2.out HB1.out⟩
def ndV (x:gra.Nd)(pv:Value):Value:=.agg #[.string (bb x.nm),.string (bb x.lb),.int .i64 x.w,.int .i64 x.h,.int .i64 x.cl,pv]
def rfV (r:Pr):Value:=.agg #[.string (bb r.1),.string (bb r.2)]
set_option maxRecDepth 100000 in
set_option maxHeartbeats 2000000 in
theorem rref_of (x:gra.Nd)(pv:Value)(p:Int)(R:Value)(w:World)(h:Hid (gra.Pts w pv x.ps))(h1:p < x.ps.length)(hr:Hid (rfV (refP x p)=R)) :
    Calls Tryz.prog 85 #[ndV x pv,.int .i64 p] w fun e w'=>e=.returned R∧Below w.heap.size w w':=by
 obtain ⟨ao,cap,rfl,-,-,-⟩:=id h.out
 obtain ⟨nm,lb,xw,xh,xc,ps⟩:=x
 unfold ndV
 simp only at h h1 hr ⊢
 obtain ⟨X,hX⟩:∃ Y,bb nm=Y:=⟨_,rfl⟩
 obtain ⟨L,hL⟩:∃ Y,bb lb=Y:=⟨_,rfl⟩
 by_cases hp:p < 0
 ·have HR:Hid (Value.agg #[.string X,.string ⟨#[]⟩]=R):=Lh (by rw [← hr.out,← hX];unfold rfV refP;simp only;rw [if_pos hp])
  rw [hX,hL]
  clear hr hX hL
  go_enter Tryz.func85,Tryz.ntmps85
  go_wp2
  refine bodyPost_ret (v:=.agg #[.string X,.string ⟨#[]⟩]) (by simp [results,Tryz.results85,go_sem]) rfl ⟨by rw [← HR.out],?_⟩
  exact (al1 ..).alloc (al1 ..).size _
 ·obtain ⟨k,rfl⟩:∃ k:Nat,p=(k:Int):=⟨p.toNat,by omega⟩
  have hl:k < ps.length:=by omega
  obtain ⟨Y,hY⟩:∃ Y,bb ps[k].1=Y:=⟨_,rfl⟩
  have HR:Hid (Value.agg #[Value.string X,.string Y]=R):=Lh (by
   rw [← hr.out,← hX,← hY];unfold rfV refP;simp only
   rw [if_neg hp,Int.toNat_natCast,List.getD_eq_getElem?_getD,List.getElem?_eq_getElem hl];rfl)
  obtain ⟨A,rfl,p0,p1,z2,z3⟩:=h.out.get hl
  have hY2:gra.bb ps[k].1=Y:=hY
  rw [hY2] at p0
  have k0:(0:Int)≤(k:Int):=by omega
  have HB1:=Lh (al1 w (.cells #[.string X,.string L,.int .i64 xw,.int .i64 xh,.int .i64 xc,.slice (some A) ps.length cap] 59))
  obtain ⟨wa,hwa⟩:∃ wa,w.alloc (.cells #[.string X,.string L,.int .i64 xw,.int .i64 xh,.int .i64 xc,.slice (some A) ps.length cap] 59)=wa:=⟨_,rfl⟩
  have hz:wa.heap.size=w.heap.size+1:=by rw [← hwa];simp
  have HK1:=blk_new w #[.string X,.string L,.int .i64 xw,.int .i64 xh,.int .i64 xc,.slice (some A) ps.length cap] 59
  rw [hwa] at HK1 HB1
  have HK2:=blk_new wa #[.string ⟨#[]⟩,.string ⟨#[]⟩] 121
  have hB2:=al1 wa (.cells #[.string ⟨#[]⟩,.string ⟨#[]⟩] 121)
  have HK1':blk (wa.alloc (.cells #[.string ⟨#[]⟩,.string ⟨#[]⟩] 121)).drew w.heap.size 59 #[.string X,.string L,.int .i64 xw,.int .i64 xh,.int .i64 xc,.slice (some A) ps.length cap]:=(Pk.below (R:=w.heap.size+9) hB2.drew).blk (by omega) HK1
  have HK2':blk (wa.alloc (.cells #[.string ⟨#[]⟩,.string ⟨#[]⟩] 121)).drew (w.heap.size+1) 121 #[.string ⟨#[]⟩,.string ⟨#[]⟩]:=by rw [← hz];exact HK2
  have HBd:Hid (Below w.heap.size w (wa.alloc (.cells #[.string ⟨#[]⟩,.string ⟨#[]⟩] 121)).drew):=Lh (below_keep hB2.drew HB1.out)
  have c0:=blk_cell (o:=0) HK1'
  have c5:=blk_cell (o:=5) HK1'
  have f0:=blk_free (o:=0) HK2'
  have f1:=blk_free (o:=1) HK2'
  have d0:=blk_cell (o:=0) HK2'
  have d1:=blk_cell (o:=1) HK2'
  have q0:=cell_later' HBd.out p0
  have HK3:=Lh HK2'
  rw [hX,hL]
  clear hr hX hL hY hY2 HK1' HK2' HK1 HK2 hB2 p0 p1 z2 z3
  go_enter Tryz.func85,Tryz.ntmps85
  go_wp2_with fail
  refine wp_region_still_tail 9 (by kernel_rfl) (by kernel_rfl) ?_
  change wpStill _ _ (wa.alloc (.cells #[.string ⟨#[]⟩,.string ⟨#[]⟩] 121)).drew (fun a'=>wpList _ _ _ _ a' (wa.alloc (.cells #[.string ⟨#[]⟩,.string ⟨#[]⟩] 121)).drew) _ _
  generalize (wa.alloc (.cells #[.string ⟨#[]⟩,.string ⟨#[]⟩] 121)).drew=w7 at *
  simp only [List.take_succ_cons,List.take_zero,List.drop_succ_cons,List.drop_zero]
  repeat still_step
  refine wpStill_nil ?_
  go_wp2
  have HK5:=blk_set (o:=1) (blk_set (o:=0) HK3.out (.string X)) (.string Y)
  have hB5:Below w.heap.size w ((w7.setCell ⟨w.heap.size+1,0,none⟩ (.string X)).setCell ⟨w.heap.size+1,1,none⟩ (.string Y)):=set2 HBd.out (Nat.le_succ _)
  have e0:=blk_cell (o:=0) HK5
  have e1:=blk_cell (o:=1) HK5
  refine bodyPost_ret (v:=.agg #[.string X,.string Y]) (by simp [results,Tryz.results85,go_sem,e0,e1]) rfl ⟨by rw [← HR.out],?_⟩
  exact hB5
def A58 (a:Act)(n0:Nat):Prop:=a=⟨#[a.tmps.getD 0 undef,.pointer (some ⟨n0,0,none⟩),.pointer (some ⟨n0+1,0,none⟩),.pointer (some ⟨n0+2,0,none⟩),a.tmps.getD 4 undef,a.tmps.getD 5 undef,a.tmps.getD 6 undef,a.tmps.getD 7 undef,a.tmps.getD 8 undef,a.tmps.getD 9 undef,a.tmps.getD 10 undef,a.tmps.getD 11 undef,a.tmps.getD 12 undef,a.tmps.getD 13 undef,a.tmps.getD 14 undef,a.tmps.getD 15 undef,a.tmps.getD 16 undef,a.tmps.getD 17 undef,a.tmps.getD 18 undef,a.tmps.getD 19 undef,a.tmps.getD 20 undef,a.tmps.getD 21 undef,a.tmps.getD 22 undef,a.tmps.getD 23 undef,a.tmps.getD 24 undef,a.tmps.getD 25 undef,a.tmps.getD 26 undef,a.tmps.getD 27 undef,a.tmps.getD 28 undef,a.tmps.getD 29 undef,a.tmps.getD 30 undef,a.tmps.getD 31 undef,a.tmps.getD 32 undef,a.tmps.getD 33 undef,a.tmps.getD 34 undef,a.tmps.getD 35 undef,a.tmps.getD 36 undef,a.tmps.getD 37 undef,a.tmps.getD 38 undef,a.tmps.getD 39 undef,a.tmps.getD 40 undef,a.tmps.getD 41 undef,a.tmps.getD 42 undef,a.tmps.getD 43 undef,a.tmps.getD 44 undef,a.tmps.getD 45 undef,a.tmps.getD 46 undef,a.tmps.getD 47 undef,a.tmps.getD 48 undef,a.tmps.getD 49 undef,a.tmps.getD 50 undef,a.tmps.getD 51 undef,a.tmps.getD 52 undef,a.tmps.getD 53 undef,a.tmps.getD 54 undef,a.tmps.getD 55 undef,a.tmps.getD 56 undef,a.tmps.getD 57 undef],[]⟩
theorem A58.use {a:Act}{n0:Nat}(h:A58 a n0):∃ f:Nat→Value,a=⟨#[f 0,.pointer (some ⟨n0,0,none⟩),.pointer (some ⟨n0+1,0,none⟩),.pointer (some ⟨n0+2,0,none⟩),f 4,f 5,f 6,f 7,f 8,f 9,f 10,f 11,f 12,f 13,f 14,f 15,f 16,f 17,f 18,f 19,f 20,f 21,f 22,f 23,f 24,f 25,f 26,f 27,f 28,f 29,f 30,f 31,f 32,f 33,f 34,f 35,f 36,f 37,f 38,f 39,f 40,f 41,f 42,f 43,f 44,f 45,f 46,f 47,f 48,f 49,f 50,f 51,f 52,f 53,f 54,f 55,f 56,f 57],[]⟩:=⟨fun i=>a.tmps.getD i undef,h⟩
def NodM (w:World)(n0:Nat)(nb:Array Value)(X:ByteArray)(l:List Pr)(a:Act)(W:World):Prop :=
 A58 a n0∧(∃ ao ac,SB n0 W (n0+2) 1 X (.slice none 0 0) ao ac l)∧Below n0 w W∧blk W n0 59 nb∧blk W (n0+1) 67 #[.int .i64 0,.string ⟨#[]⟩,.slice none 0 0,.slice none 0 0,.slice none 0 0]
theorem NodM.box (w:World)(n0:Nat)(nb:Array Value)(X:ByteArray)(l:List Pr):∃ M:Act→World→Prop,Hid (∀ a W,M a W ↔ NodM w n0 nb X l a W):=⟨NodM w n0 nb X l,Lh fun _ _=>Iff.rfl⟩
set_option maxRecDepth 100000 in
set_option maxHeartbeats 4000000 in
theorem rnode_of (x:gra.Nd)(pv:Value)(w:World)(h:Hid (gra.Pts w pv x.ps))(hx:NdV x)(hl:x.nm.length≤maxLen) :
    Calls Tryz.prog 84 #[ndV x pv] w fun e w'=>Below w.heap.size w w'∧∃ v,e=.returned v∧VSt (nodeS x) w w' v:=by
 obtain ⟨po,pc,rfl,-,-,-⟩:=id h.out
 have HX:=Lh hx
 clear hx
 obtain ⟨nm,lb,xw,xh,xc,ps⟩:=x
 have hxw:=HX.out.w
 have hxh:=HX.out.h
 have hxl:=HX.out.lb
 have hxp:=HX.out.len
 unfold ndV
 simp only at h hl hxw hxh hxl hxp ⊢
 obtain ⟨X,hX⟩:∃ Y,bb nm=Y:=⟨_,rfl⟩
 obtain ⟨L,hL⟩:∃ Y,bb lb=Y:=⟨_,rfl⟩
 rw [hX,hL]
 have HNM:=Lh hX
 have HLB:=Lh hL
 clear hX hL
 obtain ⟨F1,hF1⟩:∃ F,bb (fmtL xh)=F:=⟨_,rfl⟩
 obtain ⟨F2,hF2⟩:∃ F,bb (fmtL xw)=F:=⟨_,rfl⟩
 obtain ⟨F3,hF3⟩:∃ F,bb (portsT ps)=F:=⟨_,rfl⟩
 have HF1:=Lh hF1
 have HF2:=Lh hF2
 have HF3:=Lh hF3
 clear hF1 hF2 hF3
 go_enter Tryz.func84,Tryz.ntmps84
 obtain ⟨M,HM⟩:=NodM.box w w.heap.size #[.string X,.string L,.int .i64 xw,.int .i64 xh,.int .i64 xc,.slice po ps.length pc] X []
 refine seq_mid2 M ?_ ?_
 ·have k1:=blk_new w #[.string X,.string L,.int .i64 xw,.int .i64 xh,.int .i64 xc,.slice po ps.length pc] 59
  have b1:=al1 w (.cells #[.string X,.string L,.int .i64 xw,.int .i64 xh,.int .i64 xc,.slice po ps.length pc] 59)
  have z1:(w.alloc (.cells #[.string X,.string L,.int .i64 xw,.int .i64 xh,.int .i64 xc,.slice po ps.length pc] 59)).heap.size=w.heap.size+1:=by simp
  have HK1:=Lh k1
  have HB1:=Lh b1
  have HZ1:=Lh z1
  clear k1 b1 z1
  go_wp2
  generalize w.alloc (.cells #[.string X,.string L,.int .i64 xw,.int .i64 xh,.int .i64 xc,.slice po ps.length pc] 59)=wa at HK1 HB1 HZ1 ⊢
  have hz1:=HZ1.out
  have b2:=al1 wa (.cells #[.int .i64 0,.string ⟨#[]⟩,.slice none 0 0,.slice none 0 0,.slice none 0 0] 67)
  have k2:=blk_new wa #[.int .i64 0,.string ⟨#[]⟩,.slice none 0 0,.slice none 0 0,.slice none 0 0] 67
  have z2:(wa.alloc (.cells #[.int .i64 0,.string ⟨#[]⟩,.slice none 0 0,.slice none 0 0,.slice none 0 0] 67)).heap.size=w.heap.size+2:=by simp;omega
  generalize wa.alloc (.cells #[.int .i64 0,.string ⟨#[]⟩,.slice none 0 0,.slice none 0 0,.slice none 0 0] 67)=wb at b2 k2 z2 ⊢
  have b3:=al1 wb (.cells #[.int .i64 1,.string X,.slice none 0 0,.slice none 0 0,.slice none 0 0] 67)
  have k3:=blk_new wb #[.int .i64 1,.string X,.slice none 0 0,.slice none 0 0,.slice none 0 0] 67
  rw [z2] at k3
  rw [hz1] at k2
  exact (HM.out _ _).2 ⟨rfl,⟨none,0,k3,World.ownsRow_nil ..⟩,below_keep b3 (below_keep b2 HB1.out),blk_keep b3 (blk_keep b2 HK1.out),blk_keep b3 k2⟩
 obtain ⟨n0,hn0⟩:∃ n0,w.heap.size=n0:=⟨_,rfl⟩
 have HN0:=Lh hn0
 rw [hn0] at HM
 clear hn0
 intro a1 w1 hm
 obtain ⟨ha,⟨ao,ac,hsb⟩,hb,hn,hr⟩:=(HM.out _ _).1 hm
 obtain ⟨f,rfl⟩:=ha.use
 clear HM hm M ha
 obtain ⟨l0,hl0⟩:∃ l,[]=l:=⟨_,rfl⟩
 rw [hl0] at hsb
 have zl0:l0.length≤0:=by rw [← hl0];first | (simp;done) | (rw [List.length_append];split <;> simp only [List.length_cons,List.length_nil] <;> omega)
 have HQl0:=Lh hl0
 clear hl0
 have HSB:=Lh hsb
 have HB:=Lh hb
 have HN:=Lh hn
 have HR:=Lh hr
 have hlt:=blk_lt hn
 have d3:w1.cell? ⟨n0+2,3,none⟩=some (.slice ao l0.length ac):=by rw [blk_cell hsb.1];rfl
 have fz:w1.frozen? ⟨n0+2,3,none⟩=false:=blk_free hsb.1
 have c3:w1.cell? ⟨n0,3,none⟩=some (.int .i64 xh):=by rw [blk_cell hn];rfl
 clear hsb hb hn hr
 obtain ⟨M,HM⟩:=NodM.box w n0 #[.string X,.string L,.int .i64 xw,.int .i64 xh,.int .i64 xc,.slice po ps.length pc] X (l0 ++ (if xh=10000 then [] else [(wHeight,fmtL xh)]))
 refine seq_mid M ?_ ?_
 ·by_cases g:xh=10000
  case pos =>
   have bg:(xh != 10000)=false:=by rw [g];rfl
   have hgo:l0=(l0 ++ (if xh=10000 then [] else [(wHeight,fmtL xh)])):=by rw [if_pos g,List.append_nil]
   have HGO:=Lh hgo
   clear g hgo
   go_wp2
   exact (HM.out _ _).2 ⟨rfl,⟨ao,ac,by rw [← HGO.out];exact HSB.out⟩,HB.out,HN.out,HR.out⟩
  have bg:(xh != 10000)=true:=by rw [bne_iff_ne];exact g
  have hgo:l0 ++ [(wHeight,fmtL xh)]=(l0 ++ (if xh=10000 then [] else [(wHeight,fmtL xh)])):=by rw [if_neg g]
  have HGO:=Lh hgo
  clear g hgo
  go_wp2_with fail
  refine tstart (fun W:World=>W.cell? ⟨n0,3,none⟩=some (.int .i64 xh)∧W.cell? ⟨n0+2,3,none⟩=some (.slice ao l0.length ac)) 9 (by kernel_rfl) (⟨s_drew c3,s_drew d3⟩) (fun hHeld=>?_)
  refine ton 0 10 (.pointer (some ⟨n0+2,3,none⟩)) ?_
  refine ton 1 11 (.slice ao l0.length ac) ?_
  refine ton 2 12 (.pointer (some ⟨n0,3,none⟩)) ?_
  refine ton 3 13 (.int .i64 xh) ?_
  try simp only [sA,sB,sC]
  refine tgo (i:=4) (by kernel_rfl) rfl (fun K hK=>?_)
  go_simp
  refine (rfmt_of xh F1 _ (by omega) (by omega) HF1).mono ?_
  rintro e w2 ⟨rfl,rfl⟩
  refine hK.out _ _ (fun _=>(by (try dsimp only at hHeld);repeat (first | assumption | (with_reducible refine s_drew ?_) | (with_reducible refine s_alloc ?_) | (with_reducible refine s_set (by simp only;omega) ?_)))) (fun hHeld=>?_)
  replace hHeld:=hHeld (by decide)
  clear hK K
  try simp only [sA,sB,sC]
  refine ton 5 15 (.agg #[.string ⟨#[104,101,105,103,104,116]⟩,.string F1]) ?_
  try simp only [sA,sB,sC]
  refine tgo (i:=6) (by kernel_rfl) rfl (fun K hK=>?_)
  go_simp
  refine hK.out _ _ (fun _=>⟨s_drew (s_alloc c3),s_drew (s_alloc d3)⟩) (fun hHeld=>?_)
  replace hHeld:=hHeld (by decide)
  clear hK K
  try simp only [sA,sB,sC]
  have hbv:Below w1.heap.size w1 (w1.alloc (.cells #[.string ⟨#[104,101,105,103,104,116]⟩,.string F1] 69)).drew:=(al1 ..).drew
  have hkn:=blk_new w1 #[.string ⟨#[104,101,105,103,104,116]⟩,.string F1] 69
  have hzv:=hbv.size
  refine tgo (i:=7) (by kernel_rfl) rfl (fun K hK=>?_)
  refine st_pr Tryz.underlying65 info_of_cla rfl (.tmp 11) (.tmp 16) rfl n0 _ _ l0 (wHeight,fmtL xh) ⟨#[104,101,105,103,104,116]⟩ F1 (by rw [← HF1.out];rfl) w1.heap.size rfl rfl (Lh (row_below HSB.out.2 hbv)) (Lh hkn) (by omega) (by omega) ?_
  intro gg cap V hown hkp
  have hN2:=hkp.out.2 _ _ _ (blk_keep hbv HN.out) (by decide)
  have hS2:=hkp.out.2 _ _ _ (blk_keep hbv HSB.out.1) (by decide)
  have hR2:=hkp.out.2 _ _ _ (blk_keep hbv HR.out) (by decide)
  have fz2:V.frozen? ⟨n0+2,3,none⟩=false:=blk_free hS2
  have d32:V.cell? ⟨n0+2,3,none⟩=some (.slice ao l0.length ac):=by rw [blk_cell hS2];rfl
  refine hK.out _ _ (fun _=>⟨by rw [blk_cell hN2];rfl,d32⟩) (fun hHeld=>?_)
  replace hHeld:=hHeld (by decide)
  clear hK K
  try simp only [sA,sB,sC]
  refine ton 8 18 (.pointer (some ⟨n0+2,3,none⟩)) ?_
  try simp only [sA,sB,sC]
  refine tgo (i:=9) (by kernel_rfl) rfl (fun K hK=>?_)
  go_simp
  refine hK.out _ _ (fun h=>absurd rfl h) (fun hHeld=>?_)
  clear hK K hHeld
  try simp only [sA,sB,sC]
  refine tdone (by kernel_rfl) ?_ _
  have hsb2:=HSB.out.store hbv hown.out hkp.out
  rw [HGO.out] at hsb2
  have hBV:=HB.out.trans ((hbv.mono (by omega)).trans hkp.out.1)
  exact ⟨rfl,(HM.out _ _).2 ⟨rfl,⟨_,_,hsb2⟩,hBV.setCell (Nat.le_add_right n0 2) _,blk_far hN2 (by omega) _,blk_far hR2 (by omega) _⟩⟩
 intro a1 w1 hm
 obtain ⟨ha,⟨ao,ac,hsb⟩,hb,hn,hr⟩:=(HM.out _ _).1 hm
 obtain ⟨f,rfl⟩:=ha.use
 clear HM hm M ha
 obtain ⟨l1,hl1⟩:∃ l,(l0 ++ (if xh=10000 then [] else [(wHeight,fmtL xh)]))=l:=⟨_,rfl⟩
 rw [hl1] at hsb
 have zl1:l1.length≤1:=by rw [← hl1];first | (simp;done) | (rw [List.length_append];split <;> simp only [List.length_cons,List.length_nil] <;> omega)
 have HQl1:=Lh hl1
 clear hl1
 have HSB:=Lh hsb
 have HB:=Lh hb
 have HN:=Lh hn
 have HR:=Lh hr
 have hlt:=blk_lt hn
 have d3:w1.cell? ⟨n0+2,3,none⟩=some (.slice ao l1.length ac):=by rw [blk_cell hsb.1];rfl
 have fz:w1.frozen? ⟨n0+2,3,none⟩=false:=blk_free hsb.1
 have c0:w1.cell? ⟨n0,0,none⟩=some (.string X):=by rw [blk_cell hn];rfl
 have c1:w1.cell? ⟨n0,1,none⟩=some (.string L):=by rw [blk_cell hn];rfl
 clear hsb hb hn hr
 obtain ⟨M,HM⟩:=NodM.box w n0 #[.string X,.string L,.int .i64 xw,.int .i64 xh,.int .i64 xc,.slice po ps.length pc] X (l1 ++ (if lb=nm then [] else [(wLabel,lb)]))
 refine seq_mid M ?_ ?_
 ·by_cases g:lb=nm
  case pos =>
   have bg:(L.toList == X.toList)=true:=by rw [beq_iff_eq,← HLB.out,← HNM.out,g]
   have hgo:l1=(l1 ++ (if lb=nm then [] else [(wLabel,lb)])):=by rw [if_pos g,List.append_nil]
   have HGO:=Lh hgo
   clear g hgo
   go_wp2
   exact (HM.out _ _).2 ⟨rfl,⟨ao,ac,by rw [← HGO.out];exact HSB.out⟩,HB.out,HN.out,HR.out⟩
  have bg:(L.toList == X.toList)=false:=by rw [beq_eq_false_iff_ne,← HLB.out,← HNM.out];intro e;exact g (by simpa using e)
  have hgo:l1 ++ [(wLabel,lb)]=(l1 ++ (if lb=nm then [] else [(wLabel,lb)])):=by rw [if_neg g]
  have HGO:=Lh hgo
  clear g hgo
  have HD:=Lh (Below.refl w1.heap.size w1)
  go_wp2_with (at_builtin;refine ls_pr Tryz.underlying65 info_of_cla rfl (.tmp 25) (.tmp 29) rfl n0 _ _ l1 (wLabel,lb) ⟨#[108,97,98,101,108]⟩ L (by rw [← HLB.out];rfl) w1.heap.size rfl rfl (Lh (row_below HSB.out.2 (al1 ..))) (Lh (blk_new ..)) (by omega) (by simp;omega) ?_;intro gg cap V hown hkp;have hbv:=Lh (al1 w1 (.cells #[.string ⟨#[108,97,98,101,108]⟩,.string L] 69));have hS2:=hkp.out.2 _ _ _ (blk_keep hbv.out HSB.out.1) (by decide);have fz2:V.frozen? ⟨n0+2,3,none⟩=false:=blk_free hS2;have d32:V.cell? ⟨n0+2,3,none⟩=some (.slice ao l1.length ac):=(by rw [blk_cell hS2];rfl);clear hS2)
  have hbv:=hbv.out
  have hN2:=hkp.out.2 _ _ _ (blk_keep hbv HN.out) (by decide)
  have hS2:=hkp.out.2 _ _ _ (blk_keep hbv HSB.out.1) (by decide)
  have hR2:=hkp.out.2 _ _ _ (blk_keep hbv HR.out) (by decide)
  have hsb2:=HSB.out.store hbv hown.out hkp.out
  rw [HGO.out] at hsb2
  have hBV:=HB.out.trans ((hbv.mono (by omega)).trans hkp.out.1)
  exact (HM.out _ _).2 ⟨rfl,⟨_,_,hsb2⟩,hBV.setCell (Nat.le_add_right n0 2) _,blk_far hN2 (by omega) _,blk_far hR2 (by omega) _⟩
 intro a1 w1 hm
 obtain ⟨ha,⟨ao,ac,hsb⟩,hb,hn,hr⟩:=(HM.out _ _).1 hm
 obtain ⟨f,rfl⟩:=ha.use
 clear HM hm M ha
 obtain ⟨l2,hl2⟩:∃ l,(l1 ++ (if lb=nm then [] else [(wLabel,lb)]))=l:=⟨_,rfl⟩
 rw [hl2] at hsb
 have zl2:l2.length≤2:=by rw [← hl2];first | (simp;done) | (rw [List.length_append];split <;> simp only [List.length_cons,List.length_nil] <;> omega)
 have HQl2:=Lh hl2
 clear hl2
 have HSB:=Lh hsb
 have HB:=Lh hb
 have HN:=Lh hn
 have HR:=Lh hr
 have hlt:=blk_lt hn
 have d3:w1.cell? ⟨n0+2,3,none⟩=some (.slice ao l2.length ac):=by rw [blk_cell hsb.1];rfl
 have fz:w1.frozen? ⟨n0+2,3,none⟩=false:=blk_free hsb.1
 have c5:w1.cell? ⟨n0,5,none⟩=some (.slice po ps.length pc):=by rw [blk_cell hn];rfl
 clear hsb hb hn hr
 obtain ⟨M,HM⟩:=NodM.box w n0 #[.string X,.string L,.int .i64 xw,.int .i64 xh,.int .i64 xc,.slice po ps.length pc] X (l2 ++ (if ps=[] then [] else [(wPorts,portsT ps)]))
 refine seq_mid M ?_ ?_
 ·by_cases g:ps=[]
  case pos =>
   have bg:decide ((0:Int) < (ps.length:Int))=false:=by rw [g];rfl
   have bg2:decide (0 < ps.length)=false:=by rw [g];rfl
   have hgo:l2=(l2 ++ (if ps=[] then [] else [(wPorts,portsT ps)])):=by rw [if_pos g,List.append_nil]
   have HGO:=Lh hgo
   clear g hgo
   go_wp2
   exact (HM.out _ _).2 ⟨rfl,⟨ao,ac,by rw [← HGO.out];exact HSB.out⟩,HB.out,HN.out,HR.out⟩
  have bg:decide ((0:Int) < (ps.length:Int))=true:=by rw [decide_eq_true_eq];have:=List.length_pos_iff.2 g;omega
  have bg2:decide (0 < ps.length)=true:=by rw [decide_eq_true_eq];exact List.length_pos_iff.2 g
  have hgo:l2 ++ [(wPorts,portsT ps)]=(l2 ++ (if ps=[] then [] else [(wPorts,portsT ps)])):=by rw [if_neg g]
  have HGO:=Lh hgo
  clear g hgo
  go_wp2_with fail
  refine tstart (fun W:World=>W.cell? ⟨n0,5,none⟩=some (.slice po ps.length pc)∧W.cell? ⟨n0+2,3,none⟩=some (.slice ao l2.length ac)) 9 (by kernel_rfl) (⟨s_drew c5,s_drew d3⟩) (fun hHeld=>?_)
  refine ton 0 36 (.pointer (some ⟨n0+2,3,none⟩)) ?_
  refine ton 1 37 (.slice ao l2.length ac) ?_
  refine ton 2 38 (.pointer (some ⟨n0,5,none⟩)) ?_
  refine ton 3 39 (.slice po ps.length pc) ?_
  try simp only [sA,sB,sC]
  refine tgo (i:=4) (by kernel_rfl) rfl (fun K hK=>?_)
  go_simp
  refine (rpts_of _ ps F3 w1.drew (Lh ((h.out.keep (show Below w.heap.size w w1 by rw [HN0.out];exact HB.out)).keep (b_drew w1))) (Lh HX.out.pv) hxp HF3).mono ?_
  rintro e w2 ⟨rfl,hb2⟩
  have HB2:=Lh (below_keep hb2 (b_drew w1))
  clear hb2
  refine hK.out _ _ (fun _=>⟨cell_later' HB2.out c5,cell_later' HB2.out d3⟩) (fun hHeld=>?_)
  replace hHeld:=hHeld (by decide)
  clear hK K
  try simp only [sA,sB,sC]
  refine ton 5 41 (.agg #[.string ⟨#[112,111,114,116,115]⟩,.string F3]) ?_
  try simp only [sA,sB,sC]
  refine tgo (i:=6) (by kernel_rfl) rfl (fun K hK=>?_)
  go_simp
  refine hK.out _ _ (fun _=>⟨s_alloc (cell_later' HB2.out c5),s_alloc (cell_later' HB2.out d3)⟩) (fun hHeld=>?_)
  replace hHeld:=hHeld (by decide)
  clear hK K
  try simp only [sA,sB,sC]
  have hbv:Below w1.heap.size w1 (w2.alloc (.cells #[.string ⟨#[112,111,114,116,115]⟩,.string F3] 69)):=below_keep (al1 ..) HB2.out
  have hkn:=blk_new w2 #[.string ⟨#[112,111,114,116,115]⟩,.string F3] 69
  have hzv:=hbv.size
  refine tgo (i:=7) (by kernel_rfl) rfl (fun K hK=>?_)
  refine st_pr Tryz.underlying65 info_of_cla rfl (.tmp 37) (.tmp 42) rfl n0 _ _ l2 (wPorts,portsT ps) ⟨#[112,111,114,116,115]⟩ F3 (by rw [← HF3.out];rfl) w2.heap.size rfl rfl (Lh (row_below HSB.out.2 hbv)) (Lh hkn) (by omega) (by omega) ?_
  intro gg cap V hown hkp
  have hN2:=hkp.out.2 _ _ _ (blk_keep hbv HN.out) (by decide)
  have hS2:=hkp.out.2 _ _ _ (blk_keep hbv HSB.out.1) (by decide)
  have hR2:=hkp.out.2 _ _ _ (blk_keep hbv HR.out) (by decide)
  have fz2:V.frozen? ⟨n0+2,3,none⟩=false:=blk_free hS2
  have d32:V.cell? ⟨n0+2,3,none⟩=some (.slice ao l2.length ac):=by rw [blk_cell hS2];rfl
  refine hK.out _ _ (fun _=>⟨by rw [blk_cell hN2];rfl,d32⟩) (fun hHeld=>?_)
  replace hHeld:=hHeld (by decide)
  clear hK K
  try simp only [sA,sB,sC]
  refine ton 8 44 (.pointer (some ⟨n0+2,3,none⟩)) ?_
  try simp only [sA,sB,sC]
  refine tgo (i:=9) (by kernel_rfl) rfl (fun K hK=>?_)
  go_simp
  refine hK.out _ _ (fun h=>absurd rfl h) (fun hHeld=>?_)
  clear hK K hHeld
  try simp only [sA,sB,sC]
  refine tdone (by kernel_rfl) ?_ _
  have hsb2:=HSB.out.store hbv hown.out hkp.out
  rw [HGO.out] at hsb2
  have hBV:=HB.out.trans ((hbv.mono (by omega)).trans hkp.out.1)
  exact ⟨rfl,(HM.out _ _).2 ⟨rfl,⟨_,_,hsb2⟩,hBV.setCell (Nat.le_add_right n0 2) _,blk_far hN2 (by omega) _,blk_far hR2 (by omega) _⟩⟩
 intro a1 w1 hm
 obtain ⟨ha,⟨ao,ac,hsb⟩,hb,hn,hr⟩:=(HM.out _ _).1 hm
 obtain ⟨f,rfl⟩:=ha.use
 clear HM hm M ha
 obtain ⟨l3,hl3⟩:∃ l,(l2 ++ (if ps=[] then [] else [(wPorts,portsT ps)]))=l:=⟨_,rfl⟩
 rw [hl3] at hsb
 have zl3:l3.length≤3:=by rw [← hl3];first | (simp;done) | (rw [List.length_append];split <;> simp only [List.length_cons,List.length_nil] <;> omega)
 have HQl3:=Lh hl3
 clear hl3
 have HSB:=Lh hsb
 have HB:=Lh hb
 have HN:=Lh hn
 have HR:=Lh hr
 have hlt:=blk_lt hn
 have d3:w1.cell? ⟨n0+2,3,none⟩=some (.slice ao l3.length ac):=by rw [blk_cell hsb.1];rfl
 have fz:w1.frozen? ⟨n0+2,3,none⟩=false:=blk_free hsb.1
 have c2:w1.cell? ⟨n0,2,none⟩=some (.int .i64 xw):=by rw [blk_cell hn];rfl
 clear hsb hb hn hr
 obtain ⟨M,HM⟩:=NodM.box w n0 #[.string X,.string L,.int .i64 xw,.int .i64 xh,.int .i64 xc,.slice po ps.length pc] X (l3 ++ (if xw=20000 then [] else [(wWidth,fmtL xw)]))
 refine seq_mid M ?_ ?_
 ·by_cases g:xw=20000
  case pos =>
   have bg:(xw != 20000)=false:=by rw [g];rfl
   have hgo:l3=(l3 ++ (if xw=20000 then [] else [(wWidth,fmtL xw)])):=by rw [if_pos g,List.append_nil]
   have HGO:=Lh hgo
   clear g hgo
   go_wp2
   exact (HM.out _ _).2 ⟨rfl,⟨ao,ac,by rw [← HGO.out];exact HSB.out⟩,HB.out,HN.out,HR.out⟩
  have bg:(xw != 20000)=true:=by rw [bne_iff_ne];exact g
  have hgo:l3 ++ [(wWidth,fmtL xw)]=(l3 ++ (if xw=20000 then [] else [(wWidth,fmtL xw)])):=by rw [if_neg g]
  have HGO:=Lh hgo
  clear g hgo
  go_wp2_with fail
  refine tstart (fun W:World=>W.cell? ⟨n0,2,none⟩=some (.int .i64 xw)∧W.cell? ⟨n0+2,3,none⟩=some (.slice ao l3.length ac)) 9 (by kernel_rfl) (⟨s_drew c2,s_drew d3⟩) (fun hHeld=>?_)
  refine ton 0 48 (.pointer (some ⟨n0+2,3,none⟩)) ?_
  refine ton 1 49 (.slice ao l3.length ac) ?_
  refine ton 2 50 (.pointer (some ⟨n0,2,none⟩)) ?_
  refine ton 3 51 (.int .i64 xw) ?_
  try simp only [sA,sB,sC]
  refine tgo (i:=4) (by kernel_rfl) rfl (fun K hK=>?_)
  go_simp
  refine (rfmt_of xw F2 _ (by omega) (by omega) HF2).mono ?_
  rintro e w2 ⟨rfl,rfl⟩
  refine hK.out _ _ (fun _=>(by (try dsimp only at hHeld);repeat (first | assumption | (with_reducible refine s_drew ?_) | (with_reducible refine s_alloc ?_) | (with_reducible refine s_set (by simp only;omega) ?_)))) (fun hHeld=>?_)
  replace hHeld:=hHeld (by decide)
  clear hK K
  try simp only [sA,sB,sC]
  refine ton 5 53 (.agg #[.string ⟨#[119,105,100,116,104]⟩,.string F2]) ?_
  try simp only [sA,sB,sC]
  refine tgo (i:=6) (by kernel_rfl) rfl (fun K hK=>?_)
  go_simp
  refine hK.out _ _ (fun _=>⟨s_drew (s_alloc c2),s_drew (s_alloc d3)⟩) (fun hHeld=>?_)
  replace hHeld:=hHeld (by decide)
  clear hK K
  try simp only [sA,sB,sC]
  have hbv:Below w1.heap.size w1 (w1.alloc (.cells #[.string ⟨#[119,105,100,116,104]⟩,.string F2] 69)).drew:=(al1 ..).drew
  have hkn:=blk_new w1 #[.string ⟨#[119,105,100,116,104]⟩,.string F2] 69
  have hzv:=hbv.size
  refine tgo (i:=7) (by kernel_rfl) rfl (fun K hK=>?_)
  refine st_pr Tryz.underlying65 info_of_cla rfl (.tmp 49) (.tmp 54) rfl n0 _ _ l3 (wWidth,fmtL xw) ⟨#[119,105,100,116,104]⟩ F2 (by rw [← HF2.out];rfl) w1.heap.size rfl rfl (Lh (row_below HSB.out.2 hbv)) (Lh hkn) (by omega) (by omega) ?_
  intro gg cap V hown hkp
  have hN2:=hkp.out.2 _ _ _ (blk_keep hbv HN.out) (by decide)
  have hS2:=hkp.out.2 _ _ _ (blk_keep hbv HSB.out.1) (by decide)
  have hR2:=hkp.out.2 _ _ _ (blk_keep hbv HR.out) (by decide)
  have fz2:V.frozen? ⟨n0+2,3,none⟩=false:=blk_free hS2
  have d32:V.cell? ⟨n0+2,3,none⟩=some (.slice ao l3.length ac):=by rw [blk_cell hS2];rfl
  refine hK.out _ _ (fun _=>⟨by rw [blk_cell hN2];rfl,d32⟩) (fun hHeld=>?_)
  replace hHeld:=hHeld (by decide)
  clear hK K
  try simp only [sA,sB,sC]
  refine ton 8 56 (.pointer (some ⟨n0+2,3,none⟩)) ?_
  try simp only [sA,sB,sC]
  refine tgo (i:=9) (by kernel_rfl) rfl (fun K hK=>?_)
  go_simp
  refine hK.out _ _ (fun h=>absurd rfl h) (fun hHeld=>?_)
  clear hK K hHeld
  try simp only [sA,sB,sC]
  refine tdone (by kernel_rfl) ?_ _
  have hsb2:=HSB.out.store hbv hown.out hkp.out
  rw [HGO.out] at hsb2
  have hBV:=HB.out.trans ((hbv.mono (by omega)).trans hkp.out.1)
  exact ⟨rfl,(HM.out _ _).2 ⟨rfl,⟨_,_,hsb2⟩,hBV.setCell (Nat.le_add_right n0 2) _,blk_far hN2 (by omega) _,blk_far hR2 (by omega) _⟩⟩
 intro a1 w1 hm
 obtain ⟨ha,⟨ao,ac,hsb⟩,hb,hn,hr⟩:=(HM.out _ _).1 hm
 obtain ⟨f,rfl⟩:=ha.use
 clear HM hm M ha hn
 obtain ⟨l4,hl4⟩:∃ l,(l3 ++ (if xw=20000 then [] else [(wWidth,fmtL xw)]))=l:=⟨_,rfl⟩
 rw [hl4] at hsb
 have hA:nodeA ⟨nm,lb,xw,xh,xc,ps⟩=l4:=by
  rw [← hl4,← HQl3.out,← HQl2.out,← HQl1.out,← HQl0.out];unfold nodeA;simp [List.append_assoc]
 have HA:=Lh hA
 clear hl4 hA
 have HSB:=Lh hsb
 have HB:=Lh hb
 have d0:w1.cell? ⟨n0+2,0,none⟩=some (.int .i64 1):=by rw [blk_cell hsb.1];rfl
 have d1:w1.cell? ⟨n0+2,1,none⟩=some (.string X):=by rw [blk_cell hsb.1];rfl
 have d2:w1.cell? ⟨n0+2,2,none⟩=some (.slice none 0 0):=by rw [blk_cell hsb.1];rfl
 have d3:w1.cell? ⟨n0+2,3,none⟩=some (.slice ao l4.length ac):=by rw [blk_cell hsb.1];rfl
 have d4:w1.cell? ⟨n0+2,4,none⟩=some (.slice none 0 0):=by rw [blk_cell hsb.1];rfl
 have f0:w1.frozen? ⟨n0+1,0,none⟩=false:=blk_free hr
 have f1:w1.frozen? ⟨n0+1,1,none⟩=false:=blk_free hr
 have f2:w1.frozen? ⟨n0+1,2,none⟩=false:=blk_free hr
 have f3:w1.frozen? ⟨n0+1,3,none⟩=false:=blk_free hr
 have f4:w1.frozen? ⟨n0+1,4,none⟩=false:=blk_free hr
 have e0:w1.cell? ⟨n0+1,0,none⟩=some (.int .i64 0):=by rw [blk_cell hr];rfl
 have e1:w1.cell? ⟨n0+1,1,none⟩=some (.string ⟨#[]⟩):=by rw [blk_cell hr];rfl
 have e2:w1.cell? ⟨n0+1,2,none⟩=some (.slice none 0 0):=by rw [blk_cell hr];rfl
 have e3:w1.cell? ⟨n0+1,3,none⟩=some (.slice none 0 0):=by rw [blk_cell hr];rfl
 have e4:w1.cell? ⟨n0+1,4,none⟩=some (.slice none 0 0):=by rw [blk_cell hr];rfl
 have HR:=Lh hr
 clear hsb hb hr
 go_wp2
 have hbx:=blk_set5 HR.out (.int .i64 1) (.string X) (.slice none 0 0) (.slice ao l4.length ac) (.slice none 0 0)
 have r0:=blk_cell (o:=0) hbx
 have r1:=blk_cell (o:=1) hbx
 have r2:=blk_cell (o:=2) hbx
 have r3:=blk_cell (o:=3) hbx
 have r4:=blk_cell (o:=4) hbx
 have hBf:=below_set5 HB.out (show n0≤n0+1 by omega) (.int .i64 1) (.string X) (.slice none 0 0) (.slice ao l4.length ac) (.slice none 0 0)
 refine bodyPost_ret (v:=.agg #[.int .i64 1,.string X,.slice none 0 0,.slice ao l4.length ac,.slice none 0 0]) (by simp [results,Tryz.results84,go_sem,r0,r1,r2,r3,r4]) rfl ?_
 have hrow:=row_set5 HSB.out.2 HR.out (by decide) (.int .i64 1) (.string X) (.slice none 0 0) (.slice ao l4.length ac) (.slice none 0 0)
 refine ⟨by rw [HN0.out];exact hBf,_,rfl,none,0,ao,ac,none,0,by rw [← HNM.out];show _=Value.agg #[_,_,_,.slice ao (nodeA _).length ac,_];rw [HA.out];rfl,fun W hW=>⟨hl,Prs.nil W,?_,Sts.nil W⟩⟩
 have hbn:∀ r∈l4,r.1.length≤maxLen∧r.2.length≤maxLen:=by
  rw [← HA.out];exact nodeA_bnd HX.out
 have hp:=own_selfP hrow (Nat.le_refl n0) hbn
 show Prs W (.slice ao (nodeA _).length ac) (nodeA _)
 rw [HA.out]
 refine hp W ?_
 rw [HN0.out] at hW
 exact hW
end Go.Proofs.YtgmidodmmlmmeaaGreatDoor.xpt
