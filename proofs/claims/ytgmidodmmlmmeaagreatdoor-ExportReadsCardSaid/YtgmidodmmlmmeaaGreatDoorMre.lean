/-
  The landed parser's methods defaults and set. Condition: tokens of a source.
  The landed parser's method nodeOrEdge. Condition: tokens of a source.
-/
import Derived.Test.YtgmidodmmlmmeaaGreatDoorMrd
namespace Go.Proofs.YtgmidodmmlmmeaaGreatDoor.par
open Go.RowKit lex tre prt
def Sm (lo:Nat)(a b:World):Prop:=a.heap.size≤b.heap.size∧∀ q,lo≤q→q < a.heap.size→b.heap[q]?=a.heap[q]?
theorem Sm.refl (lo:Nat)(a:World):Sm lo a a:=⟨Nat.le_refl _,fun _ _ _=>rfl⟩
theorem Sm.pk {lo R:Nat}{a b c:World}(h:Sm lo a b)(k:Pk R b c)(hR:R < lo):Sm lo a c:=⟨Nat.le_trans h.1 k.size,fun q h1 h2=>(k.block q (by omega) (Nat.lt_of_lt_of_le h2 h.1)).trans (h.2 q h1 h2)⟩
theorem Sm.alloc {lo:Nat}{a b:World}(h:Sm lo a b)(o:Obj):Sm lo a (b.alloc o):=⟨by have:=h.1;simp;omega,fun q h1 h2=>by rw [heap_alloc_old b _ (Nat.lt_of_lt_of_le h2 h.1)];exact h.2 q h1 h2⟩
theorem Sm.store {lo:Nat}{a b:World}(h:Sm lo a b){g o:Nat}(hg:g < lo∨a.heap.size≤g)(u:Value):Sm lo a (b.setCell ⟨g,o,none⟩ u) :=
 ⟨by simpa [World.setCell] using h.1,fun q h1 h2=>by rw [Below.heap_setCell _ _ _ _ (show q≠g by omega)];exact h.2 q h1 h2⟩
theorem Sm.grown {lo:Nat}{a b c:World}{row:Option Nat}(h:Sm lo a b)(hg:b.grownBy c row)(hr:∀ q,row=some q→q < lo∨a.heap.size≤q):Sm lo a c :=
 ⟨Nat.le_trans h.1 hg.size,fun q h1 h2=>(hg.block q (Nat.lt_of_lt_of_le h2 h.1) (fun e=>by have:=hr q e.symm;omega)).trans (h.2 q h1 h2)⟩
theorem Sm.agree {lo lo':Nat}{w w' W:World}(k:agree lo' w'.heap.size w' W)(h:Sm lo w w')(hl:lo'≤lo):agree lo w.heap.size w W:=fun q h1 h2=>by
 rw [k q (by omega) (Nat.lt_of_lt_of_le h2 h.1)];exact h.2 q h1 h2
theorem selfP.sm {lo lo':Nat}{w w' W:World}{v:Value}{l:List Pr}(h:selfP lo w v l)(hs:Sm lo w w')(hl:lo'≤lo)(hW:agree lo' w'.heap.size w' W):Prs W v l:=h W (hs.agree hW hl)
theorem selfL.sm {lo lo':Nat}{w w' W:World}{v:Value}{l:List St}(h:selfL lo w v l)(hs:Sm lo w w')(hl:lo'≤lo)(hW:par.agree lo' w'.heap.size w' W):Sts W v l:=h W (hs.agree hW hl)
def VSt (s:St)(w w':World)(v:Value):Prop:=∃ ro rc ao ac bo bc,v=.agg #[.int .i64 s.kind,.string (bb s.name),.slice ro s.refs.length rc,.slice ao s.attrs.length ac,.slice bo s.body.length bc] ∧
 ∀ W,agree w.heap.size w'.heap.size w' W→svOk W ⟨s,.slice ro s.refs.length rc,.slice ao s.attrs.length ac,.slice bo s.body.length bc⟩
def dfltR (kw:List UInt8)(l:List Tok):Rz St:=(attrsR fmtL l).bnd fun a l=>(wantM [59] l).bnd fun _ l=>.ok (.mk 3 kw [] a []) l
abbrev stZ:Array Value:=#[.int .i64 0,.string ⟨#[]⟩,.slice none 0 0,.slice none 0 0,.slice none 0 0]
set_option maxRecDepth 100000 in
set_option maxHeartbeats 4000000 in
theorem defaults_of (L:List Tok)(hL:Hid (TokL L))(R:Nat)(l:List Tok)(A:ByteArray)(lev:Int)(kw:List UInt8)(KW:ByteArray)(hkw:bb kw=KW)(hkm:kw.length≤maxLen)(x:Rz St)(w:World)(h:Hid (Rd L R w l A lev))(hx:Hid (dfltR kw l=x)) :
    Calls Tryz.prog 233 #[.pointer (some ⟨R,0,none⟩),.string KW] w (Out L R A lev VSt w x):=by
 have HKW:=Lh hkw
 have HKM:=Lh hkm
 have HRl:=Lh h.out.lt
 have hR1:w.heap.size≠R:=by have:=HRl.out;omega
 have HK:=Lh (blk_new w stZ 67)
 have HB:=Lh (al1 w (.cells stZ 67))
 have HZ0:Hid ((w.alloc (.cells stZ 67)).heap.size=w.heap.size+1):=Lh (by simp)
 clear hkw hkm
 go_enter Tryz.func233,Tryz.ntmps233
 go_wp2_with fail
 refine (attrs_of L hL R l A lev _ _ (Lh (h.out.below HB.out)) (Lh rfl)).mono ?_
 rintro e w1 ⟨hp1,hx1⟩
 have HP1:=Lh ((Pk.below (R:=R) HB.out).trans hp1)
 have HK1:=Lh (hp1.blk hR1 HK.out)
 cases hn:attrsR fmtL l with
 | er c l1 =>
  rw [hn] at hx1
  obtain rfl:=hx1
  exact ⟨rfl,Out.pn (by rw [← hx.out];unfold dfltR;rw [hn];rfl) HP1.out⟩
 | ok a l1 =>
  rw [hn] at hx1
  obtain ⟨av,rfl,hself,hr1⟩:=hx1
  obtain ⟨ao,ac,rfl⟩:=selfP.form hself
  have HS:=Lh hself
  have HR1:=Lh hr1
  have HN:=Lh hn
  have HS1:Hid (w.heap.size < w1.heap.size):=Lh (by have:=hp1.size;have:=HZ0.out;omega)
  have HBa:=Lh (al1 w1 (.cells #[.int .i64 3,.string KW,.slice none 0 0,.slice ao a.length ac,.slice none 0 0] 67))
  have HKa:=Lh (blk_new w1 #[.int .i64 3,.string KW,.slice none 0 0,.slice ao a.length ac,.slice none 0 0] 67)
  have HK2:=Lh ((Pk.below (R:=R) HBa.out).blk hR1 HK1.out)
  have hR2:w1.heap.size≠R:=by have:=HRl.out;have:=HS1.out;omega
  have hne:w.heap.size≠w1.heap.size:=by have:=HS1.out;omega
  clear hp1 hr1 hn hself
  go_wp2_with fail
  refine (expect_mk L hL R l1 A lev [59] _ _ _ rfl (Lh (HR1.out.below HBa.out)) (by decide) (Lh rfl)).mono ?_
  rintro e w2 ⟨hp2,hx2⟩
  have HP2:=Lh ((HP1.out.trans (Pk.below HBa.out)).trans hp2)
  have HK3:=Lh (hp2.blk hR1 HK2.out)
  have HKb:=Lh (hp2.blk hR2 HKa.out)
  cases hn2:wantM [59] l1 with
  | er c l2 =>
   rw [hn2] at hx2
   obtain rfl:=hx2
   exact ⟨rfl,Out.pn (by rw [← hx.out];unfold dfltR;rw [HN.out,bnd_ok,hn2];rfl) HP2.out⟩
  | ok u l2 =>
   rw [hn2] at hx2
   obtain ⟨v2,rfl,rfl,hr2⟩:=hx2
   have HR2:=Lh hr2
   have HX2:Hid (.ok (.mk 3 kw [] a []) l2=x):=Lh (by rw [← hx.out];unfold dfltR;rw [HN.out,bnd_ok,hn2];rfl)
   have HSm:Hid (Sm (w.heap.size+1) w1 w2):=Lh (((Sm.refl _ _).alloc _).pk hp2 (by have:=HRl.out;omega))
   have a0:w2.cell? ⟨w1.heap.size,0,none⟩=some (.int .i64 3):=by rw [blk_cell HKb.out];rfl
   have a1:w2.cell? ⟨w1.heap.size,1,none⟩=some (.string KW):=by rw [blk_cell HKb.out];rfl
   have a2:w2.cell? ⟨w1.heap.size,2,none⟩=some (.slice none 0 0):=by rw [blk_cell HKb.out];rfl
   have a3:w2.cell? ⟨w1.heap.size,3,none⟩=some (.slice ao a.length ac):=by rw [blk_cell HKb.out];rfl
   have a4:w2.cell? ⟨w1.heap.size,4,none⟩=some (.slice none 0 0):=by rw [blk_cell HKb.out];rfl
   have b0:w2.cell? ⟨w.heap.size,0,none⟩=some (.int .i64 0):=by rw [blk_cell HK3.out];rfl
   have b1:w2.cell? ⟨w.heap.size,1,none⟩=some (.string ⟨#[]⟩):=by rw [blk_cell HK3.out];rfl
   have b2:w2.cell? ⟨w.heap.size,2,none⟩=some (.slice none 0 0):=by rw [blk_cell HK3.out];rfl
   have b3:w2.cell? ⟨w.heap.size,3,none⟩=some (.slice none 0 0):=by rw [blk_cell HK3.out];rfl
   have b4:w2.cell? ⟨w.heap.size,4,none⟩=some (.slice none 0 0):=by rw [blk_cell HK3.out];rfl
   have g0:w2.frozen? ⟨w.heap.size,0,none⟩=false:=blk_free HK3.out
   have g1:w2.frozen? ⟨w.heap.size,1,none⟩=false:=blk_free HK3.out
   have g2:w2.frozen? ⟨w.heap.size,2,none⟩=false:=blk_free HK3.out
   have g3:w2.frozen? ⟨w.heap.size,3,none⟩=false:=blk_free HK3.out
   have g4:w2.frozen? ⟨w.heap.size,4,none⟩=false:=blk_free HK3.out
   clear hp2 hr2 hn2
   go_wp2
   refine bodyPost_ret (v:=.agg #[.int .i64 3,.string KW,.slice none 0 0,.slice ao a.length ac,.slice none 0 0]) (by simp [results,Tryz.results233,go_sem,b0,b1,b2,b3,b4]) rfl ?_
   refine Out.ok HX2.out ?_ ⟨none,0,ao,ac,none,0,by rw [← HKW.out];rfl,fun W hW=>⟨HKM.out,Prs.nil W,HS.out.sm (by rw [HZ0.out];exact ((((HSm.out.store (Or.inl (Nat.lt_succ_self _)) _).store (Or.inl (Nat.lt_succ_self _)) _).store (Or.inl (Nat.lt_succ_self _)) _).store (Or.inl (Nat.lt_succ_self _)) _).store (Or.inl (Nat.lt_succ_self _)) _) (by rw [HZ0.out];omega) hW,Sts.nil W⟩⟩ ?_
   ·exact ((((HP2.out.store (Nat.le_refl _) _).store (Nat.le_refl _) _).store (Nat.le_refl _) _).store (Nat.le_refl _) _).store (Nat.le_refl _) _
   ·exact ((((HR2.out.store HRl.out _).store HRl.out _).store HRl.out _).store HRl.out _).store HRl.out _
theorem st5 {W:World}{g:Nat}{t:TypeId}{a b c d e:Value}(h:blk W g t #[a,b,c,d,e]):W.cell? ⟨g,0,none⟩=some a∧W.cell? ⟨g,1,none⟩=some b∧W.cell? ⟨g,2,none⟩=some c∧W.cell? ⟨g,3,none⟩=some d∧W.cell? ⟨g,4,none⟩=some e ∧
    W.frozen? ⟨g,0,none⟩=false∧W.frozen? ⟨g,1,none⟩=false∧W.frozen? ⟨g,2,none⟩=false∧W.frozen? ⟨g,3,none⟩=false∧W.frozen? ⟨g,4,none⟩=false:=by
 refine ⟨?_,?_,?_,?_,?_,blk_free h,blk_free h,blk_free h,blk_free h,blk_free h⟩ <;> rw [blk_cell h] <;> rfl
theorem blk_far {W:World}{g g' o:Nat}{t:TypeId}{arr:Array Value}(h:blk W g t arr)(hne:g≠g')(u:Value):blk (W.setCell ⟨g',o,none⟩ u) g t arr:=by
 unfold blk at h ⊢;rw [Below.heap_setCell _ _ _ _ hne];exact h
theorem Sm.five {lo:Nat}{a b:World}(h:Sm lo a b){g:Nat}(hg:g < lo∨a.heap.size≤g)(v0 v1 v2 v3 v4:Value):Sm lo a (((((b.setCell ⟨g,0,none⟩ v0).setCell ⟨g,1,none⟩ v1).setCell ⟨g,2,none⟩ v2).setCell ⟨g,3,none⟩ v3).setCell ⟨g,4,none⟩ v4) :=
 ((((h.store hg _).store hg _).store hg _).store hg _).store hg _
theorem Pk.five {R:Nat}{a b:World}(h:Pk R a b){g:Nat}(hg:a.heap.size≤g)(v0 v1 v2 v3 v4:Value):Pk R a (((((b.setCell ⟨g,0,none⟩ v0).setCell ⟨g,1,none⟩ v1).setCell ⟨g,2,none⟩ v2).setCell ⟨g,3,none⟩ v3).setCell ⟨g,4,none⟩ v4) :=
 ((((h.store hg _).store hg _).store hg _).store hg _).store hg _
theorem Rd.five {L:List Tok}{R:Nat}{w:World}{l:List Tok}{A:ByteArray}{lev:Int}(h:Rd L R w l A lev){g:Nat}(hg:R < g)(v0 v1 v2 v3 v4:Value):Rd L R (((((w.setCell ⟨g,0,none⟩ v0).setCell ⟨g,1,none⟩ v1).setCell ⟨g,2,none⟩ v2).setCell ⟨g,3,none⟩ v3).setCell ⟨g,4,none⟩ v4) l A lev :=
 ((((h.store hg _).store hg _).store hg _).store hg _).store hg _
def setR (l:List Tok):Rz St:=(nameR l).bnd fun x l=>(wantM [61] l).bnd fun _ l=>(valR fmtL l).bnd fun v l=>(wantM [59] l).bnd fun _ l=>.ok (.mk 4 x [] [([],v)] []) l
set_option maxRecDepth 100000 in
set_option maxHeartbeats 4000000 in
theorem set_of (L:List Tok)(hL:Hid (TokL L))(R:Nat)(l:List Tok)(A:ByteArray)(lev:Int)(x:Rz St)(w:World)(h:Hid (Rd L R w l A lev))(hx:Hid (setR l=x)) :
    Calls Tryz.prog 234 #[.pointer (some ⟨R,0,none⟩)] w (Out L R A lev VSt w x):=by
 have HRl:=Lh h.out.lt
 have hR1:w.heap.size≠R:=by have:=HRl.out;omega
 have HK:=Lh (blk_new w stZ 67)
 have HB:=Lh (al1 w (.cells stZ 67))
 have HZ0:Hid ((w.alloc (.cells stZ 67)).heap.size=w.heap.size+1):=Lh (by simp)
 go_enter Tryz.func234,Tryz.ntmps234
 go_wp2_with fail
 refine (name_of L hL R l A lev _ _ (Lh (h.out.below HB.out)) (Lh rfl)).mono ?_
 rintro e w1 ⟨hp1,hx1⟩
 have HP1:=Lh ((Pk.below (R:=R) HB.out).trans hp1)
 have HK1:=Lh (hp1.blk hR1 HK.out)
 cases hn:nameR l with
 | er c l1 =>
  rw [hn] at hx1
  obtain rfl:=hx1
  exact ⟨rfl,Out.pn (by rw [← hx.out];unfold setR;rw [hn];rfl) HP1.out⟩
 | ok k l1 =>
  rw [hn] at hx1
  obtain ⟨v1,rfl,⟨rfl,hk1⟩,hr1⟩:=hx1
  obtain ⟨X,hX⟩:∃ X,bb k=X:=⟨_,rfl⟩
  rw [hX]
  have HX:=Lh hX
  have HKl:=Lh hk1
  have HR1:=Lh hr1
  have HN:=Lh hn
  have HS1:Hid (w.heap.size < w1.heap.size):=Lh (by have:=hp1.size;have:=HZ0.out;omega)
  have HBa:=Lh (al1 w1 (.cells #[.int .i64 4,.string X,.slice none 0 0,.slice none 0 0,.slice none 0 0] 67))
  have HKa:=Lh (blk_new w1 #[.int .i64 4,.string X,.slice none 0 0,.slice none 0 0,.slice none 0 0] 67)
  have HK2:=Lh ((Pk.below (R:=R) HBa.out).blk hR1 HK1.out)
  have HZa:Hid ((w1.alloc (.cells #[.int .i64 4,.string X,.slice none 0 0,.slice none 0 0,.slice none 0 0] 67)).heap.size=w1.heap.size+1):=Lh (by simp)
  have hR2:w1.heap.size≠R:=by have:=HRl.out;have:=HS1.out;omega
  have hne:w.heap.size≠w1.heap.size:=by have:=HS1.out;omega
  clear hp1 hr1 hn hX hk1
  go_wp2_with fail
  refine (expect_mk L hL R l1 A lev [61] _ _ _ rfl (Lh (HR1.out.below HBa.out)) (by decide) (Lh rfl)).mono ?_
  rintro e w2 ⟨hp2,hx2⟩
  have HP2:=Lh ((HP1.out.trans (Pk.below HBa.out)).trans hp2)
  have HK3:=Lh (hp2.blk hR1 HK2.out)
  have HKb:=Lh (hp2.blk hR2 HKa.out)
  have HS2:Hid (w1.heap.size < w2.heap.size):=Lh (by have:=hp2.size;have:=HZa.out;omega)
  cases hn2:wantM [61] l1 with
  | er c l2 =>
   rw [hn2] at hx2
   obtain rfl:=hx2
   exact ⟨rfl,Out.pn (by rw [← hx.out];unfold setR;rw [HN.out,bnd_ok,hn2];rfl) HP2.out⟩
  | ok u l2 =>
   rw [hn2] at hx2
   obtain ⟨v2,rfl,rfl,hr2⟩:=hx2
   have HR2:=Lh hr2
   have HN2:=Lh hn2
   clear hp2 hr2 hn2
   go_wp2_with fail
   refine (value_of L hL R l2 A lev _ _ HR2 (Lh rfl)).mono ?_
   rintro e w3 ⟨hp3,hx3⟩
   have HP3:=Lh (HP2.out.trans hp3)
   have HK4:=Lh (hp3.blk hR1 HK3.out)
   have HKc:=Lh (hp3.blk hR2 HKb.out)
   have HS3:Hid (w1.heap.size < w3.heap.size):=Lh (Nat.lt_of_lt_of_le HS2.out hp3.size)
   cases hn3:valR fmtL l2 with
   | er c l3 =>
    rw [hn3] at hx3
    obtain rfl:=hx3
    exact ⟨rfl,Out.pn (by rw [← hx.out];unfold setR;rw [HN.out,bnd_ok,HN2.out,bnd_ok,hn3];rfl) HP3.out⟩
   | ok y l3 =>
    rw [hn3] at hx3
    obtain ⟨v3,rfl,⟨rfl,hk3⟩,hr3⟩:=hx3
    have HY:=Lh hk3
    have HN3:=Lh hn3
    have HO4:Hid (selfP w3.heap.size (w3.alloc (.cells #[.string ⟨#[]⟩,.string (bb y)] 69)) (.slice (some ⟨w3.heap.size,0,none⟩) 1 1) [([],y)]):=Lh (own_selfP (lo:=w3.heap.size) (own_two (w:=w3) (B:=w3.heap.size) (e:=69) ([],y) (Nat.le_refl _)) (Nat.le_refl _) (okLen.one (r:=([],y)) ⟨Nat.zero_le _,hk3⟩).max)
    have hal:=al1 w3 (.cells #[.string ⟨#[]⟩,.string (bb y)] 69)
    have HK5:=Lh ((Pk.below (R:=R) hal).blk hR1 HK4.out)
    have HKd:=Lh ((Pk.below (R:=R) hal).blk hR2 HKc.out)
    have HR4:=Lh (hr3.below hal)
    have HP4:=Lh (HP3.out.trans (Pk.below hal))
    have HZ4:Hid ((w3.alloc (.cells #[.string ⟨#[]⟩,.string (bb y)] 69)).heap.size=w3.heap.size+1):=Lh (by simp)
    obtain ⟨-,-,-,d3,-,-,-,-,e3,-⟩:=st5 HKd.out
    clear hp3 hr3 hn3 hk3 hal
    go_wp2_with fail
    have HRw:Hid (R < w1.heap.size):=Lh (by have:=HRl.out;have:=HS1.out;omega)
    have HR5:=Lh (HR4.out.store (o:=3) HRw.out (.slice (some ⟨w3.heap.size,0,none⟩) 1 1))
    have HP5:=Lh (HP4.out.store (o:=3) (Nat.le_of_lt HS1.out) (.slice (some ⟨w3.heap.size,0,none⟩) 1 1))
    have HKe:=Lh (blk_set (o:=3) HKd.out (.slice (some ⟨w3.heap.size,0,none⟩) 1 1))
    have HK6:=Lh (blk_far HK5.out hne (.slice (some ⟨w3.heap.size,0,none⟩) 1 1) (o:=3))
    have HSm:=Lh ((Sm.refl w3.heap.size (w3.alloc (.cells #[.string ⟨#[]⟩,.string (bb y)] 69))).store (g:=w1.heap.size) (o:=3) (Or.inl HS3.out) (.slice (some ⟨w3.heap.size,0,none⟩) 1 1))
    clear d3 e3
    generalize (w3.alloc (.cells #[.string ⟨#[]⟩,.string (bb y)] 69)).setCell ⟨w1.heap.size,3,none⟩ (.slice (some ⟨w3.heap.size,0,none⟩) 1 1)=w5 at HR5 HP5 HKe HK6 HSm ⊢
    refine (expect_mk L hL R l3 A lev [59] _ _ _ rfl HR5 (by decide) (Lh rfl)).mono ?_
    rintro e w6 ⟨hp6,hx6⟩
    have HP6:=Lh (HP5.out.trans hp6)
    have HK7:=Lh (hp6.blk hR1 HK6.out)
    have HKf:=Lh (hp6.blk hR2 HKe.out)
    cases hn6:wantM [59] l3 with
    | er c l6 =>
     rw [hn6] at hx6
     obtain rfl:=hx6
     exact ⟨rfl,Out.pn (by rw [← hx.out];unfold setR;rw [HN.out,bnd_ok,HN2.out,bnd_ok,HN3.out,bnd_ok,hn6];rfl) HP6.out⟩
    | ok u l6 =>
     rw [hn6] at hx6
     obtain ⟨v6,rfl,rfl,hr6⟩:=hx6
     have HR6:=Lh hr6
     have HX6:Hid (.ok (.mk 4 k [] [([],y)] []) l6=x):=Lh (by rw [← hx.out];unfold setR;rw [HN.out,bnd_ok,HN2.out,bnd_ok,HN3.out,bnd_ok,hn6];rfl)
     have HSm6:=Lh (HSm.out.pk hp6 (Nat.lt_trans HRw.out HS3.out))
     obtain ⟨a0,a1,a2,a3,a4,-⟩:=st5 (show blk w6 w1.heap.size 67 #[.int .i64 4,.string X,.slice none 0 0,.slice (some ⟨w3.heap.size,0,none⟩) 1 1,.slice none 0 0] from HKf.out)
     obtain ⟨b0,b1,b2,b3,b4,g0,g1,g2,g3,g4⟩:=st5 HK7.out
     clear hp6 hr6 hn6
     go_wp2
     refine bodyPost_ret (v:=.agg #[.int .i64 4,.string X,.slice none 0 0,.slice (some ⟨w3.heap.size,0,none⟩) 1 1,.slice none 0 0]) (by simp [results,Tryz.results234,go_sem,b0,b1,b2,b3,b4]) rfl ?_
     refine Out.ok HX6.out (HP6.out.five (Nat.le_refl _) _ _ _ _ _) ⟨none,0,_,1,none,0,by rw [← HX.out];rfl,fun W hW=>⟨Nat.le_trans HKl.out (by decide),Prs.nil W,HO4.out.sm (HSm6.out.five (Or.inl (Nat.lt_trans HS1.out HS3.out)) _ _ _ _ _) (Nat.le_of_lt (Nat.lt_trans HS1.out HS3.out)) hW,Sts.nil W⟩⟩ (HR6.out.five HRl.out _ _ _ _ _)
def tailR (s:List Pr→St)(l:List Tok):Rz St:=(optR fmtL l).bnd fun a l=>(wantM [59] l).bnd fun _ l=>.ok (s a) l
theorem chain_eq (d:Bool)(l:List Tok):chainR fmtL d l=(refR l).bnd fun f l=>if f.2≠[]∨isT 5 (arrow d) l=true then (refsR d f l).bnd fun rs l=>tailR (fun a=>.mk 2 [] rs a []) l else tailR (fun a=>.mk 1 f.1 [] a []) l:=by
 unfold chainR
 congr 1
 funext f l
 split
 ·unfold refsR
  cases wantM (arrow d) l with
  | er c l1=>rfl
  | ok u l1 =>
   rw [bnd_ok,bnd_ok]
   cases refR l1 with
   | er c l2=>rfl
   | ok r l2 =>
    rw [bnd_ok,bnd_ok]
    cases refsF d (l2.length+1) l2 <;> rfl
 ·rfl
theorem cell_far {w:World}{g g' o o':Nat}{v u:Value}(h:w.cell? ⟨g,o,none⟩=some v)(hne:g≠g'):(w.setCell ⟨g',o',none⟩ u).cell? ⟨g,o,none⟩=some v:=by
 rw [World.cell?_of_block (w:=w) (Below.heap_setCell _ _ _ _ hne)];exact h
theorem selfP.mono {lo lo':Nat}{w:World}{v:Value}{l:List Pr}(h:selfP lo w v l)(hl:lo'≤lo):selfP lo' w v l:=fun _ hW=>h.sm (Sm.refl _ _) hl hW
set_option maxRecDepth 100000 in
set_option maxHeartbeats 8000000 in
theorem nodeOrEdge_of (L:List Tok)(hL:Hid (TokL L))(R:Nat)(l:List Tok)(d:Bool)(A:ByteArray)(hA:bb (arrow d)=A)(lev:Int)(x:Rz St)(w:World)(h:Hid (Rd L R w l A lev))(hx:Hid (chainR fmtL d l=x)) :
    Calls Tryz.prog 236 #[.pointer (some ⟨R,0,none⟩)] w (Out L R A lev VSt w x):=by
 have hmx:Tryz.prog.follows .mixedOrders=true:=by kernel_rfl
 have HA:=Lh hA
 have HRl:=Lh h.out.lt
 have hR1:w.heap.size≠R:=by have:=HRl.out;omega
 have hR2:w.heap.size+1≠R:=by have:=HRl.out;omega
 have hal:=al2 w (.cells stZ 67) (.cells stZ 67)
 have HK:=Lh ((Pk.below (R:=R) (al1 (w.alloc (.cells stZ 67)) (.cells stZ 67))).blk hR1 (blk_new w stZ 67))
 have hks:=blk_new (w.alloc (.cells stZ 67)) stZ 67
 rw [show (w.alloc (.cells stZ 67)).heap.size=w.heap.size+1 by simp] at hks
 have HKs:=Lh hks
 have HB:=Lh hal
 have HZ0:Hid (((w.alloc (.cells stZ 67)).alloc (.cells stZ 67)).heap.size=w.heap.size+2):=Lh (by simp)
 clear hal hks hA
 go_enter Tryz.func236,Tryz.ntmps236
 go_wp2_with fail
 refine (ref_of L hL R l A lev _ _ (Lh (h.out.below HB.out)) (Lh rfl)).mono ?_
 rintro e w1 ⟨hp1,hx1⟩
 have HP1:=Lh ((Pk.below (R:=R) HB.out).trans hp1)
 have HK1:=Lh (hp1.blk hR1 HK.out)
 have HKs1:=Lh (hp1.blk hR2 HKs.out)
 cases hn:refR l with
 | er c l1 =>
  rw [hn] at hx1
  obtain rfl:=hx1
  exact ⟨rfl,Out.pn (by rw [← hx.out,chain_eq,hn];rfl) HP1.out⟩
 | ok f l1 =>
  rw [hn] at hx1
  obtain ⟨v1,rfl,⟨rfl,hf1,hf2⟩,hr1⟩:=hx1
  have HF:=Lh (And.intro hf1 hf2)
  have HS1:Hid (w.heap.size+2≤w1.heap.size):=Lh (by have:=hp1.size;have:=HZ0.out;omega)
  have HX1:Hid ((if f.2≠[]∨isT 5 (arrow d) l1=true then (refsR d f l1).bnd fun rs l=>tailR (fun a=>.mk 2 [] rs a []) l else tailR (fun a=>.mk 1 f.1 [] a []) l1)=x):=Lh (by rw [← hx.out,chain_eq,hn];rfl)
  have hR3:w1.heap.size≠R:=by have:=HRl.out;have:=HS1.out;omega
  have hn1:w.heap.size≠w1.heap.size:=by have:=HS1.out;omega
  have hn2:w.heap.size+1≠w1.heap.size:=by have:=HS1.out;omega
  have hn3:w.heap.size≠w.heap.size+1:=by omega
  have hw:((bb f.2).toList.isEmpty=false∧f.2≠[])∨((bb f.2).toList.isEmpty=true∧f.2=[]∧isT 5 (arrow d) l1=true)∨((bb f.2).toList.isEmpty=true∧f.2=[]∧isT 5 (arrow d) l1=false):=by
   rw [ByteArray.toList_eq]
   cases hq:f.2 with
   | nil =>
    cases hc:isT 5 (arrow d) l1
    ·exact Or.inr (Or.inr ⟨rfl,rfl,rfl⟩)
    ·exact Or.inr (Or.inl ⟨rfl,rfl,rfl⟩)
   | cons a b=>exact Or.inl ⟨rfl,by simp⟩
  have hC:∀ (y:Rz (List Pr)) (w':World),Hid (Rd L R w' l1 A lev)→Hid (refsR d f l1=y)→Calls Tryz.prog 271 #[.pointer (some ⟨R,0,none⟩),.agg #[.string (bb f.1),.string (bb f.2)]] w' (Out L R A lev VPs w' y):=fun y w' h1 h2=>refs_of L hL R l1 d A HA.out lev f y w' h1 HF h2
  obtain ⟨X,hX⟩:∃ X,bb f.1=X:=⟨_,rfl⟩
  obtain ⟨Y,hY⟩:∃ X,bb f.2=X:=⟨_,rfl⟩
  rw [hX,hY] at hC ⊢
  rw [hY] at hw
  have HC:=Lh hC
  have HX:=Lh hX
  have HBa:=Lh (al1 w1 (.cells #[.string X,.string Y] 121))
  have HKf:=Lh (blk_new w1 #[.string X,.string Y] 121)
  have HK2:=Lh ((Pk.below (R:=R) HBa.out).blk hR1 HK1.out)
  have HKs2:=Lh ((Pk.below (R:=R) HBa.out).blk hR2 HKs1.out)
  have HR2:=Lh (hr1.below HBa.out)
  have HP2:=Lh (HP1.out.trans (Pk.below HBa.out))
  have HZ2:Hid ((w1.alloc (.cells #[.string X,.string Y] 121)).heap.size=w1.heap.size+1):=Lh (by simp)
  obtain ⟨q2,-,-,-⟩:=HR2.out.cells
  clear hp1 hr1 hn hf1 hf2 hX hY hC
  have HRz:Hid (R < w1.heap.size):=Lh (by have:=HRl.out;have:=HS1.out;omega)
  rcases hw with ⟨b1,hne⟩ | ⟨b1,hf,hc⟩ | ⟨b1,hf,hc⟩
  case' inl =>
   have HX2:Hid (((refsR d f l1).bnd fun rs l=>tailR (fun a=>.mk 2 [] rs a []) l)=x):=Lh (by rw [← HX1.out,if_pos (Or.inl hne)])
   clear hne
   go_wp2_with fail
   have HR3:=HR2
   have HP3:=HP2
   have HK3:=HK2
   have HKs3:=HKs2
   have HZ3:Hid (w1.heap.size < (w1.alloc (.cells #[.string X,.string Y] 121)).heap.size):=Lh (by rw [HZ2.out];omega)
   clear q2 HR2 HP2 HK2 HKs2 HZ2 HBa HKf
   generalize w1.alloc (.cells #[.string X,.string Y] 121)=w3 at HR3 HP3 HK3 HKs3 HZ3 ⊢
   refine (HC.out _ w3 HR3 (Lh rfl)).mono ?_
   rintro e w4 ⟨hp4,hx4⟩
   have HP4:=Lh (HP3.out.trans hp4)
   have HK4:=Lh (hp4.blk hR1 HK3.out)
   have HKs4:=Lh (hp4.blk hR2 HKs3.out)
   rcases hn4:refsR d f l1 with ⟨rs,l5⟩ | ⟨c,l5⟩
   rotate_left
   ·rw [hn4] at hx4
    obtain rfl:=hx4
    exact ⟨rfl,Out.pn (by rw [← HX2.out,hn4];rfl) HP4.out⟩
   rw [hn4] at hx4
   obtain ⟨av,rfl,hself,hr4⟩:=hx4
   obtain ⟨ro,rc,rfl⟩:=selfP.form hself
   have HX4:Hid (tailR (fun a=>.mk 2 [] rs a []) l5=x):=Lh (by rw [← HX2.out,hn4];rfl)
   have HS:=Lh hself
   have HZ4:Hid (w1.heap.size < w4.heap.size):=Lh (Nat.lt_of_lt_of_le HZ3.out hp4.size)
   obtain ⟨a0,a1,a2,a3,a4,f0,f1,f2,f3,f4⟩:=st5 HKs4.out
   have HR5:=Lh ((hr4.store (g:=w.heap.size+1) (o:=0) (by have:=HRl.out;omega) (.int .i64 2)).store (g:=w.heap.size+1) (o:=2) (by have:=HRl.out;omega) (.slice ro rs.length rc))
   have HP5:=Lh ((HP4.out.store (g:=w.heap.size+1) (o:=0) (by omega) (.int .i64 2)).store (g:=w.heap.size+1) (o:=2) (by omega) (.slice ro rs.length rc))
   have HK5:=Lh (blk_far (o:=2) (blk_far (o:=0) HK4.out hn3 (.int .i64 2)) hn3 (.slice ro rs.length rc))
   have HKs5:Hid (blk ((w4.setCell ⟨w.heap.size+1,0,none⟩ (.int .i64 2)).setCell ⟨w.heap.size+1,2,none⟩ (.slice ro rs.length rc)) (w.heap.size+1) 67 #[.int .i64 2,.string ⟨#[]⟩,.slice ro rs.length rc,.slice none 0 0,.slice none 0 0]):=Lh (blk_set (o:=2) (blk_set (o:=0) HKs4.out (.int .i64 2)) (.slice ro rs.length rc))
   have HS5:Hid (selfP (w.heap.size+2) ((w4.setCell ⟨w.heap.size+1,0,none⟩ (.int .i64 2)).setCell ⟨w.heap.size+1,2,none⟩ (.slice ro rs.length rc)) (.slice ro rs.length rc) rs):=Lh (fun W hW=>HS.out.sm (((Sm.refl _ _).store (Or.inl (by have:=HZ3.out;have:=HS1.out;omega)) _).store (Or.inl (by have:=HZ3.out;have:=HS1.out;omega)) _) (by have:=HZ3.out;have:=HS1.out;omega) hW)
   have HZ5:Hid (w.heap.size+2≤((w4.setCell ⟨w.heap.size+1,0,none⟩ (.int .i64 2)).setCell ⟨w.heap.size+1,2,none⟩ (.slice ro rs.length rc)).heap.size):=Lh (by have:=HS1.out;have:=HZ4.out;simp [World.setCell];omega)
   clear hp4 hr4 hn4 hself
   go_wp2_with fail
   clear a0 a1 a2 a3 a4 f0 f1 f2 f3 f4 HR3 HP3 HK3 HKs3 HZ3 HP4 HK4 HKs4 HZ4 HS HX2
   generalize (w4.setCell ⟨w.heap.size+1,0,none⟩ (.int .i64 2)).setCell ⟨w.heap.size+1,2,none⟩ (.slice ro rs.length rc)=w5 at HR5 HP5 HK5 HKs5 HS5 HZ5 ⊢
   obtain ⟨kd,ekd⟩:∃ k:Int,(2:Int)=k:=⟨_,rfl⟩
   rw [ekd] at HX4 HKs5
   clear HX
   obtain ⟨X2,eX⟩:∃ q:ByteArray,⟨#[]⟩=q:=⟨_,rfl⟩
   rw [eX] at HKs5
   obtain ⟨nm,enm⟩:∃ q:List UInt8,[]=q:=⟨_,rfl⟩
   have HX5:Hid (tailR (fun a=>.mk kd nm rs a []) l5=x):=by rw [← enm];exact HX4
   have HNM:Hid (bb nm=X2∧nm.length≤maxLen):=by rw [← enm,← eX];exact Lh ⟨rfl,Nat.zero_le _⟩
   clear ekd eX enm HX4 HC
  case' inr.inl =>
   have HX2:Hid (((refsR d f l1).bnd fun rs l=>tailR (fun a=>.mk 2 [] rs a []) l)=x):=Lh (by rw [← HX1.out,if_pos (Or.inr hc)])
   have HCc:=Lh hc
   clear hf hc
   go_wp2_with fail
   refine (sees_mk_of L hL R l1 A lev (arrow d) A true _ HA.out HR2 (arrow_kw d) HCc).mono ?_
   rintro e w3 ⟨rfl,hb3⟩
   have HR3:=Lh (HR2.out.below hb3)
   have HP3:=Lh (HP2.out.trans (Pk.below hb3))
   have HK3:=Lh ((Pk.below (R:=R) hb3).blk hR1 HK2.out)
   have HKs3:=Lh ((Pk.below (R:=R) hb3).blk hR2 HKs2.out)
   have HZ3:Hid (w1.heap.size < w3.heap.size):=Lh (by have:=hb3.size;have:=HZ2.out;omega)
   have hkf3:=(Pk.below (R:=R) hb3).blk hR3 HKf.out
   have m0:w3.cell? ⟨w1.heap.size,0,none⟩=some (.string X):=by rw [blk_cell hkf3];rfl
   have m1:w3.cell? ⟨w1.heap.size,1,none⟩=some (.string Y):=by rw [blk_cell hkf3];rfl
   clear hb3 hkf3
   go_wp2_with fail
   clear m0 m1 q2 HR2 HP2 HK2 HKs2 HZ2 HBa HKf HCc
   refine (HC.out _ w3 HR3 (Lh rfl)).mono ?_
   rintro e w4 ⟨hp4,hx4⟩
   have HP4:=Lh (HP3.out.trans hp4)
   have HK4:=Lh (hp4.blk hR1 HK3.out)
   have HKs4:=Lh (hp4.blk hR2 HKs3.out)
   rcases hn4:refsR d f l1 with ⟨rs,l5⟩ | ⟨c,l5⟩
   rotate_left
   ·rw [hn4] at hx4
    obtain rfl:=hx4
    exact ⟨rfl,Out.pn (by rw [← HX2.out,hn4];rfl) HP4.out⟩
   rw [hn4] at hx4
   obtain ⟨av,rfl,hself,hr4⟩:=hx4
   obtain ⟨ro,rc,rfl⟩:=selfP.form hself
   have HX4:Hid (tailR (fun a=>.mk 2 [] rs a []) l5=x):=Lh (by rw [← HX2.out,hn4];rfl)
   have HS:=Lh hself
   have HZ4:Hid (w1.heap.size < w4.heap.size):=Lh (Nat.lt_of_lt_of_le HZ3.out hp4.size)
   obtain ⟨a0,a1,a2,a3,a4,f0,f1,f2,f3,f4⟩:=st5 HKs4.out
   have HR5:=Lh ((hr4.store (g:=w.heap.size+1) (o:=0) (by have:=HRl.out;omega) (.int .i64 2)).store (g:=w.heap.size+1) (o:=2) (by have:=HRl.out;omega) (.slice ro rs.length rc))
   have HP5:=Lh ((HP4.out.store (g:=w.heap.size+1) (o:=0) (by omega) (.int .i64 2)).store (g:=w.heap.size+1) (o:=2) (by omega) (.slice ro rs.length rc))
   have HK5:=Lh (blk_far (o:=2) (blk_far (o:=0) HK4.out hn3 (.int .i64 2)) hn3 (.slice ro rs.length rc))
   have HKs5:Hid (blk ((w4.setCell ⟨w.heap.size+1,0,none⟩ (.int .i64 2)).setCell ⟨w.heap.size+1,2,none⟩ (.slice ro rs.length rc)) (w.heap.size+1) 67 #[.int .i64 2,.string ⟨#[]⟩,.slice ro rs.length rc,.slice none 0 0,.slice none 0 0]):=Lh (blk_set (o:=2) (blk_set (o:=0) HKs4.out (.int .i64 2)) (.slice ro rs.length rc))
   have HS5:Hid (selfP (w.heap.size+2) ((w4.setCell ⟨w.heap.size+1,0,none⟩ (.int .i64 2)).setCell ⟨w.heap.size+1,2,none⟩ (.slice ro rs.length rc)) (.slice ro rs.length rc) rs):=Lh (fun W hW=>HS.out.sm (((Sm.refl _ _).store (Or.inl (by have:=HZ3.out;have:=HS1.out;omega)) _).store (Or.inl (by have:=HZ3.out;have:=HS1.out;omega)) _) (by have:=HZ3.out;have:=HS1.out;omega) hW)
   have HZ5:Hid (w.heap.size+2≤((w4.setCell ⟨w.heap.size+1,0,none⟩ (.int .i64 2)).setCell ⟨w.heap.size+1,2,none⟩ (.slice ro rs.length rc)).heap.size):=Lh (by have:=HS1.out;have:=HZ4.out;simp [World.setCell];omega)
   clear hp4 hr4 hn4 hself
   go_wp2_with fail
   clear a0 a1 a2 a3 a4 f0 f1 f2 f3 f4 HR3 HP3 HK3 HKs3 HZ3 HP4 HK4 HKs4 HZ4 HS HX2
   generalize (w4.setCell ⟨w.heap.size+1,0,none⟩ (.int .i64 2)).setCell ⟨w.heap.size+1,2,none⟩ (.slice ro rs.length rc)=w5 at HR5 HP5 HK5 HKs5 HS5 HZ5 ⊢
   obtain ⟨kd,ekd⟩:∃ k:Int,(2:Int)=k:=⟨_,rfl⟩
   rw [ekd] at HX4 HKs5
   clear HX
   obtain ⟨X2,eX⟩:∃ q:ByteArray,⟨#[]⟩=q:=⟨_,rfl⟩
   rw [eX] at HKs5
   obtain ⟨nm,enm⟩:∃ q:List UInt8,[]=q:=⟨_,rfl⟩
   have HX5:Hid (tailR (fun a=>.mk kd nm rs a []) l5=x):=by rw [← enm];exact HX4
   have HNM:Hid (bb nm=X2∧nm.length≤maxLen):=by rw [← enm,← eX];exact Lh ⟨rfl,Nat.zero_le _⟩
   clear ekd eX enm HX4 HC
  case' inr.inr =>
   have HX2:Hid (tailR (fun a=>.mk 1 f.1 [] a []) l1=x):=Lh (by rw [← HX1.out,if_neg (by rw [hf,hc];simp)])
   have HCc:=Lh hc
   clear hf hc
   go_wp2_with fail
   refine (sees_mk_of L hL R l1 A lev (arrow d) A false _ HA.out HR2 (arrow_kw d) HCc).mono ?_
   rintro e w3 ⟨rfl,hb3⟩
   have HR3:=Lh (HR2.out.below hb3)
   have HP3:=Lh (HP2.out.trans (Pk.below hb3))
   have HK3:=Lh ((Pk.below (R:=R) hb3).blk hR1 HK2.out)
   have HKs3:=Lh ((Pk.below (R:=R) hb3).blk hR2 HKs2.out)
   have HZ3:Hid (w1.heap.size < w3.heap.size):=Lh (by have:=hb3.size;have:=HZ2.out;omega)
   have hkf3:=(Pk.below (R:=R) hb3).blk hR3 HKf.out
   have m0:w3.cell? ⟨w1.heap.size,0,none⟩=some (.string X):=by rw [blk_cell hkf3];rfl
   have m1:w3.cell? ⟨w1.heap.size,1,none⟩=some (.string Y):=by rw [blk_cell hkf3];rfl
   obtain ⟨a0,a1,a2,a3,a4,f0,f1,f2,f3,f4⟩:=st5 HKs3.out
   clear hb3 hkf3
   go_wp2_with fail
   go_region_held3 (fun w'=>w'.cell? ⟨w1.heap.size,0,none⟩=some (.string X)) (first | assumption | exact cell_far (by assumption) (Ne.symm hn2)) (fail)
   have HR4:=Lh ((HR3.out.store (g:=w.heap.size+1) (o:=0) (by have:=HRl.out;omega) (.int .i64 1)).store (g:=w.heap.size+1) (o:=1) (by have:=HRl.out;omega) (.string X)).drew
   have HP5:=Lh (((HP3.out.store (g:=w.heap.size+1) (o:=0) (by omega) (.int .i64 1)).store (g:=w.heap.size+1) (o:=1) (by omega) (.string X)).drew)
   have HK5:Hid (blk ((w3.setCell ⟨w.heap.size+1,0,none⟩ (.int .i64 1)).setCell ⟨w.heap.size+1,1,none⟩ (.string X)).drew w.heap.size 67 stZ):=Lh (blk_far (blk_far HK3.out hn3 _) hn3 _)
   have HKs5:Hid (blk ((w3.setCell ⟨w.heap.size+1,0,none⟩ (.int .i64 1)).setCell ⟨w.heap.size+1,1,none⟩ (.string X)).drew (w.heap.size+1) 67 #[.int .i64 1,.string X,.slice none 0 0,.slice none 0 0,.slice none 0 0]):=Lh (blk_set (o:=1) (blk_set (o:=0) HKs3.out (.int .i64 1)) (.string X))
   have HZ5:Hid (w.heap.size+2≤((w3.setCell ⟨w.heap.size+1,0,none⟩ (.int .i64 1)).setCell ⟨w.heap.size+1,1,none⟩ (.string X)).drew.heap.size):=Lh (by have:=HS1.out;have:=HZ3.out;show _≤((w3.setCell _ _).setCell _ _).heap.size;simp [World.setCell];omega)
   clear q2 HR2 HP2 HK2 HKs2 HZ2 HBa HKf HCc HR3 HP3 HK3 HKs3 HZ3 m0 m1 a0 a1 a2 a3 a4 f0 f1 f2 f3 f4
   go_wp2_with fail
   generalize ((w3.setCell ⟨w.heap.size+1,0,none⟩ (.int .i64 1)).setCell ⟨w.heap.size+1,1,none⟩ (.string X)).drew=w5 at HR4 HP5 HK5 HKs5 HZ5 ⊢
   have HR5:Hid (Rd L R w5 l1 A lev):=HR4
   have HNM:Hid (bb f.1=X∧f.1.length≤maxLen):=Lh ⟨HX.out,Nat.le_trans HF.out.1 (by decide)⟩
   have HS5:Hid (selfP (w.heap.size+2) w5 (.slice none ([]:List Pr).length 0) []):=Lh (selfP.nil _ _)
   have HX5:=HX2
   obtain ⟨kd,ekd⟩:∃ k:Int,(1:Int)=k:=⟨_,rfl⟩
   rw [ekd] at HX5 HKs5
   obtain ⟨rs,ers⟩:∃ rs:List Pr,[]=rs:=⟨_,rfl⟩
   have HKs5:Hid (blk w5 (w.heap.size+1) 67 #[.int .i64 kd,.string X,.slice none rs.length 0,.slice none 0 0,.slice none 0 0]):=by rw [← ers];exact HKs5
   rw [ers] at HS5
   obtain ⟨ro,ero⟩:∃ ro:Option Addr,none=ro:=⟨_,rfl⟩
   obtain ⟨rc,erc⟩:∃ rc:Nat,0=rc:=⟨_,rfl⟩
   have HX5:Hid (tailR (fun a=>.mk kd f.1 rs a []) l1=x):=by rw [← ers];exact HX5
   have HKs5:Hid (blk w5 (w.heap.size+1) 67 #[.int .i64 kd,.string X,.slice ro rs.length rc,.slice none 0 0,.slice none 0 0]):=by rw [← ero,← erc];exact HKs5
   have HS5:Hid (selfP (w.heap.size+2) w5 (.slice ro rs.length rc) rs):=by rw [← ero,← erc];exact HS5
   obtain ⟨nm,enm⟩:∃ nm,f.1=nm:=⟨_,rfl⟩
   rw [enm] at HX5 HNM
   obtain ⟨l5,el5⟩:∃ l5,l1=l5:=⟨_,rfl⟩
   rw [el5] at HX5 HR5
   obtain ⟨X2,eX⟩:∃ q,X=q:=⟨_,rfl⟩
   rw [eX] at HKs5 HNM
   clear eX ekd ers ero erc enm el5 HX2 HC HX HR4
  all_goals
   clear HF hn1 hn2 hR3
   cases hb:isT 5 [91] l5
   case' true =>
    have HBq:=Lh hb
    clear hb
    refine (sees_mk_of L hL R l5 A lev [91] _ true _ rfl HR5 (by decide) HBq).mono ?_
    rintro e w6 ⟨rfl,hb6⟩
    have HR6:=Lh (HR5.out.below hb6)
    have HP6:=Lh (HP5.out.trans (Pk.below hb6))
    have HK6:=Lh ((Pk.below (R:=R) hb6).blk hR1 HK5.out)
    have HKs6:=Lh ((Pk.below (R:=R) hb6).blk hR2 HKs5.out)
    have HSm6:=Lh ((Sm.refl (w.heap.size+2) w5).pk (Pk.below (R:=R) hb6) (by have:=HRl.out;omega))
    have HZ6:Hid (w.heap.size+2≤w6.heap.size):=Lh (Nat.le_trans HZ5.out hb6.size)
    clear hb6
    go_wp2_with fail
    refine (attrs_of L hL R l5 A lev _ _ HR6 (Lh rfl)).mono ?_
    rintro e w7 ⟨hp7,hx7⟩
    have HP7:=Lh (HP6.out.trans hp7)
    have HK7:=Lh (hp7.blk hR1 HK6.out)
    have HKs7:=Lh (hp7.blk hR2 HKs6.out)
    have HSm7:=Lh (HSm6.out.pk hp7 (by have:=HRl.out;omega))
    have hoR:optR fmtL l5=attrsR fmtL l5:=by unfold optR;rw [HBq.out,if_pos rfl]
    rcases hn7:attrsR fmtL l5 with ⟨ats,l8⟩ | ⟨c,l8⟩
    rotate_left
    ·rw [hn7] at hx7
     obtain rfl:=hx7
     exact ⟨rfl,Out.pn (by rw [← HX5.out];unfold tailR;rw [hoR,hn7];rfl) HP7.out⟩
    rw [hn7] at hx7
    obtain ⟨av,rfl,hself,hr7⟩:=hx7
    obtain ⟨ao,ac,rfl⟩:=selfP.form hself
    have HX8:Hid (((wantM [59] l8).bnd fun _ l=>.ok (.mk kd nm rs ats []) l)=x):=Lh (by rw [← HX5.out];unfold tailR;rw [hoR,hn7];rfl)
    have hlt:w.heap.size+1 < w6.heap.size:=by have:=HZ6.out;omega
    obtain ⟨-,-,-,d3,-,-,-,-,e3,-⟩:=st5 HKs7.out
    have HR8:=Lh (hr7.store (g:=w.heap.size+1) (o:=3) (by have:=HRl.out;omega) (.slice ao ats.length ac))
    have HP8:=Lh (HP7.out.store (g:=w.heap.size+1) (o:=3) (by omega) (.slice ao ats.length ac))
    have HK8:=Lh (blk_far (o:=3) HK7.out hn3 (.slice ao ats.length ac))
    have HKs8:Hid (blk (w7.setCell ⟨w.heap.size+1,3,none⟩ (.slice ao ats.length ac)) (w.heap.size+1) 67 #[.int .i64 kd,.string X2,.slice ro rs.length rc,.slice ao ats.length ac,.slice none 0 0]):=Lh (blk_set (o:=3) HKs7.out (.slice ao ats.length ac))
    have HS8:Hid (selfP (w.heap.size+2) (w7.setCell ⟨w.heap.size+1,3,none⟩ (.slice ao ats.length ac)) (.slice ro rs.length rc) rs):=Lh (fun W hW=>HS5.out.sm (HSm7.out.store (Or.inl (by omega)) _) (Nat.le_refl _) hW)
    have HT8:Hid (selfP (w.heap.size+2) (w7.setCell ⟨w.heap.size+1,3,none⟩ (.slice ao ats.length ac)) (.slice ao ats.length ac) ats):=Lh (fun W hW=>hself.sm ((Sm.refl _ _).store (Or.inl hlt) _) HZ6.out hW)
    clear hp7 hr7 hn7 hself hoR
    go_wp2_with fail
    clear d3 e3 HX5 HS5 HR5 HP5 HK5 HKs5 HZ5 HR6 HP6 HK6 HKs6 HSm6 HZ6 HP7 HK7 HKs7 HSm7 HBq hlt
    generalize w7.setCell ⟨w.heap.size+1,3,none⟩ (.slice ao ats.length ac)=w8 at HR8 HP8 HK8 HKs8 HS8 HT8 ⊢
   case' false =>
    have HBq:=Lh hb
    clear hb
    refine (sees_mk_of L hL R l5 A lev [91] _ false _ rfl HR5 (by decide) HBq).mono ?_
    rintro e w8 ⟨rfl,hb6⟩
    have HR8:=Lh (HR5.out.below hb6)
    have HP8:=Lh (HP5.out.trans (Pk.below hb6))
    have HK8:=Lh ((Pk.below (R:=R) hb6).blk hR1 HK5.out)
    have HKs6:=Lh ((Pk.below (R:=R) hb6).blk hR2 HKs5.out)
    have HS8:Hid (selfP (w.heap.size+2) w8 (.slice ro rs.length rc) rs):=Lh (fun W hW=>HS5.out.sm ((Sm.refl (w.heap.size+2) w5).pk (Pk.below (R:=R) hb6) (by have:=HRl.out;omega)) (Nat.le_refl _) hW)
    have hoR:optR fmtL l5=.ok [] l5:=by unfold optR;rw [HBq.out];rfl
    have HX6:Hid (((wantM [59] l5).bnd fun _ l=>.ok (.mk kd nm rs [] []) l)=x):=Lh (by rw [← HX5.out];unfold tailR;rw [hoR];rfl)
    have HT6:Hid (selfP (w.heap.size+2) w8 (.slice none ([]:List Pr).length 0) []):=Lh (selfP.nil _ _)
    clear hb6 hoR
    go_wp2_with fail
    obtain ⟨ats,ea⟩:∃ q:List Pr,[]=q:=⟨_,rfl⟩
    obtain ⟨ao,eo⟩:∃ q:Option Addr,none=q:=⟨_,rfl⟩
    obtain ⟨ac,ec⟩:∃ q:Nat,0=q:=⟨_,rfl⟩
    have HX8:Hid (((wantM [59] l5).bnd fun _ l=>.ok (.mk kd nm rs ats []) l)=x):=by rw [← ea];exact HX6
    have HKs8:Hid (blk w8 (w.heap.size+1) 67 #[.int .i64 kd,.string X2,.slice ro rs.length rc,.slice ao ats.length ac,.slice none 0 0]):=by rw [← ea,← eo,← ec];exact HKs6
    have HT8:Hid (selfP (w.heap.size+2) w8 (.slice ao ats.length ac) ats):=by rw [← ea,← eo,← ec];exact HT6
    obtain ⟨l8,el⟩:∃ q,l5=q:=⟨_,rfl⟩
    rw [el] at HX8 HR8
    clear ea eo ec el HX6 HT6 HKs6 HX5 HS5 HR5 HP5 HK5 HKs5 HZ5 HBq
   all_goals
    refine (expect_mk L hL R l8 A lev [59] _ _ _ rfl HR8 (by decide) (Lh rfl)).mono ?_
    rintro e w9 ⟨hp9,hx9⟩
    have HP9:=Lh (HP8.out.trans hp9)
    have HK9:=Lh (hp9.blk hR1 HK8.out)
    have HKs9:=Lh (hp9.blk hR2 HKs8.out)
    rcases hn9:wantM [59] l8 with ⟨u9,l9⟩ | ⟨c,l9⟩
    rotate_left
    ·rw [hn9] at hx9
     obtain rfl:=hx9
     exact ⟨rfl,Out.pn (by rw [← HX8.out,hn9];rfl) HP9.out⟩
    rw [hn9] at hx9
    obtain ⟨v9,rfl,rfl,hr9⟩:=hx9
    have HR9:=Lh hr9
    have HX9:Hid (.ok (.mk kd nm rs ats []) l9=x):=Lh (by rw [← HX8.out,hn9];rfl)
    have HSm9:=Lh ((Sm.refl (w.heap.size+2) w8).pk hp9 (by have:=HRl.out;omega))
    obtain ⟨a0,a1,a2,a3,a4,-⟩:=st5 HKs9.out
    obtain ⟨b0,b1,b2,b3,b4,g0,g1,g2,g3,g4⟩:=st5 HK9.out
    clear hp9 hr9 hn9
    go_wp2
    refine bodyPost_ret (v:=.agg #[.int .i64 kd,.string X2,.slice ro rs.length rc,.slice ao ats.length ac,.slice none 0 0]) (by simp [results,Tryz.results236,go_sem,b0,b1,b2,b3,b4]) rfl ?_
    refine Out.ok HX9.out (HP9.out.five (Nat.le_refl _) _ _ _ _ _) ⟨ro,rc,ao,ac,none,0,by rw [← HNM.out.1];rfl,fun W hW=>⟨HNM.out.2,HS8.out.sm (HSm9.out.five (Or.inl (by omega)) _ _ _ _ _) (by omega) hW,HT8.out.sm (HSm9.out.five (Or.inl (by omega)) _ _ _ _ _) (by omega) hW,Sts.nil W⟩⟩ (HR9.out.five HRl.out _ _ _ _ _)
end Go.Proofs.YtgmidodmmlmmeaaGreatDoor.par
