/-
  What mention of the landed builder does (layer 12). Conditions: a builder in memory that knows at most 100000 nodes, a name that a machine can hold.
  What change of the reference's machine does (layer 12). Conditions: a machine of at most 100000 nodes in memory, lists of at most 20000 attributes.
  What readNode of the landed builder does (layer 12). Conditions: a builder in memory that knows at most 100000 nodes, accepted attributes, at most 60 of the statement.
-/
import Derived.Test.YtcdoicgbjoikkaaGreatDoorMnd
namespace Go.Proofs.YtcdoicgbjoikkaaGreatDoor.nor
open Go.RowKit lex tre att
theorem bool_zero (w:World):(zeroValue 4).run Tryz.prog w=.ok (.bool false) w:=Tryz.zeroValue4 w
theorem int_zero (w:World):(zeroValue 3).run Tryz.prog w=.ok (.int .i64 0) w:=Tryz.zeroValue3 w
theorem KMap.look {W:World}{b:Nat}{cs:List Cl}(h:KMap W b cs)(n:Nm)(hn:n.length≤maxLen){R:Bool}(hR:clusd cs n=R):(Instr.lookup 63 (.map (some b)) (.string (bb n)) false).run Tryz.prog W=.ok (.bool R) W:=by
 obtain ⟨D,h⟩:=h
 have:=h.look Tryz.underlying63 bool_zero (bb n) (by rw [bb_size];exact hn)
 rw [this];unfold kmF;rw [bb_back,hR]
theorem NMap.lookOk {W:World}{b:Nat}{ns:List Cl}(h:NMap W b ns)(n:Nm)(hn:n.length≤maxLen){i:Int}{R:Bool}(hi:(if 0≤nodeI ns n 0 then nodeI ns n 0 else 0)=i)(hR:decide (0≤nodeI ns n 0)=R):(Instr.lookup 62 (.map (some b)) (.string (bb n)) true).run Tryz.prog W=.ok (.tuple #[.int .i64 i,.bool R]) W:=by
 obtain ⟨D,h⟩:=h
 have:=h.lookOk Tryz.underlying62 int_zero (bb n) (by rw [bb_size];exact hn)
 rw [this];unfold nmF;rw [bb_back,hi,hR]
theorem NMap.look {W:World}{b:Nat}{ns:List Cl}(h:NMap W b ns)(n:Nm)(hn:n.length≤maxLen){i:Int}(hi:(if 0≤nodeI ns n 0 then nodeI ns n 0 else 0)=i):(Instr.lookup 62 (.map (some b)) (.string (bb n)) false).run Tryz.prog W=.ok (.int .i64 i) W:=by
 obtain ⟨D,h⟩:=h
 have:=h.look Tryz.underlying62 int_zero (bb n) (by rw [bb_size];exact hn)
 rw [this];unfold nmF;rw [bb_back,hi]
theorem NMap.put {W:World}{b:Nat}{ns:List Cl}(h:NMap W b ns)(n:Nm)(c:Int)(hn:n.length≤maxLen)(hf:nodeI ns n 0 < 0)(hl:ns.length≤100000):∃ w1,(Instr.mapUpdate 62 (.map (some b)) (.string (bb n)) (.int .i64 (ns.length:Int))).run Tryz.prog W=.ok () w1∧NMap w1 b (ns ++ [(n,c)])∧W.grownBy w1 (some b):=by
 obtain ⟨D,h⟩:=h
 obtain ⟨w1,h1,h2,h3⟩:=h.put Tryz.underlying62 (bb n) (.int .i64 (ns.length:Int)) (by rw [bb_size];exact hn) (by unfold maxLen;omega)
 rw [bb_back,nmF_grow hf] at h2
 exact ⟨w1,h1,⟨_,by rw [List.length_append];exact h2⟩,h3⟩
theorem KMap.put {W:World}{b:Nat}{cs:List Cl}(h:KMap W b cs)(n:Nm)(c:Int)(hn:n.length≤maxLen)(hl:cs.length≤100000):∃ w1,(Instr.mapUpdate 63 (.map (some b)) (.string (bb n)) (.bool true)).run Tryz.prog W=.ok () w1∧KMap w1 b (cs ++ [(n,c)])∧W.grownBy w1 (some b):=by
 obtain ⟨D,h⟩:=h
 obtain ⟨w1,h1,h2,h3⟩:=h.put Tryz.underlying63 (bb n) (.bool true) (by rw [bb_size];exact hn) (by unfold maxLen;omega)
 rw [bb_back,kmF_grow cs n c] at h2
 exact ⟨w1,h1,⟨_,by rw [List.length_append];exact h2⟩,h3⟩
theorem app_nd {w:World}{ops:Array Oper}{rest:List Oper}{o:Oper}{a:Act}{Q:Exit→Act→World→Prop}(hg:o.guard=none)(p y:Operand)(ho:o.op=.call { callee:=.builtin .append,args:=#[p,y],argTypes:=#[27,27] })
    (B:Nat) (v:Value) (l:List Cl) (n:Nm) (c:Int) (H:Nat) (hH:w.heap.size=H) (hs:a.eval p=v) (hx:a.eval y=.slice (some ⟨H,0,none⟩) 1 1) (h:Hid (Nrow w B v l)) (hl:l.length≤1000000) (hB:B≤w.heap.size)
    (hK:∀ v' w',Nrow w' B v' (l ++ [(n,c)])→w.grownBy w' v.ownBlock→wpList Tryz.prog ops Q rest (a.put o.dst v') w'):wpList Tryz.prog ops Q (o :: rest) a (w.alloc (.cells #[.string (bb n),.string ⟨#[]⟩,.int .i64 0,.int .i64 0,.int .i64 c,.slice none 0 0] 45)):=by
 subst hH
 obtain ⟨i0,hi,hz0,hz1,hz2⟩:=info_of info_nd
 refine wpList_append_own _ hg p y 27 ho B 45 i0 _ 6 80 Tryz.underlying27 hi hz0 hz1 hz2 rfl (by decide) v l.length _ hs (World.ownsRow.alloc h.out _) ⟨w.heap.size,0,none⟩ 1 1 [.string (bb n),.string ⟨#[]⟩,.int .i64 0,.int .i64 0,.int .i64 c,.slice none 0 0] hx rfl ?_ (by simp [Value.oneCell']) (by unfold maxLen;omega) (by omega) (by simp;omega) ?_
 ·intro j u hj
  rw [add_at,Nat.zero_add,blk_cell (blk_new w #[.string (bb n),.string ⟨#[]⟩,.int .i64 0,.int .i64 0,.int .i64 c,.slice none 0 0] 45),← hj]
  simp
 ·intro v' w' hown hgrow _
  refine hK v' w' ?_ ?_
  ·unfold Nrow;rw [List.length_append,List.flatMap_append];exact hown
  ·refine ⟨hgrow.os,hgrow.tape,hgrow.output,Nat.le_trans (by simp) hgrow.size,fun k hk hne=>?_⟩
   rw [hgrow.block k (by simp;omega) hne,heap_alloc_old w _ (h:=hk)]
def MenOut (w0:World)(b:Nat)(nm:Nm)(d:Bool)(s:Bs)(E:Int)(w:World)(e:Ending)(w':World):Prop:=e=.returned (.int .i64 E)∧Stp w0 w w'∧Below w0.heap.size w0 w'∧(E=0→∃ x',BdG w0 w' b nm d s.g x')
set_option maxRecDepth 100000 in
set_option maxHeartbeats 1000000 in
theorem cmention_of (w0:World)(b:Nat)(nm:Nm)(d:Bool)(s:Bs)(x:BdV)(n:Nm)(p:Pl)(dv ev:Value)(E:Int)(w:World)(hS:Hid (BdG w0 w b nm d s.g x))(hp:Hid (PrsT w dv p.dn))(hl:s.ns.length≤100000)(hal:Hid (s.ns.length=s.ats.length))(hn:n.length≤maxLen)(hE:Hid ((if clusd s.cs n=true then 6 else 0)=E)) :
    Calls Tryz.prog 138 #[.pointer (some ⟨b,0,none⟩),.string (bb n),.int .i64 p.cl,.agg #[dv,ev]] w (MenOut w0 b nm d (mentC s n p) E w):=by
 obtain ⟨po,pc,rfl,_,_,_⟩:=id hp.out.prs
 have hb1:=al1 w (.cells #[.slice po p.dn.length pc,ev] 70)
 have hs1:=hS.out.below hb1
 have hbp:=blk_new w #[.slice po p.dn.length pc,ev] 70
 have HPP:=Lh (hp.out.keep hb1)
 have HST1:Hid (Stp w0 w (w.alloc (.cells #[.slice po p.dn.length pc,ev] 70))):=Lh (Stp.below hb1 hS.out.base)
 have hPb:w.heap.size≠b:=Nat.ne_of_gt hS.out.lt
 obtain ⟨c2,c4,c5,c6,c7,c8⟩:=hs1.box.read
 have HS1:=Lh hs1
 have HBP:=Lh hbp
 obtain ⟨R,hR⟩:∃ R,clusd s.cs n=R:=⟨_,rfl⟩
 have HR:=Lh hR
 have hk:=hs1.km.look n hn hR
 clear hs1 hbp hb1 hS hp
 cases R
 case true =>
  obtain rfl:6=E:=by have h:=hE.out;rwa [if_pos HR.out] at h
  go_enter Tryz.func138,Tryz.ntmps138
  go_wp2
  go_ret
  exact ⟨rfl,HST1.out,HS1.out.old,fun q=>absurd q (by decide)⟩
 obtain rfl:0=E:=by have h:=hE.out;rwa [if_neg (by rw [HR.out];decide)] at h
 obtain ⟨i,hi⟩:∃ i,(if 0≤nodeI s.ns n 0 then nodeI s.ns n 0 else 0)=i:=⟨_,rfl⟩
 obtain ⟨Q,hQ⟩:∃ Q,decide (0≤nodeI s.ns n 0)=Q:=⟨_,rfl⟩
 have hm:=HS1.out.mm.lookOk n hn hi hQ
 have HQ:=Lh hQ
 clear hi hQ hR
 cases Q
 case true =>
  have HM:Hid (mentC s n p=s):=Lh (by have:=of_decide_eq_true HQ.out;unfold mentC;rw [if_neg (by omega)])
  rw [HM.out]
  go_enter Tryz.func138,Tryz.ntmps138
  go_wp2
  go_ret
  exact ⟨rfl,HST1.out,HS1.out.old,fun _=>⟨x,HS1.out⟩⟩
 have hf:nodeI s.ns n 0 < 0:=by have:=of_decide_eq_false HQ.out;omega
 have HF:=Lh hf
 have HM:Hid (mentC s n p=⟨s.ns ++ [(n,p.cl)],s.ats ++ [p.dn],s.cs,s.ch⟩):=Lh (by unfold mentC;rw [if_pos hf])
 rw [HM.out]
 obtain ⟨nv,cv,av,hv,mb,kb,avs,hvs⟩:=x
 obtain ⟨no,nc,hnv,-,-⟩:=own_form HS1.out.nr
 obtain ⟨ao,ac,hav,-,-⟩:=own_form HS1.out.ar
 simp only [Bs.g] at hnv hav
 subst hnv hav
 obtain ⟨W1,hW1⟩:∃ W1,w.alloc (.cells #[.slice po p.dn.length pc,ev] 70)=W1:=⟨_,rfl⟩
 have HW1:=Lh hW1
 rw [hW1] at HS1 HBP HPP HST1
 clear hW1 hf
 go_enter Tryz.func138,Tryz.ntmps138
 go_wp2_with fail
 rw [HW1.out]
 clear c2 c4 c5 c6 c7 c8 hk hm
 have hBd:Below W1.heap.size W1 W1.drew:=(Below.refl W1.heap.size W1).drew
 have hsd:=HS1.out.below hBd
 have HSTd:=Lh (HST1.out.trans (Stp.below hBd HS1.out.base))
 have hPPd:=HPP.out.keep hBd
 have hBPd:blk W1.drew w.heap.size 70 #[.slice po p.dn.length pc,ev]:=HBP.out
 obtain ⟨c2,c4,c5,c6,c7,c8⟩:=hsd.box.read
 obtain ⟨w2,hput,hm2,hg2⟩:=hsd.mm.put n p.cl hn HF.out hl
 refine wp_region_still_tail 11 (by kernel_rfl) (by kernel_rfl) ?_
 change wpStill _ _ W1.drew (fun a'=>wpList _ _ _ _ a' W1.drew) _ _
 generalize W1.drew=wd at *
 obtain ⟨hs2,hst2⟩:=hsd.putN hg2 hm2
 have HS2:=Lh hs2
 have HST2:=Lh (HSTd.out.trans hst2)
 have HPP2:=Lh (hst2.frm.prs hPPd)
 have HBP2:=Lh (hst2.frm.blk hBPd rfl)
 clear hs2 hst2 hPPd hBPd hm2 hg2 hsd HSTd hBd HS1 HPP HBP HST1
 simp only [List.take_succ_cons,List.take_zero,List.drop_succ_cons,List.drop_zero,Bs.g] at *
 repeat still_step
 refine wpStill_nil ?_
 clear c2 c4 c5 c6 c7 c8
 obtain ⟨c2,c4,c5,c6,c7,c8⟩:=HS2.out.box.read
 have hfz2:=HS2.out.box.open 2
 have hsz:=HS2.out.base
 have HN2:Hid (Nrow w2 w0.heap.size (.slice no s.ns.length nc) s.ns):=Lh HS2.out.nr
 go_wp2_with (at_builtin;refine app_nd rfl (.tmp 44) (.tmp 48) rfl w0.heap.size _ s.ns n p.cl _ rfl rfl rfl HN2 (by omega) hsz ?_;intro nv3 w3 hrow3 hgr3;obtain ⟨no3,nc3,e3,-,-⟩:=own_form hrow3;rw [List.length_append,List.length_singleton] at e3;subst e3;obtain ⟨⟨hbx3,hst3⟩,hs4,hst4⟩:=HS2.out.growN (c:=(n,p.cl)) (Below.refl _ _) hgr3 hrow3;have HS4:=Lh hs4;have HST4:=Lh hst4;have hfz3:=hbx3.open 2;have hd3:=hbx3.read.1;clear hrow3 hgr3 hs4 hst4 hbx3 hst3 c2 c4 c5 c6 c7 c8 hfz2 HN2)
 generalize w3.setCell ⟨b,2,none⟩ (Value.slice no3 (s.ns.length+1) nc3)=W4 at HS4 HST4 ⊢
 have HST4':=Lh (HST2.out.trans HST4.out)
 have HPP4:=Lh (HST4.out.frm.prs HPP2.out)
 have HBP4:=Lh (HST4.out.frm.blk HBP2.out rfl)
 have hbase:=HS4.out.base
 have hbx:=HS4.out.box.read.2.2.1
 have hblt:=HS4.out.lt
 have hal3:avs.length≤100000:=by have h9:avs.length=s.ats.length:=HS4.out.al;have h8:=hal.out;omega
 have hS0:W4.cell? ⟨w.heap.size,0,none⟩=some (.slice po p.dn.length pc):=by rw [blk_cell HBP4.out];rfl
 obtain ⟨i9,hi0,hz0,hz1,hz2⟩:=info_of info_at
 clear HST4 HS2 HST2 HPP2 HBP2 hsz hput
 refine wp_region_held_drew (S:=(fun W=>W.cell? ⟨w.heap.size,0,none⟩=some (.slice po p.dn.length pc))) (by kernel_rfl) (s_drew hS0) (fun hHeld=>?_)
 refine tk 0 53 (.pointer (some ⟨b,0,none⟩)) ?_ ?_
 ·(intro W hSw;try dsimp only at hSw
   go_simp)
 try simp only [sA,sB,sC]
 refine tk 1 54 (.pointer (some ⟨b,0,none⟩)) ?_ ?_
 ·(intro W hSw;try dsimp only at hSw
   go_simp)
 try simp only [sA,sB,sC]
 refine tk 2 55 (.pointer (some ⟨b,0,none⟩)) ?_ ?_
 ·(intro W hSw;try dsimp only at hSw
   go_simp)
 try simp only [sA,sB,sC]
 refine tk 3 56 (.pointer (some ⟨b,5,none⟩)) ?_ ?_
 ·(intro W hSw;try dsimp only at hSw
   go_simp)
 try simp only [sA,sB,sC]
 refine tk 5 58 (.pointer (some ⟨w.heap.size,0,none⟩)) ?_ ?_
 ·(intro W hSw;try dsimp only at hSw
   go_simp)
 try simp only [sA,sB,sC]
 refine tk 6 59 (.slice po p.dn.length pc) ?_ ?_
 ·(intro W hSw;try dsimp only at hSw
   go_simp)
 try simp only [sA,sB,sC]
 refine wpAnyH_ready (rs:=[4,7]) (by kernel_rfl) (by simp) ?_
 refine AllReadyH.cons rfl (fun K hK=>?_) (AllReadyH.cons rfl (fun K hK=>?_) AllReadyH.nil)
 ·
  go_simp
  refine hK.out _ _ (by repeat (first | assumption | (with_reducible refine s_drew ?_) | (with_reducible refine s_alloc ?_) | (with_reducible refine s_set (by simp only;omega) ?_))) (fun hHeld=>?_)
  clear hK K
  try simp only [sA,sB,sC]
  refine wpAnyH_ready (rs:=[7]) (by kernel_rfl) (by simp) ?_
  refine AllReadyH.cons rfl (fun K hK=>?_) AllReadyH.nil
  go_simp
  refine hK.out _ _ (by repeat (first | assumption | (with_reducible refine s_drew ?_) | (with_reducible refine s_alloc ?_) | (with_reducible refine s_set (by simp only;omega) ?_))) (fun hHeld=>?_)
  clear hK K
  try simp only [sA,sB,sC]
  refine wpAnyH_ready (rs:=[8]) (by kernel_rfl) (by simp) ?_
  refine AllReadyH.cons rfl (fun K hK=>?_) AllReadyH.nil
  refine step_append_lies _ (by rfl) _ _ _ (by rfl) w0.heap.size 54 i9 _ 1 24 Tryz.underlying64 hi0 hz0 hz1 hz2 rfl (by omega) (.slice ao avs.length ac) avs.length (avs.flatMap vC) (by rfl) (by exact row_below HS4.out.ar (by repeat (first | (with_reducible exact Below.refl _ _) | (with_reducible refine Below.drew ?_) | (with_reducible refine b_allocN ?_ ?_) | (simp;done) | omega))) ⟨W4.heap.size,0,none⟩ 1 1 [.slice po p.dn.length pc] (by rfl) (by rfl) (by exact World.news_of_block (cs:=#[.slice po p.dn.length pc]) (t:=54) (fr:=(0,0)) (heap_alloc_new _ _)) (by simp [Value.oneCell']) (by omega) (by unfold maxLen;omega) (by omega) (by simp;omega) (W4.heap.size+1) (by simp) ?_
  intro gg cap1 w1 hown1 hgrow hat1 hlt1
  obtain ⟨⟨hx1,hst5⟩,hs5,hst6⟩:=HS4.out.growA (v:=.slice po p.dn.length pc) (a:=p.dn) (by exact (by repeat (first | (with_reducible exact Below.refl _ _) | (with_reducible refine Below.drew ?_) | (with_reducible refine b_allocN ?_ ?_) | (simp;done) | omega))) hgrow (by show World.ownsRow _ _ _ _ _ (avs ++ [_]).length _;rw [List.length_append,List.flatMap_append];exact hown1) HPP4.out
  have HS1:w1.cell? ⟨w.heap.size,0,none⟩=some (.slice po p.dn.length pc):=by rw [blk_cell (hst5.frm.blk HBP4.out rfl)];rfl
  have hfz:=hx1.open 5
  have hc5:=hx1.read.2.2.1
  have HS5:=Lh hs5
  have HST5:=Lh (HST4'.out.trans hst6)
  clear hs5 hst5 hst6 hx1
  refine hK.out _ _ HS1 (fun hHeld=>?_)
  clear hK K
  try simp only [sA,sB,sC]
  refine tk 9 62 (.pointer (some ⟨b,0,none⟩)) ?_ ?_
  ·(intro W hSw;try dsimp only at hSw
    go_simp)
  try simp only [sA,sB,sC]
  refine tk 10 63 (.pointer (some ⟨b,5,none⟩)) ?_ ?_
  ·(intro W hSw;try dsimp only at hSw
    go_simp)
  refine wpAnyH_ready (rs:=[11]) (by kernel_rfl) (by simp) ?_
  refine AllReadyH.cons rfl (fun K hK=>?_) AllReadyH.nil
  go_simp
  refine hK.out _ _ (by repeat (first | assumption | (with_reducible refine s_drew ?_) | (with_reducible refine s_alloc ?_) | (with_reducible refine s_set (by simp only;omega) ?_))) (fun hHeld=>?_)
  clear hK K
  try simp only [sA,sB,sC]
  refine wpAnyH_done (by kernel_rfl) ?_ _
  go_wp2
  go_ret
  exact ⟨rfl,HST5.out,HS5.out.old,fun _=>⟨_,HS5.out⟩⟩
 ·
  go_simp
  refine hK.out _ _ (by repeat (first | assumption | (with_reducible refine s_drew ?_) | (with_reducible refine s_alloc ?_) | (with_reducible refine s_set (by simp only;omega) ?_))) (fun hHeld=>?_)
  clear hK K
  try simp only [sA,sB,sC]
  refine wpAnyH_ready (rs:=[4]) (by kernel_rfl) (by simp) ?_
  refine AllReadyH.cons rfl (fun K hK=>?_) AllReadyH.nil
  go_simp
  refine hK.out _ _ (by repeat (first | assumption | (with_reducible refine s_drew ?_) | (with_reducible refine s_alloc ?_) | (with_reducible refine s_set (by simp only;omega) ?_))) (fun hHeld=>?_)
  clear hK K
  try simp only [sA,sB,sC]
  refine wpAnyH_ready (rs:=[8]) (by kernel_rfl) (by simp) ?_
  refine AllReadyH.cons rfl (fun K hK=>?_) AllReadyH.nil
  refine step_append_lies _ (by rfl) _ _ _ (by rfl) w0.heap.size 54 i9 _ 1 24 Tryz.underlying64 hi0 hz0 hz1 hz2 rfl (by omega) (.slice ao avs.length ac) avs.length (avs.flatMap vC) (by rfl) (by exact row_below HS4.out.ar (by repeat (first | (with_reducible exact Below.refl _ _) | (with_reducible refine Below.drew ?_) | (with_reducible refine b_allocN ?_ ?_) | (simp;done) | omega))) ⟨W4.heap.size,0,none⟩ 1 1 [.slice po p.dn.length pc] (by rfl) (by rfl) (by exact World.news_of_block (cs:=#[.slice po p.dn.length pc]) (t:=54) (fr:=(0,0)) (heap_alloc_new _ _)) (by simp [Value.oneCell']) (by omega) (by unfold maxLen;omega) (by omega) (by simp;omega) (W4.heap.size+1) (by simp) ?_
  intro gg cap1 w1 hown1 hgrow hat1 hlt1
  obtain ⟨⟨hx1,hst5⟩,hs5,hst6⟩:=HS4.out.growA (v:=.slice po p.dn.length pc) (a:=p.dn) (by exact (by repeat (first | (with_reducible exact Below.refl _ _) | (with_reducible refine Below.drew ?_) | (with_reducible refine b_allocN ?_ ?_) | (simp;done) | omega))) hgrow (by show World.ownsRow _ _ _ _ _ (avs ++ [_]).length _;rw [List.length_append,List.flatMap_append];exact hown1) HPP4.out
  have HS1:w1.cell? ⟨w.heap.size,0,none⟩=some (.slice po p.dn.length pc):=by rw [blk_cell (hst5.frm.blk HBP4.out rfl)];rfl
  have hfz:=hx1.open 5
  have hc5:=hx1.read.2.2.1
  have HS5:=Lh hs5
  have HST5:=Lh (HST4'.out.trans hst6)
  clear hs5 hst5 hst6 hx1
  refine hK.out _ _ HS1 (fun hHeld=>?_)
  clear hK K
  try simp only [sA,sB,sC]
  refine tk 9 62 (.pointer (some ⟨b,0,none⟩)) ?_ ?_
  ·(intro W hSw;try dsimp only at hSw
    go_simp)
  try simp only [sA,sB,sC]
  refine tk 10 63 (.pointer (some ⟨b,5,none⟩)) ?_ ?_
  ·(intro W hSw;try dsimp only at hSw
    go_simp)
  refine wpAnyH_ready (rs:=[11]) (by kernel_rfl) (by simp) ?_
  refine AllReadyH.cons rfl (fun K hK=>?_) AllReadyH.nil
  go_simp
  refine hK.out _ _ (by repeat (first | assumption | (with_reducible refine s_drew ?_) | (with_reducible refine s_alloc ?_) | (with_reducible refine s_set (by simp only;omega) ?_))) (fun hHeld=>?_)
  clear hK K
  try simp only [sA,sB,sC]
  refine wpAnyH_done (by kernel_rfl) ?_ _
  go_wp2
  go_ret
  exact ⟨rfl,HST5.out,HS5.out.old,fun _=>⟨_,HS5.out⟩⟩
theorem chgA_len (m:List Pr):∀ (l:List (List Pr)) (i:Int),(chgA l i m).length=l.length
 | [],_=>rfl
 | a :: t,i=>by rw [chgA,List.length_cons,List.length_cons,chgA_len m t]
theorem chgA_get (m:List Pr):∀ (l:List (List Pr)) (i:Int) (j:Nat) (h:j < l.length) (h':j < (chgA l i m).length),(chgA l i m)[j]=if (j:Int)=i then mergeL l[j] m else l[j]
 | a :: t,i,j,h,h'=>by
  cases j with
  | zero =>
   simp only [chgA,List.getElem_cons_zero]
   by_cases e:i=0
   ·rw [if_pos e,if_pos (by rw [e];rfl)]
   ·rw [if_neg e,if_neg (fun q=>e q.symm)]
  | succ j =>
   simp only [chgA,List.getElem_cons_succ]
   rw [chgA_get m t (i - 1) j (by simpa using h) (by rw [chgA_len];simpa using h)]
   by_cases e:((j:Int)=i - 1)
   ·rw [if_pos e,if_pos (by omega)]
   ·rw [if_neg e,if_neg (by omega)]
theorem prs_bnd {w:World}{v:Value}{l:List Pr}(h:Prs w v l):Bnd l:=by
 obtain ⟨ao,cap,rfl,_,_,hA⟩:=h
 intro r hr
 obtain ⟨i,hi,rfl⟩:=List.mem_iff_getElem.1 hr
 obtain ⟨A,_,h2⟩:=hA (by omega)
 exact (h2 i hi).2.2
theorem row_vs {W:World}{B:Nat}{t:TypeId}{v:Value}{l:List Value}(h:W.ownsRow B t 1 v l.length (l.flatMap vC)):∃ (ao:Option Addr) (cap:Nat),v=.slice ao l.length cap∧∀ k (h:k < l.length),∃ A,ao=some A∧W.cell? (A.add k)=some l[k]:=by
 obtain ⟨ao,cap,rfl,h1,h2⟩:=own_form h
 refine ⟨ao,cap,rfl,fun k hk=>?_⟩
 obtain ⟨g,cap',arr,e,_,hg,_,_,h3⟩:=own_blk h (by omega)
 cases e
 refine ⟨_,rfl,?_⟩
 rw [add_at,Nat.zero_add,blk_cell hg,h3 _ (by omega)]
 have:=flat_get vC 1 (fun _=>rfl) l k 0 hk (by decide)
 rw [Nat.add_zero,Nat.mul_one] at this
 rw [this];rfl
theorem row_base {W:World}{B B' c n:Nat}{t:TypeId}{v:Value}{xs:List Value}(h:W.ownsRow B' t c v n xs)(hb:B≤B'):W.ownsRow B t c v n xs:=by
 refine ⟨h.1,?_⟩
 rcases h.2 with ⟨a,b⟩ | ⟨k,cap,cur,rfl,h1,h2⟩
 ·exact Or.inl ⟨a,b⟩
 ·exact Or.inr ⟨k,cap,cur,rfl,Nat.le_trans hb h1,h2⟩
theorem app_v {w:World}{ops:Array Oper}{rest:List Oper}{o:Oper}{a:Act}{Q:Exit→Act→World→Prop}(hg:o.guard=none)(p y:Operand)(ho:o.op=.call { callee:=.builtin .append,args:=#[p,y],argTypes:=#[64,64] })
    (B:Nat) (v:Value) (l:List Value) (xo:Option Addr) (xn xc:Nat) (H:Nat) (hH:w.heap.size=H) (hs:a.eval p=v) (hx:a.eval y=.slice (some ⟨H,0,none⟩) 1 1) (h:Hid (Arow w B v l)) (hl:l.length≤1000000) (hB:B≤w.heap.size)
    (hK:∀ v' w',Arow w' B v' (l ++ [.slice xo xn xc])→w.grownBy w' v.ownBlock→wpList Tryz.prog ops Q rest (a.put o.dst v') w'):wpList Tryz.prog ops Q (o :: rest) a (w.alloc (.cells #[.slice xo xn xc] 54)):=by
 subst hH
 obtain ⟨i0,hi,hz0,hz1,hz2⟩:=info_of info_at
 refine wpList_append_own _ hg p y 64 ho B 54 i0 _ 1 24 Tryz.underlying64 hi hz0 hz1 hz2 rfl (by decide) v l.length _ hs (World.ownsRow.alloc h.out _) ⟨w.heap.size,0,none⟩ 1 1 [.slice xo xn xc] hx rfl ?_ (by simp [Value.oneCell']) (by unfold maxLen;omega) (by omega) (by simp;omega) ?_
 ·intro j u hj
  rw [add_at,Nat.zero_add,blk_cell (blk_new w #[.slice xo xn xc] 54),← hj]
  simp
 ·intro v' w' hown hgrow _
  refine hK v' w' ?_ ?_
  ·unfold Arow;rw [List.length_append,List.flatMap_append];exact hown
  ·refine ⟨hgrow.os,hgrow.tape,hgrow.output,Nat.le_trans (by simp) hgrow.size,fun k hk hne=>?_⟩
   rw [hgrow.block k (by simp;omega) hne,heap_alloc_old w _ (h:=hk)]
theorem StB.setA {W w1:World}{B b:Nat}{nm:Nm}{d:Bool}{s:Sta}{x:StV}{av':Value}{outs:List Value}{aa:List (List Pr)}(h:StB W B b nm d s x)(hb:Below W.heap.size W w1)(ho:Arow w1 B av' outs)(hl:outs.length=aa.length)(hv:∀ i (h1:i < outs.length) (h2:i < aa.length),PrsT w1 outs[i] aa[i]) :
    StB (w1.setCell ⟨b,5,none⟩ av') B b nm d ⟨s.ns,aa,s.cs,s.en,s.e⟩ ⟨x.nv,x.cv,av',x.ev,outs,x.evs⟩∧TFr W (w1.setCell ⟨b,5,none⟩ av')∧Below B W (w1.setCell ⟨b,5,none⟩ av'):=by
 have k:=h.below hb
 have t2:TFr w1 (w1.setCell ⟨b,5,none⟩ av'):=TFr.set k.box rfl _
 exact ⟨⟨h.low,k.box.set5 av',row_set k.nr k.box (by decide) _,row_set k.cr k.box (by decide) _,row_set ho k.box (by decide) _,row_set k.er k.box (by decide) _,hl,fun i h1 h2=>t2.prs (hv i h1 h2),h.el,fun y hy=>t2.prs (k.ep y hy)⟩,(TFr.below hb).trans t2,(hb.mono h.base).setCell h.low _⟩
set_option maxRecDepth 100000 in
set_option maxHeartbeats 1000000 in
theorem change_of (B b:Nat)(nm:Nm)(d:Bool)(s:Sta)(x:StV)(i:Int)(lv:Value)(l:List Pr)(w:World)(hS:Hid (StB w B b nm d s x))(h:Hid (Prs w lv l))(hs:Hid (∀ a∈s.ats,a.length≤20000))(hm:l.length≤20000)(hn:s.ats.length≤100000) :
    Calls Tryz.prog 68 #[.pointer (some ⟨b,0,none⟩),.int .i64 i,lv] w fun e w'=>e=.returned (.tuple #[])∧MacOut B b nm d ⟨s.ns,chgA s.ats i l,s.cs,s.en,s.e⟩ w w':=by
 obtain ⟨nv,cv,av,ev,avs,evs⟩:=x
 have HAL:Hid (avs.length=s.ats.length):=Lh hS.out.al
 have HBL:=Lh (prs_bnd h.out)
 have havl:avs.length≤100000:=by have:=HAL.out;omega
 obtain ⟨lo,lc,rfl,_,_,_⟩:=id h.out
 go_enter Tryz.func68,Tryz.ntmps68
 go_wp2_with fail
 go_loopw [6,7] (fun ov iv wr=>∃ (k:Nat) (outs:List Value),iv=.int .i64 k∧k≤avs.length∧Arow wr w.heap.size ov outs∧outs.length=k∧Hid (∀ j (h1:j < outs.length) (h2:j < (chgA s.ats i l).length),PrsT wr outs[j] (chgA s.ats i l)[j])∧Below w.heap.size w wr) (fun _ iv _=>avs.length - (intOf iv).toNat)
 case atStart=>exact ⟨0,[],rfl,Nat.zero_le _,World.ownsRow_nil ..,rfl,Lh (fun j h1=>absurd h1 (by simp)),Below.refl _ _⟩
 case round =>
  obtain ⟨k,outs,rfl,hk,hrow,hol,hvs,hb⟩:=hrel
  rename World=>wr
  obtain ⟨oo,oc,rfl,_,_⟩:=own_form hrow
  have hst:=hS.out.below hb
  obtain ⟨ao,ac,hav,hA⟩:=row_vs hst.ar
  simp only at hav
  subst hav
  have c5:=hst.box.read.2.2.1
  have HST:=Lh hst
  have HROW:=Lh hrow
  have HVS:=hvs
  have HB:=Lh hb
  have HOL:=Lh hol
  have hsz:=hb.size
  clear hst hrow hvs hb
  by_cases hlt:k < avs.length
  ·obtain ⟨A,rfl,q0⟩:=hA k hlt
   have hlt2:k < s.ats.length:=by have:=HAL.out;omega
   have hpt:=HST.out.ap k hlt hlt2
   obtain ⟨u,hu⟩:∃ u,avs[k]=u:=⟨_,rfl⟩
   obtain ⟨a,ha⟩:∃ a,s.ats[k]=a:=⟨_,rfl⟩
   simp only at hpt
   rw [hu] at q0
   rw [hu,ha] at hpt
   have hal2:a.length≤20000:=by rw [← ha];exact hs.out _ (List.getElem_mem _)
   obtain ⟨uo,uc,rfl,_,_,_⟩:=id hpt.prs
   have HPT:=Lh hpt
   have HC:Hid (∀ h2:k < (chgA s.ats i l).length,(chgA s.ats i l)[k]=if (k:Int)=i then mergeL a l else a):=Lh (fun h2=>by rw [chgA_get l s.ats i k hlt2 h2,ha])
   have hol2:outs.length≤1000000:=by have:=HAL.out;omega
   have i0:(0:Int)≤(k:Int):=by omega
   have i1:(k:Int) < (avs.length:Int):=by omega
   clear hA hpt hu ha hol
   clear hlt2
   by_cases hki:(k:Int)=i
   ·have HC2:Hid (∀ h2:k < (chgA s.ats i l).length,(chgA s.ats i l)[k]=mergeL a l):=Lh (fun h2=>(HC.out h2).trans (if_pos hki))
    clear HC
    subst hki
    go_wp2_with fail
    refine (rmergeT_of _ _ a l wr (Lh HPT.out.prs) (Lh (h.out.keep HB.out)) hal2 hm (Lh (prs_bnd HPT.out.prs)) HBL).mono ?_
    rintro e w2 ⟨v',rfl,hp2,hb2⟩
    obtain ⟨vo,vc,rfl,_,_,_⟩:=id hp2.prs
    have HP2:=Lh hp2
    have HB2:=Lh (below_keep hb2 HB.out)
    have HBw:=Lh hb2
    have HROW2:Hid (Arow w2 w.heap.size _ outs):=Lh (row_below HROW.out hb2)
    have hsz2:=HB2.out.size
    clear hp2 hb2
    go_wp2_with (at_builtin;refine app_v rfl (.tmp 20) (.tmp 30) rfl w.heap.size _ outs vo (mergeL a l).length vc _ rfl rfl rfl HROW2 hol2 hsz2 ?_;intro ov5 w5 hrow5 hgrow5;have hB5:=Lh (below_row HROW2.out hgrow5 hsz2);have HR5:=Lh hrow5;have hT5:=Lh (tfr_row HROW2.out hgrow5 rfl);clear hgrow5 hrow5)
    go_roundw
    case rel =>
     refine ⟨k+1,outs ++ [_],by go_num,by omega,HR5.out,by rw [List.length_append,HOL.out];rfl,Lh (fun j h1 h2=>?_),HB2.out.trans hB5.out⟩
     rcases Nat.lt_or_ge j outs.length with q | q
     ·rw [List.getElem_append_left q];exact hT5.out.prs ((HVS.out j q h2).keep HBw.out)
     ·rw [List.getElem_append_right q,List.getElem_singleton]
      rw [List.length_append,List.length_singleton] at h1
      obtain rfl:j=k:=by have:=HOL.out;omega
      rw [HC2.out h2];exact hT5.out.prs HP2.out
    case measure=>simp [intOf];omega
   ·have dk:decide ((k:Int)=i)=false:=decide_eq_false hki
    have HC2:Hid (∀ h2:k < (chgA s.ats i l).length,(chgA s.ats i l)[k]=a):=Lh (fun h2=>(HC.out h2).trans (if_neg hki))
    have hki2:¬ i=(k:Int):=fun q=>hki q.symm
    clear HC
    go_wp2_with (at_builtin;refine app_v rfl (.tmp 32) (.tmp 40) rfl w.heap.size _ outs uo a.length uc _ rfl rfl rfl HROW hol2 hsz ?_;intro ov5 w5 hrow5 hgrow5;have hB5:=Lh (below_row HROW.out hgrow5 hsz);have HR5:=Lh hrow5;have hT5:=Lh (tfr_row HROW.out hgrow5 rfl);clear hgrow5 hrow5)
    go_roundw
    case rel =>
     refine ⟨k+1,outs ++ [_],by go_num,by omega,HR5.out,by rw [List.length_append,HOL.out];rfl,Lh (fun j h1 h2=>?_),HB.out.trans hB5.out⟩
     rcases Nat.lt_or_ge j outs.length with q | q
     ·rw [List.getElem_append_left q];exact hT5.out.prs (HVS.out j q h2)
     ·rw [List.getElem_append_right q,List.getElem_singleton]
      rw [List.length_append,List.length_singleton] at h1
      obtain rfl:j=k:=by have:=HOL.out;omega
      rw [HC2.out h2];exact hT5.out.prs HPT.out
    case measure=>simp [intOf];omega
  ·obtain rfl:k=avs.length:=by omega
   have hfz:=HST.out.box.open 5
   clear hA hol
   go_wp2
   refine end0 rfl rfl ?_
   obtain ⟨m1,m2,m3⟩:=hS.out.setA HB.out (row_base HROW.out hS.out.base) (by rw [chgA_len,HOL.out];exact HAL.out) HVS.out
   exact ⟨rfl,_,m1,m2,m3⟩
theorem chg_set (m:List Pr):∀ (l:List (List Pr)) (j:Nat) (h:j < l.length),chgA l (j:Int) m=l.set j (mergeL l[j] m)
 | a :: t,0,_=>by
  rw [chgA,if_pos (show ((0:Nat):Int)=0 from rfl),List.set_cons_zero,List.getElem_cons_zero]
  congr 1
  have:∀ (l:List (List Pr)) (i:Int),i < 0→chgA l i m=l:=fun l=>by
   induction l with
   | nil=>intro i _;rfl
   | cons b u ih=>intro i hi;rw [chgA,if_neg (by omega),ih (i - 1) (by omega)]
  exact this t _ (by decide)
 | a :: t,j+1,h=>by
  rw [chgA,if_neg (by omega),List.set_cons_succ,List.getElem_cons_succ,← chg_set m t j (by simpa using h)]
  congr 2
  omega
theorem fr_keep' {w1 w2:World}{A:Addr}{v:Value}(h2:Below w1.heap.size w1 w2)(h1:w1.cell? A=some v)(h:w1.frozen? A=false):w2.frozen? A=false:=by rw [h2.frozen (World.block_lt_of_cell? w1 _ h1)];exact h
theorem and_drew {W:World}{A B:Addr}{u v:Value}(h:W.cell? A=some u)(k:W.cell? B=some v):W.drew.cell? A=some u∧W.drew.cell? B=some v:=⟨h,k⟩
theorem row_get {W:World}{B:Nat}{t:TypeId}{v:Value}{l:List Value}(h:W.ownsRow B t 1 v l.length (l.flatMap vC)){k:Nat}(hk:k < l.length):∃ g cap,v=.slice (some ⟨g,0,none⟩) l.length cap∧W.cell? ⟨g,k,none⟩=some l[k]∧(∃ arr,blk W g t arr)∧W.frozen? ⟨g,k,none⟩=false:=by
 obtain ⟨g,cap',arr,e,_,hg,_,_,h3⟩:=own_blk h (by omega)
 refine ⟨g,cap',e,?_,⟨arr,hg⟩,by unfold att.blk at hg;simp [World.frozen?,hg]⟩
 rw [blk_cell hg,h3 _ (by omega)]
 have:=flat_get vC 1 (fun _=>rfl) l k 0 hk (by decide)
 rw [Nat.add_zero,Nat.mul_one] at this
 rw [this];rfl
set_option maxRecDepth 100000 in
set_option maxHeartbeats 1000000 in
theorem readnode_of (w0:World)(b:Nat)(nm:Nm)(d:Bool)(s:Bs)(x:BdV)(n:Nm)(r a:List Pr)(bd:List St)(rv av bv:Value)(p:Pl)(dv ev:Value)(E:Int)(w:World)(hS:Hid (BdG w0 w b nm d s.g x))(hp:Hid (PrsT w dv p.dn))(hq:Hid (PrsT w ev p.de))(hR:Hid (Prs w0 rv r))(hA:Hid (Prs w0 av a))(hB:Hid (Sts w0 bv bd))(hl:sz s≤100000)(hal:Hid (s.ns.length=s.ats.length))(hn:n.length≤maxLen)(hal60:a.length≤60)(hga:Hid (GaS s))(hgp:Hid (GaP p))(hE:Hid ((stmC (.mk 1 n r a bd) p s).2=E)) :
    Calls Tryz.prog 98 #[.pointer (some ⟨b,0,none⟩),.agg #[.int .i64 1,.string (bb n),rv,av,bv],.int .i64 p.cl,.agg #[dv,ev]] w (MenOut w0 b nm d (stmC (.mk 1 n r a bd) p s).1 E w):=by
 obtain ⟨po,pc,rfl,_,_,_⟩:=id hp.out.prs
 obtain ⟨eo,ec,rfl,_,_,_⟩:=id hq.out.prs
 obtain ⟨ro,rc,rfl,_,_,_⟩:=id hR.out
 obtain ⟨ao,ac,rfl,_,_,_⟩:=id hA.out
 obtain ⟨bo,bc,rfl,_,_,_⟩:=id hB.out
 have hb1:=al2 w (.cells #[.int .i64 1,.string (bb n),.slice ro r.length rc,.slice ao a.length ac,.slice bo bd.length bc] 56) (.cells #[.slice po p.dn.length pc,.slice eo p.de.length ec] 70)
 have hs1:=hS.out.below hb1
 have hsb:blk ((w.alloc (.cells #[.int .i64 1,.string (bb n),.slice ro r.length rc,.slice ao a.length ac,.slice bo bd.length bc] 56)).alloc (.cells #[.slice po p.dn.length pc,.slice eo p.de.length ec] 70)) w.heap.size 56 #[.int .i64 1,.string (bb n),.slice ro r.length rc,.slice ao a.length ac,.slice bo bd.length bc]:=by
  have h:=al1 (w.alloc (.cells #[.int .i64 1,.string (bb n),.slice ro r.length rc,.slice ao a.length ac,.slice bo bd.length bc] 56)) (.cells #[.slice po p.dn.length pc,.slice eo p.de.length ec] 70)
  unfold att.blk
  rw [h.block _ (by simp)]
  exact blk_new w #[.int .i64 1,.string (bb n),.slice ro r.length rc,.slice ao a.length ac,.slice bo bd.length bc] 56
 have hbp:blk ((w.alloc (.cells #[.int .i64 1,.string (bb n),.slice ro r.length rc,.slice ao a.length ac,.slice bo bd.length bc] 56)).alloc (.cells #[.slice po p.dn.length pc,.slice eo p.de.length ec] 70)) (w.heap.size+1) 70 #[.slice po p.dn.length pc,.slice eo p.de.length ec]:=by
  have h:=blk_new (w.alloc (.cells #[.int .i64 1,.string (bb n),.slice ro r.length rc,.slice ao a.length ac,.slice bo bd.length bc] 56)) #[.slice po p.dn.length pc,.slice eo p.de.length ec] 70
  rwa [World.size_alloc] at h
 have HPP:=Lh (hp.out.keep hb1)
 have HST1:Hid (Stp w0 w ((w.alloc (.cells #[.int .i64 1,.string (bb n),.slice ro r.length rc,.slice ao a.length ac,.slice bo bd.length bc] 56)).alloc (.cells #[.slice po p.dn.length pc,.slice eo p.de.length ec] 70))):=Lh (Stp.below hb1 hS.out.base)
 have HS1:=Lh hs1
 have HSB:=Lh hsb
 have hPb:w.heap.size≠b:=Nat.ne_of_gt hS.out.lt
 have hlt0:b < w.heap.size:=hS.out.lt
 have hnl:s.ns.length≤100000:=by unfold sz at hl;omega
 obtain ⟨R,hR1⟩:∃ R,clusd s.cs n=R:=⟨_,rfl⟩
 have hE1:=hE.out
 rw [stmC_1,hR1] at hE1
 obtain ⟨S',hS'⟩:∃ S',(stmC (.mk 1 n r a bd) p s).1=S':=⟨_,rfl⟩
 rw [hS']
 have HSS:Hid (S'=if R=true then s else ⟨(mentC s n p).ns,chgA (mentC s n p).ats (nodeI (mentC s n p).ns n 0) a,(mentC s n p).cs,(mentC s n p).ch⟩):=Lh (by rw [← hS',stmC_1,hR1];cases R <;> rfl)
 have HRR:Hid ((if clusd s.cs n=true then 6 else 0)=if R=true then (6:Int) else 0):=Lh (by rw [hR1])
 have HR1:=Lh hR1
 clear hs1 hb1 hsb hR1 hE hR hB hS'
 obtain ⟨a0,a1,a2,a3,a4⟩:tbx ((w.alloc (.cells #[.int .i64 1,.string (bb n),.slice ro r.length rc,.slice ao a.length ac,.slice bo bd.length bc] 56)).alloc (.cells #[.slice po p.dn.length pc,.slice eo p.de.length ec] 70)) w.heap.size 1 (bb n) (.slice ro r.length rc) (.slice ao a.length ac) (.slice bo bd.length bc):=⟨by rw [blk_cell HSB.out];rfl,by rw [blk_cell HSB.out];rfl,by rw [blk_cell HSB.out];rfl,by rw [blk_cell HSB.out];rfl,by rw [blk_cell HSB.out];rfl⟩
 have p0:((w.alloc (.cells #[.int .i64 1,.string (bb n),.slice ro r.length rc,.slice ao a.length ac,.slice bo bd.length bc] 56)).alloc (.cells #[.slice po p.dn.length pc,.slice eo p.de.length ec] 70)).cell? ⟨w.heap.size+1,0,none⟩=some (.slice po p.dn.length pc):=by rw [blk_cell hbp];rfl
 have p1:((w.alloc (.cells #[.int .i64 1,.string (bb n),.slice ro r.length rc,.slice ao a.length ac,.slice bo bd.length bc] 56)).alloc (.cells #[.slice po p.dn.length pc,.slice eo p.de.length ec] 70)).cell? ⟨w.heap.size+1,1,none⟩=some (.slice eo p.de.length ec):=by rw [blk_cell hbp];rfl
 clear hbp
 go_enter Tryz.func98,Tryz.ntmps98
 go_wp2_with fail
 generalize (w.alloc (.cells #[.int .i64 1,.string (bb n),.slice ro r.length rc,.slice ao a.length ac,.slice bo bd.length bc] 56)).alloc (.cells #[.slice po p.dn.length pc,.slice eo p.de.length ec] 70)=w1 at *
 refine (cmention_of w0 b nm d s x n p _ _ (if R=true then 6 else 0) w1 HS1 HPP hnl hal hn HRR).mono ?_
 rintro e w2 ⟨rfl,hst2,hold2,hx2⟩
 have HST2:=Lh (HST1.out.trans hst2)
 have HOLD2:=Lh hold2
 have HX2:=Lh hx2
 have HSB2:=Lh (hst2.frm.blk HSB.out rfl)
 clear hst2 hold2 hx2 HS1 HPP HST1 HSB a0 a1 a2 a3 a4 p0 p1
 cases R
 case true =>
  obtain rfl:6=E:=hE1
  go_wp2
  go_ret
  exact ⟨rfl,HST2.out,HOLD2.out,fun q=>absurd q (by decide)⟩
 obtain rfl:0=E:=hE1
 obtain ⟨x2,hS2⟩:=HX2.out rfl
 have hrl:=ment_rel (c:=s) (s:=⟨s.ns,s.ats,s.cs,enF s.ns s.ch,0⟩)
 clear hrl
 obtain ⟨j,hj⟩:∃ j:Nat,nodeI (mentC s n p).ns n 0=(j:Int):=by
  have h0:0≤nodeI (mentC s n p).ns n 0:=by
   unfold mentC
   split
   ·rename_i hneg
    show 0≤nodeI (s.ns ++ [(n,p.cl)]) n 0
    rw [nodeI_app,if_neg (by omega),if_pos rfl];omega
   ·rename_i hneg;omega
  exact ⟨(nodeI (mentC s n p).ns n 0).toNat,by omega⟩
 have hjl:j < (mentC s n p).ns.length:=by
  have:=nodeI_lt n (mentC s n p).ns 0
  rw [hj] at this;omega
 have hal2:(mentC s n p).ns.length=(mentC s n p).ats.length:=mentC_len hal.out n p
 have hgs2:GaS (mentC s n p):=hga.out.ment hgp.out n
 have hnl2:(mentC s n p).ns.length≤100001:=by have:=ment_sz s n p;unfold sz at this hl;omega
 have hjj:(if 0≤nodeI (mentC s n p).ns n 0 then nodeI (mentC s n p).ns n 0 else 0)=(j:Int):=by rw [hj];exact if_pos (by omega)
 have HSJ:Hid (S'=⟨(mentC s n p).ns,chgA (mentC s n p).ats (j:Int) a,(mentC s n p).cs,(mentC s n p).ch⟩):=Lh (by rw [HSS.out,if_neg (by decide),hj])
 clear HSS
 generalize hsm:mentC s n p=sm at *
 obtain ⟨nv,cv,av,hv,mb,kb,avs,hvs⟩:=x2
 have havl:avs.length=sm.ats.length:=hS2.al
 have hj3:j < avs.length:=by omega
 have hj4:j < sm.ats.length:=by omega
 have hlook:=hS2.mm.look n hn hjj
 have HJ:=Lh hjj
 obtain ⟨g,gc,hav,hgc,⟨arr,hga2⟩,hgf⟩:=row_get hS2.ar hj3
 simp only at hav
 subst hav
 have hpj:=hS2.ap j hj3 hj4
 simp only [Bs.g] at hpj
 have HCH:Hid (chgA sm.ats (j:Int) a=sm.ats.set j (mergeL sm.ats[j] a)):=Lh (chg_set a sm.ats j hj4)
 have hlen:sm.ats[j].length≤60:=Nat.le_trans (hgs2.1 _ (List.getElem_mem hj4)).len (by decide)
 obtain ⟨u,hu⟩:∃ u,avs[j]=u:=⟨_,rfl⟩
 obtain ⟨l,hlq⟩:∃ l,sm.ats[j]=l:=⟨_,rfl⟩
 rw [hu] at hgc hpj
 rw [hlq] at hpj hlen HCH
 obtain ⟨uo,uc,rfl,_,_,_⟩:=id hpj.prs
 obtain ⟨A,hAe⟩:∃ A:Addr,(⟨g,j,none⟩:Addr)=A:=⟨_,rfl⟩
 have hgadd:(⟨g,0,none⟩:Addr).add j=A:=by rw [add_at,Nat.zero_add];exact hAe
 obtain ⟨c2,c4,c5,c6,c7,c8⟩:=hS2.box.read
 have hgb:g≠b:=fun e=>by
  have q:=hS2.box
  unfold bdb att.blk at q
  unfold att.blk at hga2
  rw [e,q] at hga2
  cases hga2
 have hgw:w.heap.size≠g:=fun e=>by
  have q:=HSB2.out
  unfold att.blk at q hga2
  rw [← e,q] at hga2
  cases hga2
 obtain ⟨G,hG⟩:∃ G:Addr,(⟨g,0,none⟩:Addr)=G:=⟨_,rfl⟩
 rw [hG] at c5 hgadd
 rw [hAe] at hgc hgf
 have HS2:=Lh hS2
 have HPJ:=Lh hpj
 have HG:=Lh hG
 have HAE:=Lh hAe
 have HA2:=Lh (hA.out.keep HOLD2.out)
 have s1:w2.cell? ⟨w.heap.size,1,none⟩=some (.string (bb n)):=by rw [blk_cell HSB2.out];rfl
 have s3:w2.cell? ⟨w.heap.size,3,none⟩=some (.slice ao a.length ac):=by rw [blk_cell HSB2.out];rfl
 have i0:(0:Int)≤(j:Int):=by omega
 have i1:(j:Int) < (avs.length:Int):=by omega
 clear havl hS2 hpj hu hlq hAe hG HX2 hA hgs2 hal2 hjj hj hsm c2 c4 c7 c8 hj4 hga2 hal
 go_wp2_with fail
 have hBd:Below w2.heap.size w2 w2.drew:=(Below.refl w2.heap.size w2).drew
 refine wp_region_still_tail 7 (by kernel_rfl) (by kernel_rfl) ?_
 change wpStill _ _ w2.drew (fun a'=>wpList _ _ _ _ a' w2.drew) _ _
 have HS3:=Lh (HS2.out.below hBd)
 have HPJ3:=Lh (HPJ.out.keep hBd)
 have HA3:=Lh (HA2.out.keep hBd)
 have HST3:=Lh (HST2.out.trans (Stp.below hBd HS2.out.base))
 have d5:w2.drew.cell? ⟨b,5,none⟩=some (.slice (some G) avs.length gc):=c5
 have d6:w2.drew.cell? ⟨b,6,none⟩=some (.map (some mb)):=c6
 have t1:w2.drew.cell? ⟨w.heap.size,1,none⟩=some (.string (bb n)):=s1
 have t3:w2.drew.cell? ⟨w.heap.size,3,none⟩=some (.slice ao a.length ac):=s3
 have gc3:w2.drew.cell? A=some (.slice uo l.length uc):=hgc
 have gf3:w2.drew.frozen? A=false:=hgf
 have hl3:(Instr.lookup 62 (.map (some mb)) (.string (bb n)) false).run Tryz.prog w2.drew=.ok (.int .i64 (j:Int)) w2.drew:=HS3.out.mm.look n hn HJ.out
 clear HS2 HPJ HA2 HST2 HSB2 hBd c5 c6 s1 s3 hgc hgf hlook HOLD2
 generalize w2.drew=w3 at *
 simp only [List.take_succ_cons,List.take_zero,List.drop_succ_cons,List.drop_zero]
 repeat still_step
 refine wpStill_nil ?_
 go_wp2_with fail
 clear d6 t1 hl3
 refine wp_region_held_drew (S:=(fun W:World=>W.cell? ⟨b,5,none⟩=some (.slice (some G) avs.length gc)∧W.cell? ⟨w.heap.size,3,none⟩=some (.slice ao a.length ac))) (by kernel_rfl) (and_drew d5 t3) (fun hHeld=>?_)
 refine tk 0 27 (.pointer (some ⟨b,0,none⟩)) ?_ ?_
 ·(intro W hSw;(try dsimp only at hSw);obtain ⟨hs0,hs1⟩:=hSw
   go_simp)
 try simp only [sA,sB,sC]
 refine tk 1 28 (.pointer (some ⟨b,0,none⟩)) ?_ ?_
 ·(intro W hSw;(try dsimp only at hSw);obtain ⟨hs0,hs1⟩:=hSw
   go_simp)
 try simp only [sA,sB,sC]
 refine tk 2 29 (.pointer (some ⟨b,5,none⟩)) ?_ ?_
 ·(intro W hSw;(try dsimp only at hSw);obtain ⟨hs0,hs1⟩:=hSw
   go_simp)
 try simp only [sA,sB,sC]
 refine tk 3 30 (.slice (some G) avs.length gc) ?_ ?_
 ·(intro W hSw;(try dsimp only at hSw);obtain ⟨hs0,hs1⟩:=hSw
   go_simp)
 try simp only [sA,sB,sC]
 refine tk 4 31 (.int .i64 (j:Int)) ?_ ?_
 ·(intro W hSw;(try dsimp only at hSw);obtain ⟨hs0,hs1⟩:=hSw
   go_simp)
 try simp only [sA,sB,sC]
 refine tk 5 32 (.pointer (some ⟨b,0,none⟩)) ?_ ?_
 ·(intro W hSw;(try dsimp only at hSw);obtain ⟨hs0,hs1⟩:=hSw
   go_simp)
 try simp only [sA,sB,sC]
 refine tk 6 33 (.pointer (some ⟨b,0,none⟩)) ?_ ?_
 ·(intro W hSw;(try dsimp only at hSw);obtain ⟨hs0,hs1⟩:=hSw
   go_simp)
 try simp only [sA,sB,sC]
 refine tk 7 34 (.pointer (some ⟨b,5,none⟩)) ?_ ?_
 ·(intro W hSw;(try dsimp only at hSw);obtain ⟨hs0,hs1⟩:=hSw
   go_simp)
 try simp only [sA,sB,sC]
 refine tk 8 35 (.slice (some G) avs.length gc) ?_ ?_
 ·(intro W hSw;(try dsimp only at hSw);obtain ⟨hs0,hs1⟩:=hSw
   go_simp)
 try simp only [sA,sB,sC]
 refine tk 9 36 (.int .i64 (j:Int)) ?_ ?_
 ·(intro W hSw;(try dsimp only at hSw);obtain ⟨hs0,hs1⟩:=hSw
   go_simp)
 try simp only [sA,sB,sC]
 refine tk 10 37 (.pointer (some A)) ?_ ?_
 ·(intro W hSw;(try dsimp only at hSw);obtain ⟨hs0,hs1⟩:=hSw
   go_simp)
 try simp only [sA,sB,sC]
 refine tk 12 39 (.pointer (some ⟨w.heap.size,3,none⟩)) ?_ ?_
 ·(intro W hSw;(try dsimp only at hSw);obtain ⟨hs0,hs1⟩:=hSw
   go_simp)
 try simp only [sA,sB,sC]
 refine tk 13 40 (.slice ao a.length ac) ?_ ?_
 ·(intro W hSw;(try dsimp only at hSw);obtain ⟨hs0,hs1⟩:=hSw
   go_simp)
 try simp only [sA,sB,sC]
 have hBdd:Below w3.heap.size w3 w3.drew:=(Below.refl w3.heap.size w3).drew
 refine wpAnyH_ready (rs:=[11]) (by kernel_rfl) (by simp) ?_
 refine AllReadyH.cons rfl (fun K hK=>?_) AllReadyH.nil
 go_simp
 refine hK.out _ _ hHeld (fun hHeld=>?_)
 clear hK K
 try simp only [sA,sB,sC]
 refine wpAnyH_ready (rs:=[14]) (by kernel_rfl) (by simp) ?_
 refine AllReadyH.cons rfl (fun K hK=>?_) AllReadyH.nil
 go_simp
 refine (merge10T_of _ _ l a _ (Lh (HPJ3.out.prs.keep hBdd)) (Lh (HA3.out.keep hBdd)) hlen hal60).mono ?_
 rintro e w4 ⟨v',rfl,hv4,hb4⟩
 obtain ⟨vo,vc,rfl,_,_,_⟩:=id hv4.prs
 have HS4:=Lh ((HS3.out.below hBdd).below hb4)
 have HV4:=Lh hv4
 have HST4:=Lh ((HST3.out.trans (Stp.below hBdd HS3.out.base)).trans (Stp.below hb4 (HS3.out.below hBdd).base))
 have gf4:w4.frozen? A=false:=fr_keep' hb4 gc3 gf3
 have k5:=cell_later' hb4 (hHeld.1)
 have k3:=cell_later' hb4 (hHeld.2)
 have gc4:=cell_later' hb4 (show w3.drew.cell? A=_ from gc3)
 clear hv4 hb4 hHeld
 refine hK.out _ _ ⟨k5,k3⟩ (fun hHeld=>?_)
 clear hK K
 try simp only [sA,sB,sC]
 refine tk 15 42 (.pointer (some A)) ?_ ?_
 ·(intro W hSw;(try dsimp only at hSw);obtain ⟨hs0,hs1⟩:=hSw
   go_simp)
 try simp only [sA,sB,sC]
 refine wpAnyH_ready (rs:=[16]) (by kernel_rfl) (by simp) ?_
 refine AllReadyH.cons rfl (fun K hK=>?_) AllReadyH.nil
 obtain ⟨q1,q2⟩:=HS4.out.setV (i:=j) rfl HV4.out
 rw [HAE.out] at q1 q2
 have HS5:Hid (BdG w0 (w4.setCell A _) b nm d S'.g _):=Lh (by rw [HSJ.out,HCH.out];exact q1)
 have HST5:=Lh (HST4.out.trans q2)
 have hk5:(w4.setCell A (.slice vo (mergeL l a).length vc)).cell? ⟨b,5,none⟩=some (.slice (some G) avs.length gc):=by rw [← HAE.out];exact s_set (Ne.symm hgb) k5
 have hk3:(w4.setCell A (.slice vo (mergeL l a).length vc)).cell? ⟨w.heap.size,3,none⟩=some (.slice ao a.length ac):=by rw [← HAE.out];exact s_set hgw k3
 clear q1 q2
 go_simp
 refine hK.out _ _ ⟨hk5,hk3⟩ (fun hHeld=>?_)
 clear hK K
 try simp only [sA,sB,sC]
 refine wpAnyH_done (by kernel_rfl) ?_ _
 go_wp2
 go_ret
 exact ⟨rfl,HST5.out,HS5.out.old,fun _=>⟨_,HS5.out⟩⟩
end Go.Proofs.YtcdoicgbjoikkaaGreatDoor.nor
