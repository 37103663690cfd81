/-
  What changed of the landed code of layer 12 answers: the defaults behind a statement that changes them. Conditions: at most 60 attributes a list.
  What readEdge of the landed builder does (layer 12). Conditions: a builder in memory that knows at most 100000 nodes, at most 60 attributes.
-/
import Derived.Test.YtcdoicgbjoikkaaGreatDoorMne
namespace Go.Proofs.YtcdoicgbjoikkaaGreatDoor.nor
open Go.RowKit lex tre att
theorem and3_drew {W:World}{A B C:Addr}{u v x:Value}(h:W.cell? A=some u)(k:W.cell? B=some v)(m:W.cell? C=some x):W.drew.cell? A=some u∧W.drew.cell? B=some v∧W.drew.cell? C=some x:=⟨h,k,m⟩
theorem prsT_far {w w':World}{v:Value}{l:List Pr}(h:PrsT w v l)(hf:∀ (k:Nat) (arr:Array Value) (fr:Nat × Nat),w.heap[k]?=some (.cells arr 82 fr)→w'.heap[k]?=w.heap[k]?):PrsT w' v l:=by
 obtain ⟨⟨ao,cap,rfl,hc,hm,hA⟩,hT⟩:=h
 refine ⟨⟨ao,cap,rfl,hc,hm,fun hn=>?_⟩,fun g hg=>?_⟩
 ·obtain ⟨A,rfl,h2⟩:=hA hn
  obtain ⟨arr,fr,hk⟩:=hT A.block rfl
  have e:=hf _ _ _ hk
  refine ⟨A,rfl,fun i hi=>?_⟩
  obtain ⟨a1,a2,a3⟩:=h2 i hi
  have eb:(A.add (i*2)).block=A.block:=by unfold Addr.add;split <;> rfl
  have e1:w'.heap[(A.add (i*2)).block]?=w.heap[(A.add (i*2)).block]?:=by rw [eb];exact e
  exact ⟨(World.cell?_of_block (a:=A.add (i*2)) e1).trans a1,(World.cell?_of_block (a:=⟨(A.add (i*2)).block,(A.add (i*2)).off+1,none⟩) e1).trans a2,a3⟩
 ·obtain ⟨arr,fr,hk⟩:=hT g hg
  exact ⟨arr,fr,(hf _ _ _ hk).trans hk⟩
theorem prsT_set {w:World}{v:Value}{l:List Pr}{b o:Nat}{t:TypeId}{arr:Array Value}(h:PrsT w v l)(hb:blk w b t arr)(ht:t≠82)(u:Value):PrsT (w.setCell ⟨b,o,none⟩ u) v l :=
 prsT_far h fun k arr' fr hk=>Below.heap_setCell _ _ _ _ fun e=>by
  subst e
  unfold att.blk at hb
  rw [hb] at hk
  cases hk
  exact ht rfl
theorem blk_open {w:World}{b:Nat}{t:TypeId}{arr:Array Value}(h:blk w b t arr)(o:Nat):w.frozen? ⟨b,o,none⟩=false:=by unfold att.blk at h;simp [World.frozen?,h]
theorem blk_below {w w':World}{b:Nat}{t:TypeId}{arr:Array Value}(h:blk w b t arr)(hb:Below w.heap.size w w'):blk w' b t arr:=by unfold att.blk;rw [hb.block b (heap_lt h)];exact h
def ChgOut (q:Pl)(w:World)(e:Ending)(w':World):Prop:=∃ dv ev,e=.returned (.agg #[dv,ev])∧PrsT w' dv q.dn∧PrsT w' ev q.de∧Below w.heap.size w w'
set_option maxRecDepth 100000 in
set_option maxHeartbeats 1000000 in
theorem changed_of (k:Int)(n:Nm)(ro bo:Option Addr)(rn rc bn bc:Nat)(a:List Pr)(av:Value)(p q:Pl)(dv ev:Value)(w:World)(hp:Hid (PrsT w dv p.dn))(hq:Hid (PrsT w ev p.de))(hA:Hid (Prs w av a))(h1:p.dn.length≤60)(h2:p.de.length≤60)(h3:a.length≤60)(hQ:Hid (q=dflt 3 n a p)) :
    Calls Tryz.prog 55 #[.agg #[dv,ev],.agg #[.int .i64 k,.string (bb n),.slice ro rn rc,av,.slice bo bn bc]] w (ChgOut q w):=by
 obtain ⟨X,hX⟩:∃ X,bb n=X:=⟨_,rfl⟩
 have hXn:X.data.toList=n:=by rw [← hX]
 rw [hX]
 clear hX
 obtain ⟨po,pc,rfl,_,_,_⟩:=id hp.out.prs
 obtain ⟨eo,ec,rfl,_,_,_⟩:=id hq.out.prs
 obtain ⟨ao,ac,rfl,_,_,_⟩:=id hA.out
 have hb1:=al3 w (.cells #[.slice po p.dn.length pc,.slice eo p.de.length ec] 70) (.cells #[.int .i64 k,.string X,.slice ro rn rc,.slice ao a.length ac,.slice bo bn bc] 56) (.cells #[.slice none 0 0,.slice none 0 0] 70)
 have HP1:=Lh (hp.out.keep hb1)
 have HQ1:=Lh (hq.out.keep hb1)
 have HA1:=Lh (hA.out.keep hb1)
 have HB1:=Lh hb1
 have d0:(((w.alloc (.cells #[.slice po p.dn.length pc,.slice eo p.de.length ec] 70)).alloc (.cells #[.int .i64 k,.string X,.slice ro rn rc,.slice ao a.length ac,.slice bo bn bc] 56)).alloc (.cells #[.slice none 0 0,.slice none 0 0] 70)).cell? ⟨w.heap.size,0,none⟩=some (.slice po p.dn.length pc):=by go_simp
 have d1:(((w.alloc (.cells #[.slice po p.dn.length pc,.slice eo p.de.length ec] 70)).alloc (.cells #[.int .i64 k,.string X,.slice ro rn rc,.slice ao a.length ac,.slice bo bn bc] 56)).alloc (.cells #[.slice none 0 0,.slice none 0 0] 70)).cell? ⟨w.heap.size,1,none⟩=some (.slice eo p.de.length ec):=by go_simp
 have s1:(((w.alloc (.cells #[.slice po p.dn.length pc,.slice eo p.de.length ec] 70)).alloc (.cells #[.int .i64 k,.string X,.slice ro rn rc,.slice ao a.length ac,.slice bo bn bc] 56)).alloc (.cells #[.slice none 0 0,.slice none 0 0] 70)).cell? ⟨w.heap.size+1,1,none⟩=some (.string X):=by go_simp
 have s3:(((w.alloc (.cells #[.slice po p.dn.length pc,.slice eo p.de.length ec] 70)).alloc (.cells #[.int .i64 k,.string X,.slice ro rn rc,.slice ao a.length ac,.slice bo bn bc] 56)).alloc (.cells #[.slice none 0 0,.slice none 0 0] 70)).cell? ⟨w.heap.size+1,3,none⟩=some (.slice ao a.length ac):=by go_simp
 have hblk:blk (((w.alloc (.cells #[.slice po p.dn.length pc,.slice eo p.de.length ec] 70)).alloc (.cells #[.int .i64 k,.string X,.slice ro rn rc,.slice ao a.length ac,.slice bo bn bc] 56)).alloc (.cells #[.slice none 0 0,.slice none 0 0] 70)) (w.heap.size+1+1) 70 #[.slice none 0 0,.slice none 0 0]:=by
  have h:=blk_new ((w.alloc (.cells #[.slice po p.dn.length pc,.slice eo p.de.length ec] 70)).alloc (.cells #[.int .i64 k,.string X,.slice ro rn rc,.slice ao a.length ac,.slice bo bn bc] 56)) #[.slice none 0 0,.slice none 0 0] 70
  rwa [World.size_alloc,World.size_alloc] at h
 obtain ⟨G,hG⟩:∃ G,w.heap.size=G:=⟨_,rfl⟩
 obtain ⟨W1,hW1⟩:∃ W1,((w.alloc (.cells #[.slice po p.dn.length pc,.slice eo p.de.length ec] 70)).alloc (.cells #[.int .i64 k,.string X,.slice ro rn rc,.slice ao a.length ac,.slice bo bn bc] 56)).alloc (.cells #[.slice none 0 0,.slice none 0 0] 70)=W1:=⟨_,rfl⟩
 rw [hW1] at HP1 HQ1 HA1 HB1 d0 d1 s1 s3 hblk
 rw [hG] at d0 d1 s1 s3 hblk
 have HG:=Lh hG
 have HBLK:=Lh hblk
 have HW1:=Lh hW1
 clear hb1 hp hq hA hW1 hG hblk
 by_cases hn:n=wNode
 ·have b1:(X.toList == ([110,111,100,101]:List UInt8))=true:=str_yes (by rw [hXn,hn];rfl)
  have HQq:Hid (q=⟨p.cl,mergeL p.dn a,p.de⟩):=Lh (by rw [hQ.out];unfold dflt;rw [if_pos rfl,if_pos hn])
  clear hn hXn
  go_enter Tryz.func55,Tryz.ntmps55
  have x1:(((w.alloc (.cells #[.slice po p.dn.length pc,.slice eo p.de.length ec] 70)).alloc (.cells #[.int .i64 k,.string X,.slice ro rn rc,.slice ao a.length ac,.slice bo bn bc] 56)).alloc (.cells #[.slice none 0 0,.slice none 0 0] 70)).cell? ⟨w.heap.size+1,1,none⟩=some (.string X):=by rw [HW1.out,HG.out];exact s1
  go_wp2_with fail
  rw [HW1.out]
  simp only [HG.out]
  clear x1 s1
  have hBd:Below W1.heap.size W1 W1.drew:=(Below.refl W1.heap.size W1).drew
  have HBLK1:Hid (blk W1.drew (G+1+1) 70 #[.slice none 0 0,.slice none 0 0]):=Lh HBLK.out
  refine wp_region_held_drew (S:=(fun W:World=>W.cell? ⟨G,0,none⟩=some (.slice po p.dn.length pc)∧W.cell? ⟨G,1,none⟩=some (.slice eo p.de.length ec)∧W.cell? ⟨G+1,3,none⟩=some (.slice ao a.length ac))) (by kernel_rfl) (and3_drew d0 d1 s3) (fun hHeld=>?_)
  refine tk 0 8 (.pointer (some ⟨G,0,none⟩)) ?_ ?_
  ·(intro W hSw;(try dsimp only at hSw);obtain ⟨hs0,hs1,hs2⟩:=hSw
    go_simp)
  try simp only [sA,sB,sC]
  refine tk 1 9 (.slice po p.dn.length pc) ?_ ?_
  ·(intro W hSw;(try dsimp only at hSw);obtain ⟨hs0,hs1,hs2⟩:=hSw
    go_simp)
  try simp only [sA,sB,sC]
  refine tk 2 10 (.pointer (some ⟨G+1,3,none⟩)) ?_ ?_
  ·(intro W hSw;(try dsimp only at hSw);obtain ⟨hs0,hs1,hs2⟩:=hSw
    go_simp)
  try simp only [sA,sB,sC]
  refine tk 3 11 (.slice ao a.length ac) ?_ ?_
  ·(intro W hSw;(try dsimp only at hSw);obtain ⟨hs0,hs1,hs2⟩:=hSw
    go_simp)
  try simp only [sA,sB,sC]
  refine tk 5 13 (.pointer (some ⟨G,1,none⟩)) ?_ ?_
  ·(intro W hSw;(try dsimp only at hSw);obtain ⟨hs0,hs1,hs2⟩:=hSw
    go_simp)
  try simp only [sA,sB,sC]
  refine tk 6 14 (.slice eo p.de.length ec) ?_ ?_
  ·(intro W hSw;(try dsimp only at hSw);obtain ⟨hs0,hs1,hs2⟩:=hSw
    go_simp)
  try simp only [sA,sB,sC]
  refine wpAnyH_ready (rs:=[4]) (by kernel_rfl) (by simp) ?_
  refine AllReadyH.cons rfl (fun K hK=>?_) AllReadyH.nil
  go_simp
  refine (merge10T_of _ _ p.dn a _ (Lh (HP1.out.prs.keep hBd)) (Lh (HA1.out.keep hBd)) h1 h3).mono ?_
  rintro e w4 ⟨v',rfl,hv4,hb4⟩
  obtain ⟨vo,vc,rfl,_,_,_⟩:=id hv4.prs
  have HV4:=Lh hv4
  have HE4:=Lh ((HQ1.out.keep hBd).keep hb4)
  have HB4:=Lh (below_keep hb4 (below_keep hBd HB1.out))
  have hbk:=blk_below HBLK1.out hb4
  have HBK:=Lh hbk
  have z0:w4.cell? ⟨G+1+1,0,none⟩=some (.slice none 0 0):=by rw [blk_cell hbk];rfl
  have z1:w4.cell? ⟨G+1+1,1,none⟩=some (.slice none 0 0):=by rw [blk_cell hbk];rfl
  have y0:=blk_open hbk 0
  have y1:=blk_open hbk 1
  have k0:=cell_later' hb4 hHeld.1
  have k1:=cell_later' hb4 hHeld.2.1
  have k2:=cell_later' hb4 hHeld.2.2
  clear hv4 hb4 hHeld hbk
  refine hK.out _ _ ⟨k0,k1,k2⟩ (fun hHeld=>?_)
  clear hK K
  try simp only [sA,sB,sC]
  refine wpAnyH_ready (rs:=[7]) (by kernel_rfl) (by simp) ?_
  refine AllReadyH.cons rfl (fun K hK=>?_) AllReadyH.nil
  go_simp
  refine hK.out _ _ ⟨k0,k1,k2⟩ (fun hHeld=>?_)
  clear hK K
  try simp only [sA,sB,sC]
  refine wpAnyH_ready (rs:=[8]) (by kernel_rfl) (by simp) ?_
  refine AllReadyH.cons rfl (fun K hK=>?_) AllReadyH.nil
  go_simp
  refine hK.out _ _ ⟨s_set (by simp only;omega) (s_set (by simp only;omega) k0),s_set (by simp only;omega) (s_set (by simp only;omega) k1),s_set (by simp only;omega) (s_set (by simp only;omega) k2)⟩ (fun hHeld=>?_)
  clear hK K
  try simp only [sA,sB,sC]
  refine wpAnyH_done (by kernel_rfl) ?_ _
  go_wp2
  have r0:((w4.setCell ⟨G+1+1,0,none⟩ (.slice vo (mergeL p.dn a).length vc)).setCell ⟨G+1+1,1,none⟩ (.slice eo p.de.length ec)).cell? ⟨G+1+1,0,none⟩=some (.slice vo (mergeL p.dn a).length vc):=by go_simp
  have r1:((w4.setCell ⟨G+1+1,0,none⟩ (.slice vo (mergeL p.dn a).length vc)).setCell ⟨G+1+1,1,none⟩ (.slice eo p.de.length ec)).cell? ⟨G+1+1,1,none⟩=some (.slice eo p.de.length ec):=by go_simp
  refine bodyPost_ret (v:=.agg #[.slice vo (mergeL p.dn a).length vc,.slice eo p.de.length ec]) (by simp [results,Tryz.results55,go_sem,r0,r1]) rfl ?_
  have hb5:Below w.heap.size w ((w4.setCell ⟨G+1+1,0,none⟩ (.slice vo (mergeL p.dn a).length vc)).setCell ⟨G+1+1,1,none⟩ (.slice eo p.de.length ec)):=(HB4.out.setCell (by rw [HG.out];simp only;omega) _).setCell (by rw [HG.out];simp only;omega) _
  have hbk1:=blk_set (o:=0) HBK.out (.slice vo (mergeL p.dn a).length vc)
  refine ⟨_,_,rfl,?_,?_,hb5⟩
  ·rw [HQq.out];exact prsT_set (prsT_set HV4.out HBK.out (by decide) _) hbk1 (by decide) _
  ·rw [HQq.out];exact prsT_set (prsT_set HE4.out HBK.out (by decide) _) hbk1 (by decide) _
 ·have b1:(X.toList == ([110,111,100,101]:List UInt8))=false:=str_no (by rw [hXn];exact hn)
  have HQq:Hid (q=⟨p.cl,p.dn,mergeL p.de a⟩):=Lh (by rw [hQ.out];unfold dflt;rw [if_pos rfl,if_neg hn])
  clear hn hXn
  go_enter Tryz.func55,Tryz.ntmps55
  have x1:(((w.alloc (.cells #[.slice po p.dn.length pc,.slice eo p.de.length ec] 70)).alloc (.cells #[.int .i64 k,.string X,.slice ro rn rc,.slice ao a.length ac,.slice bo bn bc] 56)).alloc (.cells #[.slice none 0 0,.slice none 0 0] 70)).cell? ⟨w.heap.size+1,1,none⟩=some (.string X):=by rw [HW1.out,HG.out];exact s1
  go_wp2_with fail
  rw [HW1.out]
  simp only [HG.out]
  clear x1 s1
  have hBd:Below W1.heap.size W1 W1.drew:=(Below.refl W1.heap.size W1).drew
  have hbk0:blk W1.drew (G+1+1) 70 #[.slice none 0 0,.slice none 0 0]:=HBLK.out
  have HBLK1:Hid (blk W1.drew (G+1+1) 70 #[.slice none 0 0,.slice none 0 0]):=Lh hbk0
  clear hbk0
  refine wp_region_held_drew (S:=(fun W:World=>W.cell? ⟨G,0,none⟩=some (.slice po p.dn.length pc)∧W.cell? ⟨G,1,none⟩=some (.slice eo p.de.length ec)∧W.cell? ⟨G+1,3,none⟩=some (.slice ao a.length ac))) (by kernel_rfl) (and3_drew d0 d1 s3) (fun hHeld=>?_)
  refine tk 0 16 (.pointer (some ⟨G,0,none⟩)) ?_ ?_
  ·(intro W hSw;(try dsimp only at hSw);obtain ⟨hs0,hs1,hs2⟩:=hSw
    go_simp)
  try simp only [sA,sB,sC]
  refine tk 1 17 (.slice po p.dn.length pc) ?_ ?_
  ·(intro W hSw;(try dsimp only at hSw);obtain ⟨hs0,hs1,hs2⟩:=hSw
    go_simp)
  try simp only [sA,sB,sC]
  refine tk 2 18 (.pointer (some ⟨G,1,none⟩)) ?_ ?_
  ·(intro W hSw;(try dsimp only at hSw);obtain ⟨hs0,hs1,hs2⟩:=hSw
    go_simp)
  try simp only [sA,sB,sC]
  refine tk 3 19 (.slice eo p.de.length ec) ?_ ?_
  ·(intro W hSw;(try dsimp only at hSw);obtain ⟨hs0,hs1,hs2⟩:=hSw
    go_simp)
  try simp only [sA,sB,sC]
  refine tk 4 20 (.pointer (some ⟨G+1,3,none⟩)) ?_ ?_
  ·(intro W hSw;(try dsimp only at hSw);obtain ⟨hs0,hs1,hs2⟩:=hSw
    go_simp)
  try simp only [sA,sB,sC]
  refine tk 5 21 (.slice ao a.length ac) ?_ ?_
  ·(intro W hSw;(try dsimp only at hSw);obtain ⟨hs0,hs1,hs2⟩:=hSw
    go_simp)
  try simp only [sA,sB,sC]
  refine wpAnyH_ready (rs:=[6]) (by kernel_rfl) (by simp) ?_
  refine AllReadyH.cons rfl (fun K hK=>?_) AllReadyH.nil
  go_simp
  refine (merge10T_of _ _ p.de a _ (Lh (HQ1.out.prs.keep hBd)) (Lh (HA1.out.keep hBd)) h2 h3).mono ?_
  rintro e w4 ⟨v',rfl,hv4,hb4⟩
  obtain ⟨vo,vc,rfl,_,_,_⟩:=id hv4.prs
  have HV4:=Lh hv4
  have HE4:=Lh ((HP1.out.keep hBd).keep hb4)
  have HB4:=Lh (below_keep hb4 (below_keep hBd HB1.out))
  have hbk:=blk_below HBLK1.out hb4
  have HBK:=Lh hbk
  have z0:w4.cell? ⟨G+1+1,0,none⟩=some (.slice none 0 0):=by rw [blk_cell hbk];rfl
  have z1:w4.cell? ⟨G+1+1,1,none⟩=some (.slice none 0 0):=by rw [blk_cell hbk];rfl
  have y0:=blk_open hbk 0
  have y1:=blk_open hbk 1
  have k0:=cell_later' hb4 hHeld.1
  have k1:=cell_later' hb4 hHeld.2.1
  have k2:=cell_later' hb4 hHeld.2.2
  clear hv4 hb4 hHeld hbk
  refine hK.out _ _ ⟨k0,k1,k2⟩ (fun hHeld=>?_)
  clear hK K
  try simp only [sA,sB,sC]
  refine wpAnyH_ready (rs:=[7]) (by kernel_rfl) (by simp) ?_
  refine AllReadyH.cons rfl (fun K hK=>?_) AllReadyH.nil
  go_simp
  refine hK.out _ _ ⟨k0,k1,k2⟩ (fun hHeld=>?_)
  clear hK K
  try simp only [sA,sB,sC]
  refine wpAnyH_ready (rs:=[8]) (by kernel_rfl) (by simp) ?_
  refine AllReadyH.cons rfl (fun K hK=>?_) AllReadyH.nil
  go_simp
  refine hK.out _ _ ⟨s_set (by simp only;omega) (s_set (by simp only;omega) k0),s_set (by simp only;omega) (s_set (by simp only;omega) k1),s_set (by simp only;omega) (s_set (by simp only;omega) k2)⟩ (fun hHeld=>?_)
  clear hK K
  try simp only [sA,sB,sC]
  refine wpAnyH_done (by kernel_rfl) ?_ _
  go_wp2
  have r0:((w4.setCell ⟨G+1+1,0,none⟩ (.slice po p.dn.length pc)).setCell ⟨G+1+1,1,none⟩ (.slice vo (mergeL p.de a).length vc)).cell? ⟨G+1+1,0,none⟩=some (.slice po p.dn.length pc):=by go_simp
  have r1:((w4.setCell ⟨G+1+1,0,none⟩ (.slice po p.dn.length pc)).setCell ⟨G+1+1,1,none⟩ (.slice vo (mergeL p.de a).length vc)).cell? ⟨G+1+1,1,none⟩=some (.slice vo (mergeL p.de a).length vc):=by go_simp
  refine bodyPost_ret (v:=.agg #[.slice po p.dn.length pc,.slice vo (mergeL p.de a).length vc]) (by simp [results,Tryz.results55,go_sem,r0,r1]) rfl ?_
  have hb5:Below w.heap.size w ((w4.setCell ⟨G+1+1,0,none⟩ (.slice po p.dn.length pc)).setCell ⟨G+1+1,1,none⟩ (.slice vo (mergeL p.de a).length vc)):=(HB4.out.setCell (by rw [HG.out];simp only;omega) _).setCell (by rw [HG.out];simp only;omega) _
  have hbk1:=blk_set (o:=0) HBK.out (.slice po p.dn.length pc)
  refine ⟨_,_,rfl,?_,?_,hb5⟩
  ·rw [HQq.out];exact prsT_set (prsT_set HE4.out HBK.out (by decide) _) hbk1 (by decide) _
  ·rw [HQq.out];exact prsT_set (prsT_set HV4.out HBK.out (by decide) _) hbk1 (by decide) _
theorem info_ch:(Tryz.prog.info? 115).map (fun i=>(i.zero,i.size,i.bytes))=some (some (.agg #[.slice none 0 0,.slice none 0 0]),2,48):=by kernel_rfl
theorem refsC_drop {l:List Pr}{i:Nat}(hi:i < l.length)(s:Bs)(p:Pl):refsC (l.drop i) s p=if clusd s.cs l[i].1=true then (s,6) else refsC (l.drop (i+1)) (mentC s l[i].1 p) p:=by
 rw [List.drop_eq_getElem_cons hi,refsC]
set_option maxRecDepth 100000 in
set_option maxHeartbeats 2000000 in
theorem readedge_of (w0:World)(b:Nat)(nm:Nm)(d:Bool)(s:Bs)(x:BdV)(n:Nm)(r a:List Pr)(bd:List St)(rv av bv:Value)(p:Pl)(dv ev:Value)(E:Int)(w:World)(hS:Hid (BdG w0 w b nm d s.g x))(hp:Hid (PrsT w dv p.dn))(hq:Hid (PrsT w ev p.de))(hR:Hid (Prs w0 rv r))(hA:Hid (Prs w0 av a))(hB:Hid (Sts w0 bv bd))(hl:sz s+r.length≤100000)(hal:Hid (s.ns.length=s.ats.length))(hal60:a.length≤60)(hde60:p.de.length≤60)(hE:Hid ((stmC (.mk 2 n r a bd) p s).2=E)) :
    Calls Tryz.prog 99 #[.pointer (some ⟨b,0,none⟩),.agg #[.int .i64 2,.string (bb n),rv,av,bv],.int .i64 p.cl,.agg #[dv,ev]] w (MenOut w0 b nm d (stmC (.mk 2 n r a bd) p s).1 E w):=by
 obtain ⟨po,pc,rfl,_,_,_⟩:=id hp.out.prs
 obtain ⟨eo,ec,rfl,_,_,_⟩:=id hq.out.prs
 obtain ⟨ro,rc,rfl,_,hrm,_⟩:=id hR.out
 obtain ⟨ao,ac,rfl,_,_,_⟩:=id hA.out
 obtain ⟨bo,bc,rfl,_,_,_⟩:=id hB.out
 unfold maxLen at hrm
 have hlm:r.length≤9223372036854775807:=by omega
 clear hrm
 have hb1:=al2 w (.cells #[.int .i64 2,.string (bb n),.slice ro r.length rc,.slice ao a.length ac,.slice bo bd.length bc] 56) (.cells #[.slice po p.dn.length pc,.slice eo p.de.length ec] 70)
 have hs1:=hS.out.below hb1
 have hsb:blk ((w.alloc (.cells #[.int .i64 2,.string (bb n),.slice ro r.length rc,.slice ao a.length ac,.slice bo bd.length bc] 56)).alloc (.cells #[.slice po p.dn.length pc,.slice eo p.de.length ec] 70)) w.heap.size 56 #[.int .i64 2,.string (bb n),.slice ro r.length rc,.slice ao a.length ac,.slice bo bd.length bc]:=by
  have h:=al1 (w.alloc (.cells #[.int .i64 2,.string (bb n),.slice ro r.length rc,.slice ao a.length ac,.slice bo bd.length bc] 56)) (.cells #[.slice po p.dn.length pc,.slice eo p.de.length ec] 70)
  unfold att.blk
  rw [h.block _ (by simp)]
  exact blk_new w #[.int .i64 2,.string (bb n),.slice ro r.length rc,.slice ao a.length ac,.slice bo bd.length bc] 56
 have hbp:blk ((w.alloc (.cells #[.int .i64 2,.string (bb n),.slice ro r.length rc,.slice ao a.length ac,.slice bo bd.length bc] 56)).alloc (.cells #[.slice po p.dn.length pc,.slice eo p.de.length ec] 70)) (w.heap.size+1) 70 #[.slice po p.dn.length pc,.slice eo p.de.length ec]:=by
  have h:=blk_new (w.alloc (.cells #[.int .i64 2,.string (bb n),.slice ro r.length rc,.slice ao a.length ac,.slice bo bd.length bc] 56)) #[.slice po p.dn.length pc,.slice eo p.de.length ec] 70
  rwa [World.size_alloc] at h
 have HPP:=Lh (hp.out.keep hb1)
 have HQP:=Lh (hq.out.keep hb1)
 have HST1:Hid (Stp w0 w ((w.alloc (.cells #[.int .i64 2,.string (bb n),.slice ro r.length rc,.slice ao a.length ac,.slice bo bd.length bc] 56)).alloc (.cells #[.slice po p.dn.length pc,.slice eo p.de.length ec] 70))):=Lh (Stp.below hb1 hS.out.base)
 have HS1:=Lh hs1
 have HSB:=Lh hsb
 have HBP:=Lh hbp
 have hPb:w.heap.size≠b:=Nat.ne_of_gt hS.out.lt
 have hlt0:b < w.heap.size:=hS.out.lt
 obtain ⟨RS,hRS⟩:∃ RS,refsC r s p=RS:=⟨_,rfl⟩
 have hstm:stmC (.mk 2 n r a bd) p s=if RS.2≠0 then (RS.1,RS.2) else (⟨RS.1.ns,RS.1.ats,RS.1.cs,RS.1.ch ++ [(r,mergeL p.de a)]⟩,0):=by rw [stmC_2,hRS]
 have hE1:=hE.out
 obtain ⟨S',hS'⟩:∃ S',(stmC (.mk 2 n r a bd) p s).1=S':=⟨_,rfl⟩
 rw [hS']
 have HE:Hid (E=if RS.2≠0 then RS.2 else 0):=Lh (by rw [← hE1,hstm];split <;> rfl)
 have HSJ:Hid (RS.2=0→S'=⟨RS.1.ns,RS.1.ats,RS.1.cs,RS.1.ch ++ [(r,mergeL p.de a)]⟩):=Lh (fun h=>by rw [← hS',hstm,if_neg (by simp [h])])
 have HRS:Hid (refsC (r.drop 0) s p=RS):=Lh hRS
 have hsl:sz s+(r.length - 0)≤100000:=by omega
 have HSL:=Lh hsl
 clear hs1 hb1 hsb hbp hE hS hp hq hE1 hstm hS' hRS hsl hl hB
 have a2:((w.alloc (.cells #[.int .i64 2,.string (bb n),.slice ro r.length rc,.slice ao a.length ac,.slice bo bd.length bc] 56)).alloc (.cells #[.slice po p.dn.length pc,.slice eo p.de.length ec] 70)).cell? ⟨w.heap.size,2,none⟩=some (.slice ro r.length rc):=by rw [blk_cell HSB.out];rfl
 go_enter Tryz.func99,Tryz.ntmps99
 go_wp2_with fail
 generalize (w.alloc (.cells #[.int .i64 2,.string (bb n),.slice ro r.length rc,.slice ao a.length ac,.slice bo bd.length bc] 56)).alloc (.cells #[.slice po p.dn.length pc,.slice eo p.de.length ec] 70)=w1 at *
 clear a2
 go_loopw [15] (fun iv wr=>∃ (i:Nat) (si:Bs) (xi:BdV),iv=.int .i64 i∧i≤r.length∧BdG w0 wr b nm d si.g xi∧Stp w0 w1 wr∧refsC (r.drop i) si p=RS∧sz si+(r.length - i)≤100000∧si.ns.length=si.ats.length) (fun iv _=>r.length - (intOf iv).toNat)
 case atStart=>exact ⟨0,s,x,rfl,Nat.zero_le _,HS1.out,Stp.refl _ _,HRS.out,HSL.out,hal.out⟩
 case round =>
  obtain ⟨i,si,xi,rfl,hi,hsi,hsti,hrs,hszi,hali⟩:=hrel
  rename World=>wr
  have HSI:=Lh hsi
  have HSTI:=Lh hsti
  have HRSI:=Lh hrs
  have HSZ:=Lh hszi
  have HALI:=Lh hali
  have HSBI:=Lh (hsti.frm.blk HSB.out rfl)
  have HBPI:=Lh (hsti.frm.blk HBP.out rfl)
  have HPI:=Lh (hsti.frm.prs HPP.out)
  have HQI:=Lh (hsti.frm.prs HQP.out)
  have hlt1:w1.heap.size≤wr.heap.size:=hsti.frm.size
  clear hsi hsti hrs hszi hali HS1 HRS HSL hal HPP HQP
  by_cases hlt:i < r.length
  case pos =>
   obtain ⟨A,rfl,c0,c1,hm1,-⟩:=(hR.out.keep HSI.out.old).get hlt
   have hst:=refsC_drop hlt si p
   rw [HRSI.out] at hst
   obtain ⟨u,hue⟩:∃ u,r[i]=u:=⟨_,rfl⟩
   rw [hue] at c0 c1 hm1 hst
   obtain ⟨u1,u2⟩:=u
   simp only at c0 c1 hm1 hst
   have hal2:=al1 wr (.cells #[.string (bb u1),.string (bb u2)] 58)
   have HS2:=Lh (HSI.out.below hal2)
   have HP2:=Lh (HPI.out.keep hal2)
   have HST2:Hid (Stp w0 w1 (wr.alloc (.cells #[.string (bb u1),.string (bb u2)] 58))):=Lh (HSTI.out.trans (Stp.below hal2 HSI.out.base))
   have e0:(wr.alloc (.cells #[.string (bb u1),.string (bb u2)] 58)).cell? ⟨w.heap.size+1,0,none⟩=some (.slice po p.dn.length pc):=by rw [blk_cell (blk_below HBPI.out hal2)];rfl
   have e1:(wr.alloc (.cells #[.string (bb u1),.string (bb u2)] 58)).cell? ⟨w.heap.size+1,1,none⟩=some (.slice eo p.de.length ec):=by rw [blk_cell (blk_below HBPI.out hal2)];rfl
   have i0:(0:Int)≤(i:Int):=by omega
   have i1:(i:Int) < (r.length:Int):=by omega
   have hnl:si.ns.length≤100000:=by have h:=HSZ.out;unfold sz at h;omega
   obtain ⟨Em,hEm⟩:∃ Em:Int,(if clusd si.cs u1=true then 6 else 0)=Em:=⟨_,rfl⟩
   have HEM:=Lh hEm
   have HRST:=Lh hst
   clear hal2 hue hst hEm
   go_wp2_with fail
   generalize wr.alloc (.cells #[.string (bb u1),.string (bb u2)] 58)=w2 at *
   refine (cmention_of w0 b nm d si xi u1 p _ _ Em w2 HS2 HP2 hnl HALI hm1 HEM).mono ?_
   rintro e w3 ⟨rfl,hst3,hold3,hx3⟩
   have HST3:=Lh (HST2.out.trans hst3)
   have HX3:=Lh hx3
   have HOLD3:=Lh hold3
   clear hst3 hx3 hold3 e0 e1 c0 c1 HS2 HP2 HST2
   by_cases hk:clusd si.cs u1=true
   ·obtain rfl:6=Em:=by have h:=HEM.out;rwa [if_pos hk] at h
    have HE6:Hid (E=6):=Lh (by have h:=HRST.out;rw [if_pos hk] at h;rw [HE.out,h];rfl)
    clear hk
    go_wp2
    go_ret
    exact ⟨ret_int HE6.out.symm,HST1.out.trans HST3.out,HOLD3.out,fun q=>absurd (HE6.out.symm.trans q) (by decide)⟩
   ·obtain rfl:0=Em:=by have h:=HEM.out;rwa [if_neg hk] at h
    have HN:Hid (refsC (r.drop (i+1)) (mentC si u1 p) p=RS):=Lh (by have h:=HRST.out;rw [if_neg hk] at h;exact h.symm)
    clear hk
    go_wp2
    go_roundw
    case rel =>
     obtain ⟨x3,h3⟩:=HX3.out (by simp)
     exact ⟨i+1,mentC si u1 p,x3,by go_num,by omega,h3,HST3.out,HN.out,by have h1:=ment_sz si u1 p;have h2:=HSZ.out;omega,mentC_len HALI.out u1 p⟩
    case measure=>simp [intOf];omega
  obtain rfl:i=r.length:=by omega
  have HRE:Hid (RS=(si,0)):=Lh (by have h:=HRSI.out;rw [List.drop_length,refsC] at h;exact h.symm)
  have HSF:Hid (S'=⟨si.ns,si.ats,si.cs,si.ch ++ [(r,mergeL p.de a)]⟩):=Lh (by have h:=HSJ.out;rw [HRE.out] at h;exact h rfl)
  have HE0:Hid (E=0):=Lh (by rw [HE.out,HRE.out];rfl)
  obtain rfl:0=E:=HE0.out.symm
  clear HRSI HSJ HE HE0 HRE
  obtain ⟨nv,cv,av,hv,mb,kb,avs,hvs⟩:=xi
  have hvl:hvs.length≤100000:=by have h9:hvs.length=si.ch.length:=HSI.out.hl;have h:=HSZ.out;unfold sz at h;omega
  obtain ⟨ho,hc,hhv,-,-⟩:=own_form HSI.out.hr
  simp only at hhv
  subst hhv
  have hBd:Below wr.heap.size wr wr.drew:=(Below.refl wr.heap.size wr).drew
  have HSd:=Lh (HSI.out.below hBd)
  have HSTd:=Lh (HST1.out.trans (HSTI.out.trans (Stp.below hBd HSI.out.base)))
  have HQd:=Lh (HQI.out.keep hBd)
  have HAd:=Lh (hA.out.keep (HSI.out.old.trans (hBd.mono HSI.out.base)))
  have hs2:wr.cell? ⟨w.heap.size,2,none⟩=some (.slice ro r.length rc):=by rw [blk_cell HSBI.out];rfl
  have hs3:wr.cell? ⟨w.heap.size,3,none⟩=some (.slice ao a.length ac):=by rw [blk_cell HSBI.out];rfl
  have hd1:wr.cell? ⟨w.heap.size+1,1,none⟩=some (.slice eo p.de.length ec):=by rw [blk_cell HBPI.out];rfl
  have hc8:wr.drew.cell? ⟨b,8,none⟩=some (.slice ho hvs.length hc):=HSd.out.box.read.2.2.2.2.2
  obtain ⟨i9,hi0,hz0,hz1,hz2⟩:=info_of info_ch
  have hbase:=HSd.out.base
  have hblt:=HSd.out.lt
  have HSBX:=Lh HSBI.out
  have HBPX:=Lh HBPI.out
  have HBX0:Hid (TFc wr wr.drew):=Lh (TFc.below hBd)
  clear HSI HSTI HSBI HBPI HPI HQI hBd hA HSB HBP HST1
  go_wp2_with fail
  refine wp_region_held_drew (S:=(fun W:World=>W.cell? ⟨w.heap.size,2,none⟩=some (.slice ro r.length rc)∧W.cell? ⟨w.heap.size,3,none⟩=some (.slice ao a.length ac)∧W.cell? ⟨w.heap.size+1,1,none⟩=some (.slice eo p.de.length ec))) (by kernel_rfl) (and3_drew hs2 hs3 hd1) (fun hHeld=>?_)
  refine tk 0 29 (.pointer (some ⟨b,0,none⟩)) ?_ ?_
  ·(intro W hSw;(try dsimp only at hSw);obtain ⟨hs0,hs1,hs2⟩:=hSw
    go_simp)
  try simp only [sA,sB,sC]
  refine tk 1 30 (.pointer (some ⟨b,0,none⟩)) ?_ ?_
  ·(intro W hSw;(try dsimp only at hSw);obtain ⟨hs0,hs1,hs2⟩:=hSw
    go_simp)
  try simp only [sA,sB,sC]
  refine tk 2 31 (.pointer (some ⟨b,0,none⟩)) ?_ ?_
  ·(intro W hSw;(try dsimp only at hSw);obtain ⟨hs0,hs1,hs2⟩:=hSw
    go_simp)
  try simp only [sA,sB,sC]
  refine tk 3 32 (.pointer (some ⟨b,8,none⟩)) ?_ ?_
  ·(intro W hSw;(try dsimp only at hSw);obtain ⟨hs0,hs1,hs2⟩:=hSw
    go_simp)
  try simp only [sA,sB,sC]
  refine tk 5 34 (.pointer (some ⟨w.heap.size,2,none⟩)) ?_ ?_
  ·(intro W hSw;(try dsimp only at hSw);obtain ⟨hs0,hs1,hs2⟩:=hSw
    go_simp)
  try simp only [sA,sB,sC]
  refine tk 6 35 (.slice ro r.length rc) ?_ ?_
  ·(intro W hSw;(try dsimp only at hSw);obtain ⟨hs0,hs1,hs2⟩:=hSw
    go_simp)
  try simp only [sA,sB,sC]
  refine tk 7 36 (.pointer (some ⟨w.heap.size+1,1,none⟩)) ?_ ?_
  ·(intro W hSw;(try dsimp only at hSw);obtain ⟨hs0,hs1,hs2⟩:=hSw
    go_simp)
  try simp only [sA,sB,sC]
  refine tk 8 37 (.slice eo p.de.length ec) ?_ ?_
  ·(intro W hSw;(try dsimp only at hSw);obtain ⟨hs0,hs1,hs2⟩:=hSw
    go_simp)
  try simp only [sA,sB,sC]
  refine tk 9 38 (.pointer (some ⟨w.heap.size,3,none⟩)) ?_ ?_
  ·(intro W hSw;(try dsimp only at hSw);obtain ⟨hs0,hs1,hs2⟩:=hSw
    go_simp)
  try simp only [sA,sB,sC]
  refine tk 10 39 (.slice ao a.length ac) ?_ ?_
  ·(intro W hSw;(try dsimp only at hSw);obtain ⟨hs0,hs1,hs2⟩:=hSw
    go_simp)
  try simp only [sA,sB,sC]
  refine wpAnyH_ready (rs:=[4,11]) (by kernel_rfl) (by simp) ?_
  refine AllReadyH.cons rfl (fun K hK=>?_) (AllReadyH.cons rfl (fun K hK=>?_) AllReadyH.nil)
  ·
   go_simp
   refine hK.out _ _ hHeld (fun hHeld=>?_)
   clear hK K
   try simp only [sA,sB,sC]
   refine wpAnyH_ready (rs:=[11]) (by kernel_rfl) (by simp) ?_
   refine AllReadyH.cons rfl (fun K hK=>?_) AllReadyH.nil
   go_simp
   refine (merge10T_of _ _ p.de a _ (Lh HQd.out.prs) HAd hde60 hal60).mono ?_
   rintro e w4 ⟨v',rfl,hv4,hb4⟩
   obtain ⟨vo,vc,rfl,_,_,_⟩:=id hv4.prs
   have HV4:=Lh hv4
   have HS4:=Lh (HSd.out.below hb4)
   have HST4:=Lh (HSTd.out.trans (Stp.below hb4 HSd.out.base))
   have HM:Hid (∀ v,TFc w4 v→v.cell? ⟨w.heap.size,2,none⟩=some (.slice ro r.length rc)∧v.cell? ⟨w.heap.size,3,none⟩=some (.slice ao a.length ac)∧v.cell? ⟨w.heap.size+1,1,none⟩=some (.slice eo p.de.length ec)):=Lh (fun v hv=>⟨by rw [blk_cell ((HBX0.out.trans ((TFc.below hb4).trans hv)).blk HSBX.out rfl)];rfl,by rw [blk_cell ((HBX0.out.trans ((TFc.below hb4).trans hv)).blk HSBX.out rfl)];rfl,by rw [blk_cell ((HBX0.out.trans ((TFc.below hb4).trans hv)).blk HBPX.out rfl)];rfl⟩)
   have hsz4:=HS4.out.base
   have hlt4:=hb4.size
   have k8:=cell_later' hb4 hc8
   have k0:=cell_later' hb4 hHeld.1
   have k1:=cell_later' hb4 hHeld.2.1
   have k2:=cell_later' hb4 hHeld.2.2
   clear hv4 hb4 hHeld
   refine hK.out _ _ ⟨k0,k1,k2⟩ (fun hHeld=>?_)
   clear hK K
   try simp only [sA,sB,sC]
   refine wpAnyH_ready (rs:=[12]) (by kernel_rfl) (by simp) ?_
   refine AllReadyH.cons rfl (fun K hK=>?_) AllReadyH.nil
   go_simp
   refine hK.out _ _ ⟨k0,k1,k2⟩ (fun hHeld=>?_)
   clear hK K
   try simp only [sA,sB,sC]
   refine wpAnyH_ready (rs:=[13]) (by kernel_rfl) (by simp) ?_
   refine AllReadyH.cons rfl (fun K hK=>?_) AllReadyH.nil
   go_simp
   refine hK.out _ _ ⟨s_alloc k0,s_alloc k1,s_alloc k2⟩ (fun hHeld=>?_)
   clear hK K
   try simp only [sA,sB,sC]
   refine wpAnyH_ready (rs:=[14]) (by kernel_rfl) (by simp) ?_
   refine AllReadyH.cons rfl (fun K hK=>?_) AllReadyH.nil
   refine step_append_lies _ (by rfl) _ _ _ (by rfl) w0.heap.size 115 i9 _ 2 48 Tryz.underlying65 hi0 hz0 hz1 hz2 rfl (by omega) (.slice ho hvs.length hc) hvs.length (hvs.flatMap chC) (by rfl) (by exact row_below HS4.out.hr (by repeat (first | (with_reducible exact Below.refl _ _) | (with_reducible refine Below.drew ?_) | (with_reducible refine b_allocN ?_ ?_) | (simp;done) | omega))) ⟨w4.heap.size,0,none⟩ 1 1 [.slice ro r.length rc,.slice vo (mergeL p.de a).length vc] (by rfl) (by rfl) (by exact World.news_of_block (cs:=#[.slice ro r.length rc,.slice vo (mergeL p.de a).length vc]) (t:=115) (fr:=(0,0)) (heap_alloc_new _ _)) (by simp [Value.oneCell']) (by omega) (by unfold maxLen;omega) (by omega) (by simp;omega) (w4.heap.size+1) (by simp) ?_
   intro gg cap1 w5 hown1 hgrow hat1 hlt5
   obtain ⟨⟨hx1,hst5⟩,hs5,hst6⟩:=HS4.out.growH (rv:=.slice ro r.length rc) (v:=.slice vo (mergeL p.de a).length vc) (r:=r) (a:=mergeL p.de a) (by exact (by repeat (first | (with_reducible exact Below.refl _ _) | (with_reducible refine Below.drew ?_) | (with_reducible refine b_allocN ?_ ?_) | (simp;done) | omega))) hgrow (by show World.ownsRow _ _ _ _ _ (hvs ++ [_]).length _;rw [List.length_append,List.flatMap_append];exact hown1) hR.out (HV4.out.keep (al1 _ _))
   have HBX:=Lh hst5.frm
   have hfz:=hx1.open 8
   have hc9:=hx1.read.2.2.2.2.2
   have HS5:=Lh hs5
   have HST5:=Lh (HST4.out.trans hst6)
   obtain ⟨m0,m1,m2⟩:=HM.out w5 hst5.frm
   clear hs5 hst5 hst6 hx1
   refine hK.out _ _ ⟨m0,m1,m2⟩ (fun hHeld=>?_)
   clear hK K
   try simp only [sA,sB,sC]
   refine tk 15 44 (.pointer (some ⟨b,0,none⟩)) ?_ ?_
   ·(intro W hSw;(try dsimp only at hSw);obtain ⟨hs0,hs1,hs2⟩:=hSw
     go_simp)
   try simp only [sA,sB,sC]
   refine tk 16 45 (.pointer (some ⟨b,8,none⟩)) ?_ ?_
   ·(intro W hSw;(try dsimp only at hSw);obtain ⟨hs0,hs1,hs2⟩:=hSw
     go_simp)
   refine wpAnyH_ready (rs:=[17]) (by kernel_rfl) (by simp) ?_
   refine AllReadyH.cons rfl (fun K hK=>?_) AllReadyH.nil
   go_simp
   refine hK.out _ _ ⟨s_set (by simp only;omega) m0,s_set (by simp only;omega) m1,s_set (by simp only;omega) m2⟩ (fun hHeld=>?_)
   clear hK K
   try simp only [sA,sB,sC]
   refine wpAnyH_done (by kernel_rfl) ?_ _
   go_wp2
   go_ret
   exact ⟨rfl,HST5.out,by rw [HSF.out] at *;exact HS5.out.old,fun _=>⟨_,by rw [HSF.out];exact HS5.out⟩⟩
  ·
   go_simp
   refine (merge10T_of _ _ p.de a _ (Lh HQd.out.prs) HAd hde60 hal60).mono ?_
   rintro e w4 ⟨v',rfl,hv4,hb4⟩
   obtain ⟨vo,vc,rfl,_,_,_⟩:=id hv4.prs
   have HV4:=Lh hv4
   have HS4:=Lh (HSd.out.below hb4)
   have HST4:=Lh (HSTd.out.trans (Stp.below hb4 HSd.out.base))
   have HM:Hid (∀ v,TFc w4 v→v.cell? ⟨w.heap.size,2,none⟩=some (.slice ro r.length rc)∧v.cell? ⟨w.heap.size,3,none⟩=some (.slice ao a.length ac)∧v.cell? ⟨w.heap.size+1,1,none⟩=some (.slice eo p.de.length ec)):=Lh (fun v hv=>⟨by rw [blk_cell ((HBX0.out.trans ((TFc.below hb4).trans hv)).blk HSBX.out rfl)];rfl,by rw [blk_cell ((HBX0.out.trans ((TFc.below hb4).trans hv)).blk HSBX.out rfl)];rfl,by rw [blk_cell ((HBX0.out.trans ((TFc.below hb4).trans hv)).blk HBPX.out rfl)];rfl⟩)
   have hsz4:=HS4.out.base
   have hlt4:=hb4.size
   have k8:=cell_later' hb4 hc8
   have k0:=cell_later' hb4 hHeld.1
   have k1:=cell_later' hb4 hHeld.2.1
   have k2:=cell_later' hb4 hHeld.2.2
   clear hv4 hb4 hHeld
   refine hK.out _ _ ⟨k0,k1,k2⟩ (fun hHeld=>?_)
   clear hK K
   try simp only [sA,sB,sC]
   refine wpAnyH_ready (rs:=[4,12]) (by kernel_rfl) (by simp) ?_
   refine AllReadyH.cons rfl (fun K hK=>?_) (AllReadyH.cons rfl (fun K hK=>?_) AllReadyH.nil)
   ·
    go_simp
    refine hK.out _ _ hHeld (fun hHeld=>?_)
    clear hK K
    try simp only [sA,sB,sC]
    refine wpAnyH_ready (rs:=[12]) (by kernel_rfl) (by simp) ?_
    refine AllReadyH.cons rfl (fun K hK=>?_) AllReadyH.nil
    go_simp
    refine hK.out _ _ ⟨k0,k1,k2⟩ (fun hHeld=>?_)
    clear hK K
    try simp only [sA,sB,sC]
    refine wpAnyH_ready (rs:=[13]) (by kernel_rfl) (by simp) ?_
    refine AllReadyH.cons rfl (fun K hK=>?_) AllReadyH.nil
    go_simp
    refine hK.out _ _ ⟨s_alloc k0,s_alloc k1,s_alloc k2⟩ (fun hHeld=>?_)
    clear hK K
    try simp only [sA,sB,sC]
    refine wpAnyH_ready (rs:=[14]) (by kernel_rfl) (by simp) ?_
    refine AllReadyH.cons rfl (fun K hK=>?_) AllReadyH.nil
    refine step_append_lies _ (by rfl) _ _ _ (by rfl) w0.heap.size 115 i9 _ 2 48 Tryz.underlying65 hi0 hz0 hz1 hz2 rfl (by omega) (.slice ho hvs.length hc) hvs.length (hvs.flatMap chC) (by rfl) (by exact row_below HS4.out.hr (by repeat (first | (with_reducible exact Below.refl _ _) | (with_reducible refine Below.drew ?_) | (with_reducible refine b_allocN ?_ ?_) | (simp;done) | omega))) ⟨w4.heap.size,0,none⟩ 1 1 [.slice ro r.length rc,.slice vo (mergeL p.de a).length vc] (by rfl) (by rfl) (by exact World.news_of_block (cs:=#[.slice ro r.length rc,.slice vo (mergeL p.de a).length vc]) (t:=115) (fr:=(0,0)) (heap_alloc_new _ _)) (by simp [Value.oneCell']) (by omega) (by unfold maxLen;omega) (by omega) (by simp;omega) (w4.heap.size+1) (by simp) ?_
    intro gg cap1 w5 hown1 hgrow hat1 hlt5
    obtain ⟨⟨hx1,hst5⟩,hs5,hst6⟩:=HS4.out.growH (rv:=.slice ro r.length rc) (v:=.slice vo (mergeL p.de a).length vc) (r:=r) (a:=mergeL p.de a) (by exact (by repeat (first | (with_reducible exact Below.refl _ _) | (with_reducible refine Below.drew ?_) | (with_reducible refine b_allocN ?_ ?_) | (simp;done) | omega))) hgrow (by show World.ownsRow _ _ _ _ _ (hvs ++ [_]).length _;rw [List.length_append,List.flatMap_append];exact hown1) hR.out (HV4.out.keep (al1 _ _))
    have HBX:=Lh hst5.frm
    have hfz:=hx1.open 8
    have hc9:=hx1.read.2.2.2.2.2
    have HS5:=Lh hs5
    have HST5:=Lh (HST4.out.trans hst6)
    obtain ⟨m0,m1,m2⟩:=HM.out w5 hst5.frm
    clear hs5 hst5 hst6 hx1
    refine hK.out _ _ ⟨m0,m1,m2⟩ (fun hHeld=>?_)
    clear hK K
    try simp only [sA,sB,sC]
    refine tk 15 44 (.pointer (some ⟨b,0,none⟩)) ?_ ?_
    ·(intro W hSw;(try dsimp only at hSw);obtain ⟨hs0,hs1,hs2⟩:=hSw
      go_simp)
    try simp only [sA,sB,sC]
    refine tk 16 45 (.pointer (some ⟨b,8,none⟩)) ?_ ?_
    ·(intro W hSw;(try dsimp only at hSw);obtain ⟨hs0,hs1,hs2⟩:=hSw
      go_simp)
    refine wpAnyH_ready (rs:=[17]) (by kernel_rfl) (by simp) ?_
    refine AllReadyH.cons rfl (fun K hK=>?_) AllReadyH.nil
    go_simp
    refine hK.out _ _ ⟨s_set (by simp only;omega) m0,s_set (by simp only;omega) m1,s_set (by simp only;omega) m2⟩ (fun hHeld=>?_)
    clear hK K
    try simp only [sA,sB,sC]
    refine wpAnyH_done (by kernel_rfl) ?_ _
    go_wp2
    go_ret
    exact ⟨rfl,HST5.out,by rw [HSF.out] at *;exact HS5.out.old,fun _=>⟨_,by rw [HSF.out];exact HS5.out⟩⟩
   ·
    go_simp
    refine hK.out _ _ ⟨k0,k1,k2⟩ (fun hHeld=>?_)
    clear hK K
    try simp only [sA,sB,sC]
    refine wpAnyH_ready (rs:=[4,13]) (by kernel_rfl) (by simp) ?_
    refine AllReadyH.cons rfl (fun K hK=>?_) (AllReadyH.cons rfl (fun K hK=>?_) AllReadyH.nil)
    ·
     go_simp
     refine hK.out _ _ hHeld (fun hHeld=>?_)
     clear hK K
     try simp only [sA,sB,sC]
     refine wpAnyH_ready (rs:=[13]) (by kernel_rfl) (by simp) ?_
     refine AllReadyH.cons rfl (fun K hK=>?_) AllReadyH.nil
     go_simp
     refine hK.out _ _ ⟨s_alloc k0,s_alloc k1,s_alloc k2⟩ (fun hHeld=>?_)
     clear hK K
     try simp only [sA,sB,sC]
     refine wpAnyH_ready (rs:=[14]) (by kernel_rfl) (by simp) ?_
     refine AllReadyH.cons rfl (fun K hK=>?_) AllReadyH.nil
     refine step_append_lies _ (by rfl) _ _ _ (by rfl) w0.heap.size 115 i9 _ 2 48 Tryz.underlying65 hi0 hz0 hz1 hz2 rfl (by omega) (.slice ho hvs.length hc) hvs.length (hvs.flatMap chC) (by rfl) (by exact row_below HS4.out.hr (by repeat (first | (with_reducible exact Below.refl _ _) | (with_reducible refine Below.drew ?_) | (with_reducible refine b_allocN ?_ ?_) | (simp;done) | omega))) ⟨w4.heap.size,0,none⟩ 1 1 [.slice ro r.length rc,.slice vo (mergeL p.de a).length vc] (by rfl) (by rfl) (by exact World.news_of_block (cs:=#[.slice ro r.length rc,.slice vo (mergeL p.de a).length vc]) (t:=115) (fr:=(0,0)) (heap_alloc_new _ _)) (by simp [Value.oneCell']) (by omega) (by unfold maxLen;omega) (by omega) (by simp;omega) (w4.heap.size+1) (by simp) ?_
     intro gg cap1 w5 hown1 hgrow hat1 hlt5
     obtain ⟨⟨hx1,hst5⟩,hs5,hst6⟩:=HS4.out.growH (rv:=.slice ro r.length rc) (v:=.slice vo (mergeL p.de a).length vc) (r:=r) (a:=mergeL p.de a) (by exact (by repeat (first | (with_reducible exact Below.refl _ _) | (with_reducible refine Below.drew ?_) | (with_reducible refine b_allocN ?_ ?_) | (simp;done) | omega))) hgrow (by show World.ownsRow _ _ _ _ _ (hvs ++ [_]).length _;rw [List.length_append,List.flatMap_append];exact hown1) hR.out (HV4.out.keep (al1 _ _))
     have HBX:=Lh hst5.frm
     have hfz:=hx1.open 8
     have hc9:=hx1.read.2.2.2.2.2
     have HS5:=Lh hs5
     have HST5:=Lh (HST4.out.trans hst6)
     obtain ⟨m0,m1,m2⟩:=HM.out w5 hst5.frm
     clear hs5 hst5 hst6 hx1
     refine hK.out _ _ ⟨m0,m1,m2⟩ (fun hHeld=>?_)
     clear hK K
     try simp only [sA,sB,sC]
     refine tk 15 44 (.pointer (some ⟨b,0,none⟩)) ?_ ?_
     ·(intro W hSw;(try dsimp only at hSw);obtain ⟨hs0,hs1,hs2⟩:=hSw
       go_simp)
     try simp only [sA,sB,sC]
     refine tk 16 45 (.pointer (some ⟨b,8,none⟩)) ?_ ?_
     ·(intro W hSw;(try dsimp only at hSw);obtain ⟨hs0,hs1,hs2⟩:=hSw
       go_simp)
     refine wpAnyH_ready (rs:=[17]) (by kernel_rfl) (by simp) ?_
     refine AllReadyH.cons rfl (fun K hK=>?_) AllReadyH.nil
     go_simp
     refine hK.out _ _ ⟨s_set (by simp only;omega) m0,s_set (by simp only;omega) m1,s_set (by simp only;omega) m2⟩ (fun hHeld=>?_)
     clear hK K
     try simp only [sA,sB,sC]
     refine wpAnyH_done (by kernel_rfl) ?_ _
     go_wp2
     go_ret
     exact ⟨rfl,HST5.out,by rw [HSF.out] at *;exact HS5.out.old,fun _=>⟨_,by rw [HSF.out];exact HS5.out⟩⟩
    ·
     go_simp
     refine hK.out _ _ ⟨s_alloc k0,s_alloc k1,s_alloc k2⟩ (fun hHeld=>?_)
     clear hK K
     try simp only [sA,sB,sC]
     refine wpAnyH_ready (rs:=[4]) (by kernel_rfl) (by simp) ?_
     refine AllReadyH.cons rfl (fun K hK=>?_) AllReadyH.nil
     have k8a:=s_alloc (o:=.cells #[.slice ro r.length rc,.slice vo (mergeL p.de a).length vc] 115) k8
     go_simp
     refine hK.out _ _ ⟨s_alloc k0,s_alloc k1,s_alloc k2⟩ (fun hHeld=>?_)
     clear hK K
     try simp only [sA,sB,sC]
     refine wpAnyH_ready (rs:=[14]) (by kernel_rfl) (by simp) ?_
     refine AllReadyH.cons rfl (fun K hK=>?_) AllReadyH.nil
     refine step_append_lies _ (by rfl) _ _ _ (by rfl) w0.heap.size 115 i9 _ 2 48 Tryz.underlying65 hi0 hz0 hz1 hz2 rfl (by omega) (.slice ho hvs.length hc) hvs.length (hvs.flatMap chC) (by rfl) (by exact row_below HS4.out.hr (by repeat (first | (with_reducible exact Below.refl _ _) | (with_reducible refine Below.drew ?_) | (with_reducible refine b_allocN ?_ ?_) | (simp;done) | omega))) ⟨w4.heap.size,0,none⟩ 1 1 [.slice ro r.length rc,.slice vo (mergeL p.de a).length vc] (by rfl) (by rfl) (by exact World.news_of_block (cs:=#[.slice ro r.length rc,.slice vo (mergeL p.de a).length vc]) (t:=115) (fr:=(0,0)) (heap_alloc_new _ _)) (by simp [Value.oneCell']) (by omega) (by unfold maxLen;omega) (by omega) (by simp;omega) (w4.heap.size+1) (by simp) ?_
     intro gg cap1 w5 hown1 hgrow hat1 hlt5
     obtain ⟨⟨hx1,hst5⟩,hs5,hst6⟩:=HS4.out.growH (rv:=.slice ro r.length rc) (v:=.slice vo (mergeL p.de a).length vc) (r:=r) (a:=mergeL p.de a) (by exact (by repeat (first | (with_reducible exact Below.refl _ _) | (with_reducible refine Below.drew ?_) | (with_reducible refine b_allocN ?_ ?_) | (simp;done) | omega))) hgrow (by show World.ownsRow _ _ _ _ _ (hvs ++ [_]).length _;rw [List.length_append,List.flatMap_append];exact hown1) hR.out (HV4.out.keep (al1 _ _))
     have HBX:=Lh hst5.frm
     have hfz:=hx1.open 8
     have hc9:=hx1.read.2.2.2.2.2
     have HS5:=Lh hs5
     have HST5:=Lh (HST4.out.trans hst6)
     obtain ⟨m0,m1,m2⟩:=HM.out w5 hst5.frm
     clear hs5 hst5 hst6 hx1
     refine hK.out _ _ ⟨m0,m1,m2⟩ (fun hHeld=>?_)
     clear hK K
     try simp only [sA,sB,sC]
     refine tk 15 44 (.pointer (some ⟨b,0,none⟩)) ?_ ?_
     ·(intro W hSw;(try dsimp only at hSw);obtain ⟨hs0,hs1,hs2⟩:=hSw
       go_simp)
     try simp only [sA,sB,sC]
     refine tk 16 45 (.pointer (some ⟨b,8,none⟩)) ?_ ?_
     ·(intro W hSw;(try dsimp only at hSw);obtain ⟨hs0,hs1,hs2⟩:=hSw
       go_simp)
     refine wpAnyH_ready (rs:=[17]) (by kernel_rfl) (by simp) ?_
     refine AllReadyH.cons rfl (fun K hK=>?_) AllReadyH.nil
     go_simp
     refine hK.out _ _ ⟨s_set (by simp only;omega) m0,s_set (by simp only;omega) m1,s_set (by simp only;omega) m2⟩ (fun hHeld=>?_)
     clear hK K
     try simp only [sA,sB,sC]
     refine wpAnyH_done (by kernel_rfl) ?_ _
     go_wp2
     go_ret
     exact ⟨rfl,HST5.out,by rw [HSF.out] at *;exact HS5.out.old,fun _=>⟨_,by rw [HSF.out];exact HS5.out⟩⟩
end Go.Proofs.YtcdoicgbjoikkaaGreatDoor.nor
