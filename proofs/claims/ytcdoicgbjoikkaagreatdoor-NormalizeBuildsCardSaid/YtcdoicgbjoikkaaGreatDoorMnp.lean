/-
  A graph's box is none of its rows; a graph is stored into its box (layer 12). No condition.
  What Build of the reference of layer 12 returns: the graph of a tree, or the first error. Condition: a tree in memory, of few refs in each statement.
  The walk of the statement NormalizeBuilds of layer 12. Condition: the library's variable MaxLen holds a number.
  What the statements of layer 12 need of their rows: a world in which the listed variables are laid, that the library's variable MaxLen holds a number, and how a tree and options come in. No condition.
-/
import Derived.Test.YtcdoicgbjoikkaaGreatDoorMnn
import Derived.Test.YtcdoicgbjoikkaaGreatDoorMnj
import Derived.Test.YtcdoicgbjoikkaaGreatDoorCards
import Derived.Test.YtcdoicgbjoikkaaGreatDoorTie
import Derived.Deep.DeepHandedRow
import Derived.LaidMore
import Derived.Lay
namespace Go.Proofs.YtcdoicgbjoikkaaGreatDoor.nor
open Go.RowKit lex tre att
def gbk (W:World)(B:Nat):Prop:=∃ (s:ByteArray) (b:Bool) (o1 o2 o3:Option Addr) (n1 c1 n2 c2 n3 c3:Nat),blk W B 31 #[.string s,.bool b,.slice o1 n1 c1,.slice o2 n2 c2,.slice o3 n3 c3]
theorem gbk_int {W:World}{B o:Nat}{n:Int}(h:gbk W B)(hc:W.cell? ⟨B,o,none⟩=some (.int .i64 n)):False:=by
 obtain ⟨s,b,o1,o2,o3,n1,c1,n2,c2,n3,c3,h⟩:=h
 rw [blk_cell h] at hc
 match o,hc with
 | 0,hc=>simp at hc
 | 1,hc=>simp at hc
 | 2,hc=>simp at hc
 | 3,hc=>simp at hc
 | 4,hc=>simp at hc
 | (k+5),hc=>simp at hc
theorem set_far {W:World}{A:Addr}{B o:Nat}{u:Value}(h:A.block≠B):(W.setCell ⟨B,o,none⟩ u).cell? A=W.cell? A:=by
 unfold World.cell?
 rw [Below.heap_setCell _ _ _ _ (show A.block≠B from h)]
theorem pt_far {W:World}{A:Addr}{r:gra.Pt}{B:Nat}(hB:gbk W B)(h:gra.ptAt W A r):A.block≠B:=by
 rintro rfl
 obtain ⟨h0,h1,-⟩:=h
 exact gbk_int hB h1
theorem nd_far {W:World}{A:Addr}{x:gra.Nd}{B:Nat}(hB:gbk W B)(h:gra.ndAt W A x):A.block≠B:=by
 rintro rfl
 obtain ⟨h0,h1,h2,-⟩:=h
 exact gbk_int hB h2
theorem ed_far {W:World}{A:Addr}{x:gra.Ed}{B:Nat}(hB:gbk W B)(h:gra.edAt W A x):A.block≠B:=by
 rintro rfl
 obtain ⟨h0,h1,-⟩:=h
 exact gbk_int hB h1
theorem rw_map {α:Type}{c:Nat}{P:World→Addr→α→Prop}{W W':World}(hP:∀ A x,P W A x→P W' A x){v:Value}{l:List α}(h:gra.Rw c P W v l):gra.Rw c P W' v l:=by
 obtain ⟨ao,cap,rfl,hc,hm,hA⟩:=h
 exact ⟨ao,cap,rfl,hc,hm,fun hn=>by obtain ⟨A,rfl,h2⟩:=hA hn;exact ⟨A,rfl,fun i hi=>hP _ _ (h2 i hi)⟩⟩
theorem grv_set {W:World}{B o:Nat}{u gv:Value}{G:gra.Gr}(hB:gbk W B)(h:gra.GrV W gv G):gra.GrV (W.setCell ⟨B,o,none⟩ u) gv G:=by
 obtain ⟨nv,ev,cv,rfl,hm,h1,h2,h3⟩:=h
 have hpt:∀ A r,gra.ptAt W A r→gra.ptAt (W.setCell ⟨B,o,none⟩ u) A r:=fun A r h=>by
  have hf:=pt_far hB h
  obtain ⟨q0,q1,q2⟩:=h
  exact ⟨by rw [set_far hf];exact q0,by rw [set_far (A:=⟨A.block,A.off+1,none⟩) hf];exact q1,q2⟩
 refine ⟨nv,ev,cv,rfl,hm,rw_map (fun A x h=>?_) h1,rw_map (fun A x h=>?_) h2,rw_map hpt h3⟩
 ·have hf:=nd_far hB h
  obtain ⟨q0,q1,q2,q3,q4,⟨pv,q5,q6⟩,q7⟩:=h
  exact ⟨by rw [set_far hf];exact q0,by rw [set_far (A:=⟨A.block,A.off+1,none⟩) hf];exact q1,by rw [set_far (A:=⟨A.block,A.off+2,none⟩) hf];exact q2,by rw [set_far (A:=⟨A.block,A.off+3,none⟩) hf];exact q3,by rw [set_far (A:=⟨A.block,A.off+4,none⟩) hf];exact q4,⟨pv,by rw [set_far (A:=⟨A.block,A.off+5,none⟩) hf];exact q5,rw_map hpt q6⟩,q7⟩
 ·have hf:=ed_far hB h
  obtain ⟨q0,q1,q2,q3,q4,q5,q6,q7⟩:=h
  exact ⟨by rw [set_far hf];exact q0,by rw [set_far (A:=⟨A.block,A.off+1,none⟩) hf];exact q1,by rw [set_far (A:=⟨A.block,A.off+2,none⟩) hf];exact q2,by rw [set_far (A:=⟨A.block,A.off+3,none⟩) hf];exact q3,by rw [set_far (A:=⟨A.block,A.off+4,none⟩) hf];exact q4,by rw [set_far (A:=⟨A.block,A.off+5,none⟩) hf];exact q5,by rw [set_far (A:=⟨A.block,A.off+6,none⟩) hf];exact q6,q7⟩
theorem box_store {W:World}{B:Nat}{nm:ByteArray}{d:Bool}{o1 o2 o3:Option Addr}{n1 c1 n2 c2 n3 c3:Nat}{gv:Value}{G:gra.Gr}(h:gbx W B)(hg:gra.GrV W gv G) :
    gra.GrV (((((W.setCell ⟨B,0,none⟩ (.string nm)).setCell ⟨B,1,none⟩ (.bool d)).setCell ⟨B,2,none⟩ (.slice o1 n1 c1)).setCell ⟨B,3,none⟩ (.slice o2 n2 c2)).setCell ⟨B,4,none⟩ (.slice o3 n3 c3)) gv G ∧
    gra.gat (((((W.setCell ⟨B,0,none⟩ (.string nm)).setCell ⟨B,1,none⟩ (.bool d)).setCell ⟨B,2,none⟩ (.slice o1 n1 c1)).setCell ⟨B,3,none⟩ (.slice o2 n2 c2)).setCell ⟨B,4,none⟩ (.slice o3 n3 c3)) B nm d (.slice o1 n1 c1) (.slice o2 n2 c2) (.slice o3 n3 c3):=by
 have h0:blk (W.setCell ⟨B,0,none⟩ (.string nm)) B 31 #[.string nm,.bool false,.slice none 0 0,.slice none 0 0,.slice none 0 0]:=blk_set (o:=0) h (.string nm)
 have h1:blk ((W.setCell ⟨B,0,none⟩ (.string nm)).setCell ⟨B,1,none⟩ (.bool d)) B 31 #[.string nm,.bool d,.slice none 0 0,.slice none 0 0,.slice none 0 0]:=blk_set (o:=1) h0 (.bool d)
 have h2:blk (((W.setCell ⟨B,0,none⟩ (.string nm)).setCell ⟨B,1,none⟩ (.bool d)).setCell ⟨B,2,none⟩ (.slice o1 n1 c1)) B 31 #[.string nm,.bool d,.slice o1 n1 c1,.slice none 0 0,.slice none 0 0]:=blk_set (o:=2) h1 (.slice o1 n1 c1)
 have h3:blk ((((W.setCell ⟨B,0,none⟩ (.string nm)).setCell ⟨B,1,none⟩ (.bool d)).setCell ⟨B,2,none⟩ (.slice o1 n1 c1)).setCell ⟨B,3,none⟩ (.slice o2 n2 c2)) B 31 #[.string nm,.bool d,.slice o1 n1 c1,.slice o2 n2 c2,.slice none 0 0]:=blk_set (o:=3) h2 (.slice o2 n2 c2)
 have h4:=gbx_set h (.string nm) (.bool d) (.slice o1 n1 c1) (.slice o2 n2 c2) (.slice o3 n3 c3)
 refine ⟨grv_set ⟨_,_,_,_,_,_,_,_,_,_,_,h3⟩ (grv_set ⟨_,_,_,_,_,_,_,_,_,_,_,h2⟩ (grv_set ⟨_,_,_,_,_,_,_,_,_,_,_,h1⟩ (grv_set ⟨_,_,_,_,_,_,_,_,_,_,_,h0⟩ (grv_set ⟨_,_,_,_,_,_,_,_,_,_,_,h⟩ hg)))),?_,?_,?_,?_,?_⟩
 ·rw [blk_cell h4];rfl
 ·rw [blk_cell h4];rfl
 ·rw [blk_cell h4];rfl
 ·rw [blk_cell h4];rfl
 ·rw [blk_cell h4];rfl
set_option maxRecDepth 100000 in
set_option maxHeartbeats 4000000 in
theorem rbuild_of (v:Value)(T:Tr)(G:gra.Gr)(E:Int)(w:World)(h:Hid (TrV w v T))(hn:cnt T.body≤1000000000000)(hok:Hid (okL T.body))(hG:Hid (buildT T=(G,E))) :
    Calls Tryz.prog 11 #[v] w (BldOut G E w):=by
 obtain ⟨bv,rfl,hnm,hs⟩:=h.out
 obtain ⟨vo,tc,rfl,-,-,-⟩:=id hs
 obtain ⟨V,hV⟩:∃ V,validT T=V:=⟨_,rfl⟩
 have hb1:=al2 w (.cells #[.string (bb T.name),.bool T.dir,.slice vo T.body.length tc] 24) (.cells #[.string ⟨#[]⟩,.bool false,.slice none 0 0,.slice none 0 0,.slice none 0 0] 31)
 have HT1:=Lh (h.out.keep hb1)
 have HS:=Lh hs
 have HB1:=Lh hb1
 have HV:=Lh hV
 have HTB:Hid (blk ((w.alloc (.cells #[.string (bb T.name),.bool T.dir,.slice vo T.body.length tc] 24)).alloc (.cells #[.string ⟨#[]⟩,.bool false,.slice none 0 0,.slice none 0 0,.slice none 0 0] 31)) w.heap.size 24 #[.string (bb T.name),.bool T.dir,.slice vo T.body.length tc]):=Lh (blk_below (blk_new w #[.string (bb T.name),.bool T.dir,.slice vo T.body.length tc] 24) (al1 ..))
 have HGB:Hid (gbx ((w.alloc (.cells #[.string (bb T.name),.bool T.dir,.slice vo T.body.length tc] 24)).alloc (.cells #[.string ⟨#[]⟩,.bool false,.slice none 0 0,.slice none 0 0,.slice none 0 0] 31)) (w.heap.size+1)):=Lh (by
  have h:=blk_new (w.alloc (.cells #[.string (bb T.name),.bool T.dir,.slice vo T.body.length tc] 24)) #[.string ⟨#[]⟩,.bool false,.slice none 0 0,.slice none 0 0,.slice none 0 0] 31
  rwa [World.size_alloc] at h)
 have HNM:=Lh hnm
 have hb:=hG.out
 unfold buildT at hb
 rw [hV] at hb
 have HB:=Lh hb
 have x0:((w.alloc (.cells #[.string (bb T.name),.bool T.dir,.slice vo T.body.length tc] 24)).alloc (.cells #[.string ⟨#[]⟩,.bool false,.slice none 0 0,.slice none 0 0,.slice none 0 0] 31)).cell? ⟨w.heap.size,0,none⟩=some (.string (bb T.name)):=by rw [blk_cell HTB.out];rfl
 have x1:((w.alloc (.cells #[.string (bb T.name),.bool T.dir,.slice vo T.body.length tc] 24)).alloc (.cells #[.string ⟨#[]⟩,.bool false,.slice none 0 0,.slice none 0 0,.slice none 0 0] 31)).cell? ⟨w.heap.size,1,none⟩=some (.bool T.dir):=by rw [blk_cell HTB.out];rfl
 have x2:((w.alloc (.cells #[.string (bb T.name),.bool T.dir,.slice vo T.body.length tc] 24)).alloc (.cells #[.string ⟨#[]⟩,.bool false,.slice none 0 0,.slice none 0 0,.slice none 0 0] 31)).cell? ⟨w.heap.size,2,none⟩=some (.slice vo T.body.length tc):=by rw [blk_cell HTB.out];rfl
 clear hb1 hs h hV hb hG hnm
 go_enter Tryz.func11,Tryz.ntmps11
 go_wp2_with fail
 generalize (w.alloc (.cells #[.string (bb T.name),.bool T.dir,.slice vo T.body.length tc] 24)).alloc (.cells #[.string ⟨#[]⟩,.bool false,.slice none 0 0,.slice none 0 0,.slice none 0 0] 31)=w1 at *
 clear x0 x1 x2
 refine (rvalid_huge _ T V w1 HT1 hn HV).mono ?_
 rintro e w2 ⟨rfl,hb2⟩
 have HB2:=Lh (below_keep hb2 HB1.out)
 have HTB2:=Lh (blk_below HTB.out hb2)
 have HGB2:=Lh (blk_below HGB.out hb2)
 clear hb2 HT1 HTB HGB
 have g0:w2.cell? ⟨w.heap.size+1,0,none⟩=some (.string ⟨#[]⟩):=by rw [blk_cell HGB2.out];rfl
 have g1:w2.cell? ⟨w.heap.size+1,1,none⟩=some (.bool false):=by rw [blk_cell HGB2.out];rfl
 have g2:w2.cell? ⟨w.heap.size+1,2,none⟩=some (.slice none 0 0):=by rw [blk_cell HGB2.out];rfl
 have g3:w2.cell? ⟨w.heap.size+1,3,none⟩=some (.slice none 0 0):=by rw [blk_cell HGB2.out];rfl
 have g4:w2.cell? ⟨w.heap.size+1,4,none⟩=some (.slice none 0 0):=by rw [blk_cell HGB2.out];rfl
 have f0:=blk_open HGB2.out 0
 have f1:=blk_open HGB2.out 1
 have f2:=blk_open HGB2.out 2
 have f3:=blk_open HGB2.out 3
 have f4:=blk_open HGB2.out 4
 by_cases hz:V=0
 case neg =>
  have bR:(V != 0)=true:=by rw [bne_iff_ne];exact hz
  have HE:Hid (G=emG∧E=V):=Lh (by have h:=HB.out;rw [if_pos hz] at h;exact ⟨(Prod.mk.inj h).1.symm,(Prod.mk.inj h).2.symm⟩)
  clear hz
  go_wp2
  have hgx:=gbx_set HGB2.out (.string ⟨#[]⟩) (.bool false) (.slice none 0 0) (.slice none 0 0) (.slice none 0 0)
  obtain ⟨r0,r1,r2,r3,r4⟩:=gcl hgx
  refine bodyPost_ret (v:=.tuple #[.agg #[.string ⟨#[]⟩,.bool false,.slice none 0 0,.slice none 0 0,.slice none 0 0],.int .i64 V]) (by simp [results,Tryz.results11,go_sem,r0,r1,r2,r3,r4]) rfl ?_
  obtain ⟨rfl,rfl⟩:=HE.out
  exact ⟨_,rfl,em_grv _,below_set5 HB2.out (by omega) _ _ _ _ _⟩
 subst hz
 have hv0:validT T=0:=HV.out
 have HV0:=Lh hv0
 have hoB:=Lh (okB_of hv0 hok.out)
 have hcnt:cnt T.body≤512:=((valid_iff T).1 hv0).2.1
 have HRM:Hid (Room st0 (42*cnt T.body)):=Lh (by unfold Room st0;simp only [List.length_nil];omega)
 have HG2:Hid ((if (blkS T.body pl0 st0).e≠0 then (emG,(blkS T.body pl0 st0).e) else if noPort (finG T.name T.dir (blkS T.body pl0 st0))=true then (emG,5) else if gra.validE (finG T.name T.dir (blkS T.body pl0 st0))≠0 then (emG,gra.validE (finG T.name T.dir (blkS T.body pl0 st0))) else (finG T.name T.dir (blkS T.body pl0 st0),0))=(G,E)):=Lh (by have h:=HB.out;rw [if_neg (by simp)] at h;exact h)
 have HFO:Hid ((blkS T.body pl0 st0).e=0→FinOk (blkS T.body pl0 st0) (List.zipWith finN (blkS T.body pl0 st0).ns (blkS T.body pl0 st0).ats)):=Lh (fun he=>fin_ok hv0 hok.out he)
 obtain ⟨S',hS'⟩:∃ S',blkS T.body pl0 st0=S':=⟨_,rfl⟩
 have HSS:=Lh hS'
 rw [hS'] at HG2 HFO
 have y0:w2.cell? ⟨w.heap.size,0,none⟩=some (.string (bb T.name)):=by rw [blk_cell HTB2.out];rfl
 have y1:w2.cell? ⟨w.heap.size,1,none⟩=some (.bool T.dir):=by rw [blk_cell HTB2.out];rfl
 have hb3:=al1 w2 (.cells #[.string (bb T.name),.bool T.dir,.slice none 0 0,.slice none 0 0,.slice none 0 0,.slice none 0 0,.slice none 0 0,.int .i64 0] 74)
 have hbx:=blk_new w2 #[.string (bb T.name),.bool T.dir,.slice none 0 0,.slice none 0 0,.slice none 0 0,.slice none 0 0,.slice none 0 0,.int .i64 0] 74
 have hsz:w.heap.size+1 < w2.heap.size:=heap_lt HGB2.out
 have HBD:Hid (StB (w2.alloc (.cells #[.string (bb T.name),.bool T.dir,.slice none 0 0,.slice none 0 0,.slice none 0 0,.slice none 0 0,.slice none 0 0,.int .i64 0] 74)) w.heap.size w2.heap.size T.name T.dir st0 ⟨.slice none 0 0,.slice none 0 0,.slice none 0 0,.slice none 0 0,[],[]⟩):=Lh ⟨by omega,hbx,World.ownsRow_nil ..,World.ownsRow_nil ..,World.ownsRow_nil ..,World.ownsRow_nil ..,rfl,fun i hi=>absurd hi (by simp),rfl,fun y hy=>(by cases hy)⟩
 have HB3:=Lh (below_keep hb3 HB2.out)
 have HTB3:=Lh (blk_below HTB2.out hb3)
 have HGB3:=Lh (blk_below HGB2.out hb3)
 have y2:(w2.alloc (.cells #[.string (bb T.name),.bool T.dir,.slice none 0 0,.slice none 0 0,.slice none 0 0,.slice none 0 0,.slice none 0 0,.int .i64 0] 74)).cell? ⟨w.heap.size,2,none⟩=some (.slice vo T.body.length tc):=by rw [blk_cell HTB3.out];rfl
 clear hS' hb3 hbx hv0 hcnt HB HTB2 HGB2 g0 g1 g2 g3 g4 f0 f1 f2 f3 f4
 go_wp2_with fail
 obtain ⟨b,hb⟩:∃ b,w2.heap.size=b:=⟨_,rfl⟩
 rw [hb] at HBD hsz
 simp only [hb]
 generalize w2.alloc (.cells #[.string (bb T.name),.bool T.dir,.slice none 0 0,.slice none 0 0,.slice none 0 0,.slice none 0 0,.slice none 0 0,.int .i64 0] 74)=w3 at *
 clear y0 y1 y2 hb
 refine (BlkR.use (Lh (blkR_ok T.body)) w b T.name T.dir st0 _ _ pl0 _ _ S' w3 HBD HB3 (Lh rfl) (Lh (prsT_nil w3)) (Lh (prsT_nil w3)) HS hoB HRM (Lh ⟨fun a ha=>(by cases ha),fun c hc=>(by cases hc)⟩) (Lh ⟨Ga.nil 1,Ga.nil 2⟩) HSS).mono ?_
 rintro e w4 ⟨rfl,x4,hs4,ht4,hb4⟩
 have HS4:=Lh hs4
 have HB4:=Lh (HB3.out.trans hb4)
 have HGB4:=Lh (ht4.blk HGB3.out rfl)
 have c7:w4.cell? ⟨b,7,none⟩=some (.int .i64 S'.e):=hs4.box.read.2.2.2.2
 have hRb:w.heap.size+1≠b:=by omega
 clear hs4 ht4 hb4 HBD HB3 HTB3 HGB3 HSS HRM
 by_cases he:S'.e=0
 case neg =>
  have bE:(S'.e != 0)=true:=by rw [bne_iff_ne];exact he
  have HE:Hid (G=emG∧E=S'.e):=Lh (by have h:=HG2.out;rw [if_pos he] at h;exact ⟨(Prod.mk.inj h).1.symm,(Prod.mk.inj h).2.symm⟩)
  clear he
  obtain ⟨E1,hE1⟩:∃ E1,S'.e=E1:=⟨_,rfl⟩
  rw [hE1] at c7 bE HE
  clear hE1
  go_wp2_with fail
  have g0:w4.cell? ⟨w.heap.size+1,0,none⟩=some (.string ⟨#[]⟩):=by rw [blk_cell HGB4.out];rfl
  have g1:w4.cell? ⟨w.heap.size+1,1,none⟩=some (.bool false):=by rw [blk_cell HGB4.out];rfl
  have g2:w4.cell? ⟨w.heap.size+1,2,none⟩=some (.slice none 0 0):=by rw [blk_cell HGB4.out];rfl
  have g3:w4.cell? ⟨w.heap.size+1,3,none⟩=some (.slice none 0 0):=by rw [blk_cell HGB4.out];rfl
  have g4:w4.cell? ⟨w.heap.size+1,4,none⟩=some (.slice none 0 0):=by rw [blk_cell HGB4.out];rfl
  have f0:=blk_open HGB4.out 0
  have f1:=blk_open HGB4.out 1
  have f2:=blk_open HGB4.out 2
  have f3:=blk_open HGB4.out 3
  have f4:=blk_open HGB4.out 4
  refine wp_region_held_drew (S:=(fun W:World=>W.cell? ⟨b,7,none⟩=some (.int .i64 E1))) (by kernel_rfl) (s_drew c7) (fun hHeld=>?_)
  refine tk 0 29 (.agg #[.string ⟨#[]⟩,.bool false,.slice none 0 0,.slice none 0 0,.slice none 0 0]) ?_ ?_
  ·(intro W hSw;(try dsimp only at hSw);try dsimp only at hSw
    go_simp)
  try simp only [sA,sB,sC]
  refine tk 1 30 (.pointer (some ⟨b,0,none⟩)) ?_ ?_
  ·(intro W hSw;(try dsimp only at hSw);try dsimp only at hSw
    go_simp)
  try simp only [sA,sB,sC]
  refine tk 2 31 (.pointer (some ⟨b,0,none⟩)) ?_ ?_
  ·(intro W hSw;(try dsimp only at hSw);try dsimp only at hSw
    go_simp)
  try simp only [sA,sB,sC]
  refine tk 3 32 (.pointer (some ⟨b,7,none⟩)) ?_ ?_
  ·(intro W hSw;(try dsimp only at hSw);try dsimp only at hSw
    go_simp)
  try simp only [sA,sB,sC]
  refine tk 4 33 (.int .i64 E1) ?_ ?_
  ·(intro W hSw;(try dsimp only at hSw);try dsimp only at hSw
    go_simp)
  try simp only [sA,sB,sC]
  refine wpAnyH_ready (rs:=[5]) (by kernel_rfl) (by simp) ?_
  refine AllReadyH.cons rfl (fun K hK=>?_) AllReadyH.nil
  go_simp
  refine hK.out _ _ (s_set (by simp only;omega) (s_set (by simp only;omega) (s_set (by simp only;omega) (s_set (by simp only;omega) (s_set (by simp only;omega) (s_drew c7)))))) (fun hHeld=>?_)
  clear hK K
  try simp only [sA,sB,sC]
  refine tk 6 3 (.int .i64 E1) ?_ ?_
  ·(intro W hSw;(try dsimp only at hSw);try dsimp only at hSw
    go_simp)
  try simp only [sA,sB,sC]
  refine wpAnyH_done (by kernel_rfl) ?_ _
  go_wp2
  obtain ⟨rfl,rfl⟩:=HE.out
  have hgx:=gbx_set HGB4.out (.string ⟨#[]⟩) (.bool false) (.slice none 0 0) (.slice none 0 0) (.slice none 0 0)
  have r0:=s_drew (show (((((w4.setCell ⟨w.heap.size+1,0,none⟩ (.string ⟨#[]⟩)).setCell ⟨w.heap.size+1,1,none⟩ (.bool false)).setCell ⟨w.heap.size+1,2,none⟩ (.slice none 0 0)).setCell ⟨w.heap.size+1,3,none⟩ (.slice none 0 0)).setCell ⟨w.heap.size+1,4,none⟩ (.slice none 0 0)).cell? ⟨w.heap.size+1,0,none⟩=some (.string ⟨#[]⟩) by rw [blk_cell hgx];rfl)
  have r1:=s_drew (show (((((w4.setCell ⟨w.heap.size+1,0,none⟩ (.string ⟨#[]⟩)).setCell ⟨w.heap.size+1,1,none⟩ (.bool false)).setCell ⟨w.heap.size+1,2,none⟩ (.slice none 0 0)).setCell ⟨w.heap.size+1,3,none⟩ (.slice none 0 0)).setCell ⟨w.heap.size+1,4,none⟩ (.slice none 0 0)).cell? ⟨w.heap.size+1,1,none⟩=some (.bool false) by rw [blk_cell hgx];rfl)
  have r2:=s_drew (show (((((w4.setCell ⟨w.heap.size+1,0,none⟩ (.string ⟨#[]⟩)).setCell ⟨w.heap.size+1,1,none⟩ (.bool false)).setCell ⟨w.heap.size+1,2,none⟩ (.slice none 0 0)).setCell ⟨w.heap.size+1,3,none⟩ (.slice none 0 0)).setCell ⟨w.heap.size+1,4,none⟩ (.slice none 0 0)).cell? ⟨w.heap.size+1,2,none⟩=some (.slice none 0 0) by rw [blk_cell hgx];rfl)
  have r3:=s_drew (show (((((w4.setCell ⟨w.heap.size+1,0,none⟩ (.string ⟨#[]⟩)).setCell ⟨w.heap.size+1,1,none⟩ (.bool false)).setCell ⟨w.heap.size+1,2,none⟩ (.slice none 0 0)).setCell ⟨w.heap.size+1,3,none⟩ (.slice none 0 0)).setCell ⟨w.heap.size+1,4,none⟩ (.slice none 0 0)).cell? ⟨w.heap.size+1,3,none⟩=some (.slice none 0 0) by rw [blk_cell hgx];rfl)
  have r4:=s_drew (show (((((w4.setCell ⟨w.heap.size+1,0,none⟩ (.string ⟨#[]⟩)).setCell ⟨w.heap.size+1,1,none⟩ (.bool false)).setCell ⟨w.heap.size+1,2,none⟩ (.slice none 0 0)).setCell ⟨w.heap.size+1,3,none⟩ (.slice none 0 0)).setCell ⟨w.heap.size+1,4,none⟩ (.slice none 0 0)).cell? ⟨w.heap.size+1,4,none⟩=some (.slice none 0 0) by rw [blk_cell hgx];rfl)
  refine bodyPost_ret (v:=.tuple #[.agg #[.string ⟨#[]⟩,.bool false,.slice none 0 0,.slice none 0 0,.slice none 0 0],.int .i64 E]) (by simp [results,Tryz.results11,go_sem,r0,r1,r2,r3,r4]) rfl ?_
  exact ⟨_,rfl,em_grv _,(below_set5 HB4.out (by omega) _ _ _ _ _).drew⟩
 have bE:(S'.e != 0)=false:=by rw [he];rfl
 have HR4:Hid ((if noPort (finG T.name T.dir S')=true then (emG,5) else if gra.validE (finG T.name T.dir S')≠0 then (emG,gra.validE (finG T.name T.dir S')) else (finG T.name T.dir S',0))=(G,E)):=Lh (by have h:=HG2.out;rw [if_neg (by simpa using he)] at h;exact h)
 have HFO4:=Lh (HFO.out he)
 clear he HFO HG2
 go_wp2_with fail
 clear c7
 refine (finish_of w.heap.size b T.name T.dir S' x4 _ (G,E) w4 HS4 HFO4 HNM HR4).mono ?_
 rintro e w5 ⟨gv,rfl,hgv,hb5⟩
 obtain ⟨nv,ev,cv,rfl,-,hr1,hr2,hr3⟩:=id hgv
 obtain ⟨no,nc,rfl,-,-,-⟩:=id hr1
 obtain ⟨eo,ec,rfl,-,-,-⟩:=id hr2
 obtain ⟨co,cc,rfl,-,-,-⟩:=id hr3
 simp only at hgv ⊢
 have HGV:=Lh hgv
 have HB5:=Lh (below_keep hb5 HB4.out)
 have HGB5:=Lh (blk_below HGB4.out hb5)
 clear hgv hb5 hr1 hr2 hr3 HS4 HB4 HGB4
 have g0:w5.cell? ⟨w.heap.size+1,0,none⟩=some (.string ⟨#[]⟩):=by rw [blk_cell HGB5.out];rfl
 have g1:w5.cell? ⟨w.heap.size+1,1,none⟩=some (.bool false):=by rw [blk_cell HGB5.out];rfl
 have g2:w5.cell? ⟨w.heap.size+1,2,none⟩=some (.slice none 0 0):=by rw [blk_cell HGB5.out];rfl
 have g3:w5.cell? ⟨w.heap.size+1,3,none⟩=some (.slice none 0 0):=by rw [blk_cell HGB5.out];rfl
 have g4:w5.cell? ⟨w.heap.size+1,4,none⟩=some (.slice none 0 0):=by rw [blk_cell HGB5.out];rfl
 have f0:=blk_open HGB5.out 0
 have f1:=blk_open HGB5.out 1
 have f2:=blk_open HGB5.out 2
 have f3:=blk_open HGB5.out 3
 have f4:=blk_open HGB5.out 4
 go_wp2
 have hgx:=gbx_set HGB5.out (.string (bb G.nm)) (.bool G.dir) (.slice no G.ns.length nc) (.slice eo G.es.length ec) (.slice co G.cs.length cc)
 obtain ⟨r0,r1,r2,r3,r4⟩:=gcl hgx
 refine bodyPost_ret (v:=.tuple #[.agg #[.string (bb G.nm),.bool G.dir,.slice no G.ns.length nc,.slice eo G.es.length ec,.slice co G.cs.length cc],.int .i64 E]) (by simp [results,Tryz.results11,go_sem,r0,r1,r2,r3,r4]) rfl ?_
 exact ⟨_,rfl,(box_store HGB5.out HGV.out).1,below_set5 HB5.out (by omega) _ _ _ _ _⟩
set_option maxRecDepth 100000 in
set_option maxHeartbeats 4000000 in
theorem wbuilds (v:Value)(T:Tr)(w:World)(h:Hid (TrV w v T))(hM:Hid (Mx w)) :
    Calls Tryz.prog 3 #[v] w fun e w'=>e=.returned (.bool true)∧Below w.heap.size w w':=by
 obtain ⟨bv,rfl,hnm,hs⟩:=h.out
 obtain ⟨bo,bc,rfl,-,-,-⟩:=id hs
 obtain ⟨G,E,hGE⟩:∃ G E,buildC T=(G,E):=⟨_,_,rfl⟩
 have HG:=Lh hGE
 obtain ⟨X,hX⟩:∃ X,bb T.name=X:=⟨_,rfl⟩
 have HX:=Lh hX
 have hb1:=al1 w (.cells #[.string X,.bool T.dir,.slice bo T.body.length bc] 24)
 have HT1:=Lh (h.out.keep hb1)
 have HS1:=Lh (hs.keep hb1)
 have HM1:=mx_keep hM hb1
 have HB1:=Lh hb1
 have hA:=at3_new w X T.dir (.slice bo T.body.length bc) 24
 rw [hX] at HT1 ⊢
 clear hb1 hs hnm hGE hX h hM
 go_enter Tryz.func3,Tryz.ntmps3
 obtain ⟨a0,a1,a2⟩:=id hA
 have HA1:=Lh hA
 clear hA
 go_wp2_with fail
 generalize w.alloc (.cells #[.string X,.bool T.dir,.slice bo T.body.length bc] 24)=w1 at *
 refine (few_of T.body w1 _ 9 0 (Nat.le_refl _) rfl HS1.out).mono ?_
 rintro e w2 ⟨b,rfl,hbq,rfl⟩
 cases b
 case false =>
  clear hbq
  go_wp2_with fail
  refine (awake_of _ HM1).mono ?_
  rintro e w3 ⟨rfl,hb3⟩
  have HBF:=Lh (below_keep hb3 HB1.out)
  clear hb3
  go_wp2
  go_ret
  exact ⟨rfl,HBF.out⟩
 obtain ⟨hcn,hok⟩:=hbq rfl
 have hc1:cnt T.body≤1000000000000:=Nat.le_trans hcn few_bound
 have hc2:cnt T.body≤2000000000000:=by omega
 have HOK:=Lh hok
 clear hbq hcn hok
 go_wp2_with fail
 clear a0 a1 a2
 refine (build_of _ T G E w2 HM1 HT1 hc2 HOK HG).mono ?_
 rintro e w3 ⟨gv,rfl,hgv,hb3⟩
 obtain ⟨nv,ev,cv,rfl,-,hns,hes,hcs⟩:=id hgv
 obtain ⟨no,nc,rfl,-,-,-⟩:=id hns
 obtain ⟨eo,ec,rfl,-,-,-⟩:=id hes
 obtain ⟨co,cc,rfl,-,-,-⟩:=id hcs
 have hal:=al1 w3 (.cells #[.string (bb G.nm),.bool G.dir,.slice no G.ns.length nc,.slice eo G.es.length ec,.slice co G.cs.length cc] 31)
 have hq:=below_keep hal hb3
 have HB4:=Lh (below_keep hq HB1.out)
 have HT4:=Lh (HT1.out.keep hq)
 have HM4:=mx_keep HM1 hq
 have HA4:=Lh (at3_keep HA1.out hq)
 have HGV4:=Lh (hgv.keep hal)
 have HGA4:=Lh (gra.gat_new w3 (bb G.nm) G.dir (.slice no G.ns.length nc) (.slice eo G.es.length ec) (.slice co G.cs.length cc) 31)
 have HGT:Hid (buildT T=(G,E)):=Lh (by rw [← build_eq];exact HG.out)
 obtain ⟨a0,a1,a2⟩:=HA4.out
 clear hgv hns hes hcs hb3 hal hq HB1 HT1 HM1 HA1 HS1
 go_wp2_with fail
 obtain ⟨K,hK⟩:∃ K,w3.heap.size=K:=⟨_,rfl⟩
 rw [hK] at HGA4
 simp only [hK]
 generalize w3.alloc (.cells #[.string (bb G.nm),.bool G.dir,.slice no G.ns.length nc,.slice eo G.es.length ec,.slice co G.cs.length cc] 31)=w4 at *
 clear a0 a1 a2 hK
 refine (rbuild_of _ T G E w4 HT4 hc1 HOK HGT).mono ?_
 rintro e w5 ⟨gv5,rfl,hgv5,hb5⟩
 obtain ⟨nv5,ev5,cv5,rfl,-,hns,hes,hcs⟩:=id hgv5
 obtain ⟨no2,nc2,rfl,-,-,-⟩:=id hns
 obtain ⟨eo2,ec2,rfl,-,-,-⟩:=id hes
 obtain ⟨co2,cc2,rfl,-,-,-⟩:=id hcs
 have hal:=al1 w5 (.cells #[.string (bb G.nm),.bool G.dir,.slice no2 G.ns.length nc2,.slice eo2 G.es.length ec2,.slice co2 G.cs.length cc2] 31)
 have hq:=below_keep hal hb5
 have HB6:=Lh (below_keep hq HB4.out)
 have HM6:=mx_keep HM4 hq
 have HGV6:=Lh (HGV4.out.keep hq)
 have HGA6:=Lh (gra.gat_keep HGA4.out hq)
 have HGW6:=Lh (hgv5.keep hal)
 have HGB6:=Lh (gra.gat_new w5 (bb G.nm) G.dir (.slice no2 G.ns.length nc2) (.slice eo2 G.es.length ec2) (.slice co2 G.cs.length cc2) 31)
 obtain ⟨g0,g1,g2,g3,g4⟩:=HGA6.out
 obtain ⟨k0,k1,k2,k3,k4⟩:=HGB6.out
 clear hgv5 hns hes hcs hb5 hal hq HB4 HT4 HM4 HA4 HGV4 HGA4
 go_wp2_with fail
 generalize w5.alloc (.cells #[.string (bb G.nm),.bool G.dir,.slice no2 G.ns.length nc2,.slice eo2 G.es.length ec2,.slice co2 G.cs.length cc2] 31)=w6 at *
 clear g0 g1 g2 g3 g4 k0 k1 k2 k3 k4
 refine (gra.gsame_of _ _ G G true w6 HGV6 HGW6 (Lh (by simp))).mono ?_
 rintro e w7 ⟨rfl,hb7⟩
 have HB7:=Lh (below_keep hb7 HB6.out)
 have HM7:=mx_keep HM6 hb7
 clear hb7
 go_wp2_with fail
 refine (awake_of _ HM7).mono ?_
 rintro e w8 ⟨rfl,hb8⟩
 have HBF:=Lh (below_keep hb8 HB7.out)
 clear hb8
 go_wp2
 go_ret
 exact ⟨rfl,HBF.out⟩
end Go.Proofs.YtcdoicgbjoikkaaGreatDoor.nor
namespace Go.Proofs.YtcdoicgbjoikkaaGreatDoor.nor
open Go.ChangeShapes Go.WideShapes Go.ChangeAt Go.RowKit Go.Joins lex tre att
def laidS:List (String × DataW Unit):=Rows.normalizeBuildsRow.laid
theorem mx_of {W:World}(h:W.ShapedOpen Tryz.prog):Mx W:=Tryz.laysM143.s1_3 W h
section
variable {H:Type} {enc:TypeId × Value→H} {w:World} {base:Nat} {spare:Nat→Bool} {held:Bool}
end
end Go.Proofs.YtcdoicgbjoikkaaGreatDoor.nor
