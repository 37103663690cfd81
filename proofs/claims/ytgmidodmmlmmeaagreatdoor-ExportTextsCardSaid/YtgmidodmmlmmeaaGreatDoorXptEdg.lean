/-
  What edge of the reference of layer 13 returns: the statement of an edge. Condition: an edge of a valid graph, by value, the graph in memory.
-/
import Derived.Test.YtgmidodmmlmmeaaGreatDoorMec
namespace Go.Proofs.YtgmidodmmlmmeaaGreatDoor.xpt
open Go.RowKit lex tre att nor
theorem blk_ne {W:World}{a b:Nat}{t u:TypeId}{x y:Array Value}(h:blk W a t x)(k:blk W b u y)(ht:t≠u):a≠b:=by
 rintro rfl;unfold xpt.blk at h k;rw [h] at k;cases k;exact ht rfl
theorem prs_two {W:World}{g:Nat}{t:TypeId}{x y:Pr}(h:blk W g t #[.string (bb x.1),.string (bb x.2),.string (bb y.1),.string (bb y.2)])(h1:x.1.length≤maxLen)(h2:x.2.length≤maxLen)(h3:y.1.length≤maxLen)(h4:y.2.length≤maxLen):Prs W (.slice (some ⟨g,0,none⟩) 2 2) [x,y]:=by
 refine ⟨_,2,rfl,Nat.le_refl _,by decide,fun _=>⟨_,rfl,fun i hi=>?_⟩⟩
 have:i=0∨i=1:=by simp at hi;omega
 rcases this with rfl | rfl
 ·exact ⟨by rw [gra.add_at,blk_cell h];rfl,by show W.cell? ⟨g,_,none⟩=_;rw [blk_cell h];rfl,h1,h2⟩
 ·exact ⟨by rw [gra.add_at,blk_cell h];rfl,by show W.cell? ⟨g,_,none⟩=_;rw [blk_cell h];rfl,h3,h4⟩
def ndC (W:World)(A:Addr)(x:gra.Nd)(po:Option Addr)(pc:Nat):Prop :=
 W.cell? A=some (.string (bb x.nm))∧W.cell? ⟨A.block,A.off+1,none⟩=some (.string (bb x.lb))∧W.cell? ⟨A.block,A.off+2,none⟩=some (.int .i64 x.w)∧W.cell? ⟨A.block,A.off+3,none⟩=some (.int .i64 x.h)∧W.cell? ⟨A.block,A.off+4,none⟩=some (.int .i64 x.cl)∧W.cell? ⟨A.block,A.off+5,none⟩=some (.slice po x.ps.length pc)
theorem nds_c {w:World}{no:Option Addr}{nc:Nat}{l:List gra.Nd}(h:gra.Nds w (.slice no l.length nc) l){i:Nat}(hi:i < l.length):∃ A,no=some A∧∃ po pc,ndC w (A.add (i*6)) l[i] po pc∧gra.Pts w (.slice po l[i].ps.length pc) l[i].ps∧l[i].nm.length≤maxLen:=by
 obtain ⟨_,_,e,-,-,h2⟩:=h
 cases e
 obtain ⟨A,rfl,h3⟩:=h2 (by omega)
 obtain ⟨q0,q1,q2,q3,q4,⟨pv,q5,q6⟩,q7,-⟩:=h3 i hi
 obtain ⟨po,pc,rfl,-,-,-⟩:=id q6
 exact ⟨A,rfl,po,pc,⟨q0,q1,q2,q3,q4,q5⟩,q6,q7⟩
theorem ndC.keep {w w':World}{A:Addr}{x:gra.Nd}{po:Option Addr}{pc:Nat}(h:ndC w A x po pc)(hb:Below w.heap.size w w'):ndC w' A x po pc :=
 ⟨cell_later' hb h.1,cell_later' hb h.2.1,cell_later' hb h.2.2.1,cell_later' hb h.2.2.2.1,cell_later' hb h.2.2.2.2.1,cell_later' hb h.2.2.2.2.2⟩
def edP (x:gra.Ed):Value:=.agg #[.int .i64 x.fr,.int .i64 x.to,.int .i64 x.fp,.int .i64 x.tp,.string (bb x.lb),.int .i64 x.wt,.int .i64 x.ln]
def A64 (a:Act)(n0 s:Nat):Prop:=a=⟨#[a.tmps.getD 0 undef,a.tmps.getD 1 undef,.pointer (some ⟨n0,0,none⟩),.pointer (some ⟨n0+1,0,none⟩),.pointer (some ⟨n0+2,0,none⟩),.pointer (some ⟨s,0,none⟩),a.tmps.getD 6 undef,a.tmps.getD 7 undef,a.tmps.getD 8 undef,a.tmps.getD 9 undef,a.tmps.getD 10 undef,a.tmps.getD 11 undef,a.tmps.getD 12 undef,a.tmps.getD 13 undef,a.tmps.getD 14 undef,a.tmps.getD 15 undef,a.tmps.getD 16 undef,a.tmps.getD 17 undef,a.tmps.getD 18 undef,a.tmps.getD 19 undef,a.tmps.getD 20 undef,a.tmps.getD 21 undef,a.tmps.getD 22 undef,a.tmps.getD 23 undef,a.tmps.getD 24 undef,a.tmps.getD 25 undef,a.tmps.getD 26 undef,a.tmps.getD 27 undef,a.tmps.getD 28 undef,a.tmps.getD 29 undef,a.tmps.getD 30 undef,a.tmps.getD 31 undef,a.tmps.getD 32 undef,a.tmps.getD 33 undef,a.tmps.getD 34 undef,a.tmps.getD 35 undef,a.tmps.getD 36 undef,a.tmps.getD 37 undef,a.tmps.getD 38 undef,a.tmps.getD 39 undef,a.tmps.getD 40 undef,a.tmps.getD 41 undef,a.tmps.getD 42 undef,a.tmps.getD 43 undef,a.tmps.getD 44 undef,a.tmps.getD 45 undef,a.tmps.getD 46 undef,a.tmps.getD 47 undef,a.tmps.getD 48 undef,a.tmps.getD 49 undef,a.tmps.getD 50 undef,a.tmps.getD 51 undef,a.tmps.getD 52 undef,a.tmps.getD 53 undef,a.tmps.getD 54 undef,a.tmps.getD 55 undef,a.tmps.getD 56 undef,a.tmps.getD 57 undef,a.tmps.getD 58 undef,a.tmps.getD 59 undef,a.tmps.getD 60 undef,a.tmps.getD 61 undef,a.tmps.getD 62 undef,a.tmps.getD 63 undef],[]⟩
theorem A64.use {a:Act}{n0 s:Nat}(h:A64 a n0 s):∃ f:Nat→Value,a=⟨#[f 0,f 1,.pointer (some ⟨n0,0,none⟩),.pointer (some ⟨n0+1,0,none⟩),.pointer (some ⟨n0+2,0,none⟩),.pointer (some ⟨s,0,none⟩),f 6,f 7,f 8,f 9,f 10,f 11,f 12,f 13,f 14,f 15,f 16,f 17,f 18,f 19,f 20,f 21,f 22,f 23,f 24,f 25,f 26,f 27,f 28,f 29,f 30,f 31,f 32,f 33,f 34,f 35,f 36,f 37,f 38,f 39,f 40,f 41,f 42,f 43,f 44,f 45,f 46,f 47,f 48,f 49,f 50,f 51,f 52,f 53,f 54,f 55,f 56,f 57,f 58,f 59,f 60,f 61,f 62,f 63],[]⟩:=⟨fun i=>a.tmps.getD i undef,h⟩
def EdgM (w:World)(n0:Nat)(eb:Array Value)(r1 r2:Pr)(l:List Pr)(a:Act)(W:World):Prop :=
 ∃ s rb,A64 a n0 s∧n0≤s∧n0≤rb∧(∃ ao ac,SB n0 W s 2 ⟨#[]⟩ (.slice (some ⟨rb,0,none⟩) 2 2) ao ac l)∧blk W rb 121 #[.string (bb r1.1),.string (bb r1.2),.string (bb r2.1),.string (bb r2.2)]∧Below n0 w W∧blk W (n0+1) 61 eb∧blk W (n0+2) 67 #[.int .i64 0,.string ⟨#[]⟩,.slice none 0 0,.slice none 0 0,.slice none 0 0]∧s≠n0+2
theorem EdgM.box (w:World)(n0:Nat)(eb:Array Value)(r1 r2:Pr)(l:List Pr):∃ M:Act→World→Prop,Hid (∀ a W,M a W ↔ EdgM w n0 eb r1 r2 l a W):=⟨EdgM w n0 eb r1 r2 l,Lh fun _ _=>Iff.rfl⟩
set_option maxRecDepth 100000 in
set_option maxHeartbeats 8000000 in
theorem redge_of (g:gra.Gr)(x:gra.Ed)(gv:Value)(w:World)(h:Hid (gra.GrV w gv g))(hg:Hid (GV g))(hx:Hid (x∈g.es)) :
    Calls Tryz.prog 37 #[gv,edP x] w fun e w'=>Below w.heap.size w w'∧∃ v,e=.returned v∧VSt (edgeS g.ns x) w w' v:=by
 obtain ⟨nv,ev,cv,rfl,hgn,hns,hes,hcs⟩:=h.out
 obtain ⟨no,nc,rfl,-,hnm,-⟩:=id hns
 obtain ⟨eo,ec,rfl,-,-,-⟩:=id hes
 obtain ⟨co,cc,rfl,-,-,-⟩:=id hcs
 have hed:=hg.out.ev x hx.out
 have HED:=Lh hed
 obtain ⟨fr0,to0,f1,f2,t1,t2,fr1,to1⟩:=edge_in hg.out hx.out
 obtain ⟨i1,hi1⟩:∃ i:Nat,x.fr=i:=⟨x.fr.toNat,by omega⟩
 obtain ⟨i2,hi2⟩:∃ i:Nat,x.to=i:=⟨x.to.toNat,by omega⟩
 have hl1:i1 < g.ns.length:=by omega
 have hl2:i2 < g.ns.length:=by omega
 have hn1:ndAt g.ns x.fr=g.ns[i1]:=by unfold ndAt;rw [hi1,Int.toNat_natCast,List.getD_eq_getElem?_getD,List.getElem?_eq_getElem hl1];rfl
 have hn2:ndAt g.ns x.to=g.ns[i2]:=by unfold ndAt;rw [hi2,Int.toNat_natCast,List.getD_eq_getElem?_getD,List.getElem?_eq_getElem hl2];rfl
 obtain ⟨fr,tw,fp,tp,lb,wt,ln⟩:=x
 simp only at hed fr0 to0 f1 f2 t1 t2 hi1 hi2 hn1 hn2 fr1 to1
 subst hi1 hi2
 have hwt:=hed.wt
 have hln:=hed.ln
 have hlb:=hed.lb
 simp only at hwt hln hlb
 have hc1:=hg.out.nd _ (List.getElem_mem hl1)
 have hc2:=hg.out.nd _ (List.getElem_mem hl2)
 obtain ⟨A,rfl,po1,pc1,hC1,hP1,hm1⟩:=nds_c hns hl1
 obtain ⟨_,e,po2,pc2,hC2,hP2,hm2⟩:=nds_c hns hl2
 cases e
 rw [hn1] at f2
 rw [hn2] at t2
 obtain ⟨X1,hX1⟩:∃ y,g.ns[i1]=y:=⟨_,rfl⟩
 obtain ⟨X2,hX2⟩:∃ y,g.ns[i2]=y:=⟨_,rfl⟩
 rw [hX1] at hC1 hP1 f2 hc1 hn1 hm1
 rw [hX2] at hC2 hP2 t2 hc2 hn2 hm2
 obtain ⟨r1,hr1⟩:∃ r,refP X1 fp=r:=⟨_,rfl⟩
 obtain ⟨r2,hr2⟩:∃ r,refP X2 tp=r:=⟨_,rfl⟩
 have b1:=ref_bnd hc1 f2
 have b2:=ref_bnd hc2 t2
 rw [hr1] at b1
 rw [hr2] at b2
 have HR1:Hid (rfV (refP X1 fp)=.agg #[.string (bb r1.1),.string (bb r1.2)]):=Lh (by rw [hr1];rfl)
 have HR2:Hid (rfV (refP X2 tp)=.agg #[.string (bb r2.1),.string (bb r2.2)]):=Lh (by rw [hr2];rfl)
 have HST:Hid (edgeS g.ns ⟨i1,i2,fp,tp,lb,wt,ln⟩=.mk 2 [] [r1,r2] (edgeA ⟨i1,i2,fp,tp,lb,wt,ln⟩) []):=Lh (by unfold edgeS;simp only;rw [hn1,hn2,hr1,hr2])
 have B1:=Lh b1
 have B2:=Lh b2
 have HP1:=Lh hP1
 have HP2:=Lh hP2
 have HC1:=Lh hC1
 have HC2:=Lh hC2
 have hll:g.ns.length≤64:=hg.out.nl
 clear hes hcs hr1 hr2 hX1 hX2 b1 b2 hn1 hn2 hc1 hc2 hP1 hP2 hC1 hC2 hed hm1 hm2 hns hgn h
 obtain ⟨Gn,hGn⟩:∃ X,bb g.nm=X:=⟨_,rfl⟩
 obtain ⟨L,hL⟩:∃ X,bb lb=X:=⟨_,rfl⟩
 have HL:=Lh hL
 obtain ⟨F2,hF2⟩:∃ F,bb (fmtL (1000*ln))=F:=⟨_,rfl⟩
 obtain ⟨F3,hF3⟩:∃ F,bb (fmtL (1000*wt))=F:=⟨_,rfl⟩
 have HF2:=Lh hF2
 have HF3:=Lh hF3
 unfold edP
 simp only
 rw [show gra.bb g.nm=Gn from hGn,hL]
 clear hGn hL hF2 hF3
 have z1:(0:Int)≤(i1:Int):=by omega
 have z2:(i1:Int) < (g.ns.length:Int):=by omega
 have z3:(0:Int)≤(i2:Int):=by omega
 have z4:(i2:Int) < (g.ns.length:Int):=by omega
 go_enter Tryz.func37,Tryz.ntmps37
 obtain ⟨M,HM⟩:=EdgM.box w w.heap.size #[.int .i64 (i1:Int),.int .i64 (i2:Int),.int .i64 fp,.int .i64 tp,.string L,.int .i64 wt,.int .i64 ln] r1 r2 []
 refine seq_mid2 M ?_ ?_
 ·have k1:=blk_new w #[.string Gn,.bool g.dir,.slice (some A) g.ns.length nc,.slice eo g.es.length ec,.slice co g.cs.length cc] 26
  have b1:=al1 w (.cells #[.string Gn,.bool g.dir,.slice (some A) g.ns.length nc,.slice eo g.es.length ec,.slice co g.cs.length cc] 26)
  have q1:(w.alloc (.cells #[.string Gn,.bool g.dir,.slice (some A) g.ns.length nc,.slice eo g.es.length ec,.slice co g.cs.length cc] 26)).heap.size=w.heap.size+1:=by simp
  have HK1:=Lh k1
  have HB1:=Lh b1
  have HQ1:=Lh q1
  clear k1 b1 q1
  go_wp2_with fail
  generalize w.alloc (.cells #[.string Gn,.bool g.dir,.slice (some A) g.ns.length nc,.slice eo g.es.length ec,.slice co g.cs.length cc] 26)=wa at HK1 HB1 HQ1 ⊢
  have hq1:=HQ1.out
  have b2:=al1 wa (.cells #[.int .i64 (i1:Int),.int .i64 (i2:Int),.int .i64 fp,.int .i64 tp,.string L,.int .i64 wt,.int .i64 ln] 61)
  have k2:=blk_new wa #[.int .i64 (i1:Int),.int .i64 (i2:Int),.int .i64 fp,.int .i64 tp,.string L,.int .i64 wt,.int .i64 ln] 61
  have q2:(wa.alloc (.cells #[.int .i64 (i1:Int),.int .i64 (i2:Int),.int .i64 fp,.int .i64 tp,.string L,.int .i64 wt,.int .i64 ln] 61)).heap.size=w.heap.size+2:=by simp;omega
  generalize wa.alloc (.cells #[.int .i64 (i1:Int),.int .i64 (i2:Int),.int .i64 fp,.int .i64 tp,.string L,.int .i64 wt,.int .i64 ln] 61)=wb at b2 k2 q2 ⊢
  have b3:=al1 wb (.cells #[.int .i64 0,.string ⟨#[]⟩,.slice none 0 0,.slice none 0 0,.slice none 0 0] 67)
  have k3:=blk_new wb #[.int .i64 0,.string ⟨#[]⟩,.slice none 0 0,.slice none 0 0,.slice none 0 0] 67
  have q3:(wb.alloc (.cells #[.int .i64 0,.string ⟨#[]⟩,.slice none 0 0,.slice none 0 0,.slice none 0 0] 67)).heap.size=w.heap.size+3:=by simp;omega
  generalize wb.alloc (.cells #[.int .i64 0,.string ⟨#[]⟩,.slice none 0 0,.slice none 0 0,.slice none 0 0] 67)=w1 at b3 k3 q3 ⊢
  rw [q2] at k3
  rw [hq1] at k2
  have hk1:=blk_keep b3 (blk_keep b2 HK1.out)
  have hk2:=blk_keep b3 k2
  have hb1:=below_keep b3 (below_keep b2 HB1.out)
  obtain ⟨c0,c1,c2,c3,c4,c5⟩:=HC1.out.keep hb1
  obtain ⟨d0,d1,d2,d3,d4,d5⟩:=HC2.out.keep hb1
  have g2:w1.cell? ⟨w.heap.size,2,none⟩=some (.slice (some A) g.ns.length nc):=by rw [blk_cell hk1];rfl
  have e0:w1.cell? ⟨w.heap.size+1,0,none⟩=some (.int .i64 (i1:Int)):=by rw [blk_cell hk2];rfl
  have e1:w1.cell? ⟨w.heap.size+1,1,none⟩=some (.int .i64 (i2:Int)):=by rw [blk_cell hk2];rfl
  have e2:w1.cell? ⟨w.heap.size+1,2,none⟩=some (.int .i64 fp):=by rw [blk_cell hk2];rfl
  have e3:w1.cell? ⟨w.heap.size+1,3,none⟩=some (.int .i64 tp):=by rw [blk_cell hk2];rfl
  have HK2:=Lh hk2
  have HK3:=Lh k3
  have HW1:=Lh hb1
  have HQ3:=Lh q3
  clear hk1 hk2 k3 k2 b2 b3 q2 q3 hb1 HB1 HK1 HQ1 hq1
  refine tstart (fun W:World=>W.cell? ⟨w.heap.size,2,none⟩=some (.slice (some A) g.ns.length nc)∧W.cell? ⟨w.heap.size+1,0,none⟩=some (.int .i64 (i1:Int))∧W.cell? ⟨w.heap.size+1,1,none⟩=some (.int .i64 (i2:Int))∧W.cell? ⟨w.heap.size+1,2,none⟩=some (.int .i64 fp)∧W.cell? ⟨w.heap.size+1,3,none⟩=some (.int .i64 tp)∧W.cell? (A.add (i1*6))=some (.string (bb X1.nm))∧W.cell? ⟨(A.add (i1*6)).block,(A.add (i1*6)).off+1,none⟩=some (.string (bb X1.lb))∧W.cell? ⟨(A.add (i1*6)).block,(A.add (i1*6)).off+2,none⟩=some (.int .i64 X1.w)∧W.cell? ⟨(A.add (i1*6)).block,(A.add (i1*6)).off+3,none⟩=some (.int .i64 X1.h)∧W.cell? ⟨(A.add (i1*6)).block,(A.add (i1*6)).off+4,none⟩=some (.int .i64 X1.cl)∧W.cell? ⟨(A.add (i1*6)).block,(A.add (i1*6)).off+5,none⟩=some (.slice po1 X1.ps.length pc1)∧W.cell? (A.add (i2*6))=some (.string (bb X2.nm))∧W.cell? ⟨(A.add (i2*6)).block,(A.add (i2*6)).off+1,none⟩=some (.string (bb X2.lb))∧W.cell? ⟨(A.add (i2*6)).block,(A.add (i2*6)).off+2,none⟩=some (.int .i64 X2.w)∧W.cell? ⟨(A.add (i2*6)).block,(A.add (i2*6)).off+3,none⟩=some (.int .i64 X2.h)∧W.cell? ⟨(A.add (i2*6)).block,(A.add (i2*6)).off+4,none⟩=some (.int .i64 X2.cl)∧W.cell? ⟨(A.add (i2*6)).block,(A.add (i2*6)).off+5,none⟩=some (.slice po2 X2.ps.length pc2)) 21 (by kernel_rfl) ⟨s_drew (g2),s_drew (e0),s_drew (e1),s_drew (e2),s_drew (e3),s_drew (c0),s_drew (c1),s_drew (c2),s_drew (c3),s_drew (c4),s_drew (c5),s_drew (d0),s_drew (d1),s_drew (d2),s_drew (d3),s_drew (d4),s_drew (d5)⟩ (fun hHeld=>?_)
  have hb:=b_drew w1
  replace hHeld:((fun W:World=>W.cell? ⟨w.heap.size,2,none⟩=some (.slice (some A) g.ns.length nc)∧W.cell? ⟨w.heap.size+1,0,none⟩=some (.int .i64 (i1:Int))∧W.cell? ⟨w.heap.size+1,1,none⟩=some (.int .i64 (i2:Int))∧W.cell? ⟨w.heap.size+1,2,none⟩=some (.int .i64 fp)∧W.cell? ⟨w.heap.size+1,3,none⟩=some (.int .i64 tp)∧W.cell? (A.add (i1*6))=some (.string (bb X1.nm))∧W.cell? ⟨(A.add (i1*6)).block,(A.add (i1*6)).off+1,none⟩=some (.string (bb X1.lb))∧W.cell? ⟨(A.add (i1*6)).block,(A.add (i1*6)).off+2,none⟩=some (.int .i64 X1.w)∧W.cell? ⟨(A.add (i1*6)).block,(A.add (i1*6)).off+3,none⟩=some (.int .i64 X1.h)∧W.cell? ⟨(A.add (i1*6)).block,(A.add (i1*6)).off+4,none⟩=some (.int .i64 X1.cl)∧W.cell? ⟨(A.add (i1*6)).block,(A.add (i1*6)).off+5,none⟩=some (.slice po1 X1.ps.length pc1)∧W.cell? (A.add (i2*6))=some (.string (bb X2.nm))∧W.cell? ⟨(A.add (i2*6)).block,(A.add (i2*6)).off+1,none⟩=some (.string (bb X2.lb))∧W.cell? ⟨(A.add (i2*6)).block,(A.add (i2*6)).off+2,none⟩=some (.int .i64 X2.w)∧W.cell? ⟨(A.add (i2*6)).block,(A.add (i2*6)).off+3,none⟩=some (.int .i64 X2.h)∧W.cell? ⟨(A.add (i2*6)).block,(A.add (i2*6)).off+4,none⟩=some (.int .i64 X2.cl)∧W.cell? ⟨(A.add (i2*6)).block,(A.add (i2*6)).off+5,none⟩=some (.slice po2 X2.ps.length pc2))) w1.drew:=hHeld
  generalize w1.drew=y0 at hHeld hb ⊢
  refine ton 0 6 (.pointer (some ⟨w.heap.size,2,none⟩)) ?_
  refine ton 1 7 (.slice (some A) g.ns.length nc) ?_
  refine ton 2 8 (.pointer (some ⟨w.heap.size+1,0,none⟩)) ?_
  refine ton 3 9 (.int .i64 (i1:Int)) ?_
  refine ton 4 10 (.pointer (some (A.add (i1*6)))) ?_
  refine ton 5 11 (.agg #[.string (bb X1.nm),.string (bb X1.lb),.int .i64 X1.w,.int .i64 X1.h,.int .i64 X1.cl,.slice po1 X1.ps.length pc1]) ?_
  refine ton 6 12 (.pointer (some ⟨w.heap.size+1,2,none⟩)) ?_
  refine ton 7 13 (.int .i64 fp) ?_
  refine ton 9 15 (.pointer (some ⟨w.heap.size,2,none⟩)) ?_
  refine ton 10 16 (.slice (some A) g.ns.length nc) ?_
  refine ton 11 17 (.pointer (some ⟨w.heap.size+1,1,none⟩)) ?_
  refine ton 12 18 (.int .i64 (i2:Int)) ?_
  refine ton 13 19 (.pointer (some (A.add (i2*6)))) ?_
  refine ton 14 20 (.agg #[.string (bb X2.nm),.string (bb X2.lb),.int .i64 X2.w,.int .i64 X2.h,.int .i64 X2.cl,.slice po2 X2.ps.length pc2]) ?_
  refine ton 15 21 (.pointer (some ⟨w.heap.size+1,3,none⟩)) ?_
  refine ton 16 22 (.int .i64 tp) ?_
  try simp only [sA,sB,sC]
  clear g2 e0 e1 e2 e3 c0 c1 c2 c3 c4 c5 d0 d1 d2 d3 d4 d5
  refine tgo2 (i:=8) (j:=20) (by kernel_rfl) rfl rfl (fun K hK=>?_) (fun K hK=>?_)
  ·
   go_simp
   refine (rref_of X1 (.slice po1 X1.ps.length pc1) fp _ y0 (Lh ((HP1.out.keep HW1.out).keep hb)) (by omega) HR1).mono ?_
   rintro e y01 ⟨rfl,hb'⟩
   refine hK.out _ _ (fun _=>(by obtain ⟨k0,k1,k2,k3,k4,k5,k6,k7,k8,k9,k10,k11,k12,k13,k14,k15,k16⟩:=hHeld;exact ⟨cell_later' hb' k0,cell_later' hb' k1,cell_later' hb' k2,cell_later' hb' k3,cell_later' hb' k4,cell_later' hb' k5,cell_later' hb' k6,cell_later' hb' k7,cell_later' hb' k8,cell_later' hb' k9,cell_later' hb' k10,cell_later' hb' k11,cell_later' hb' k12,cell_later' hb' k13,cell_later' hb' k14,cell_later' hb' k15,cell_later' hb' k16⟩)) (fun hHeld=>?_)
   replace hHeld:=hHeld (by decide)
   clear hK K
   try simp only [sA,sB,sC]
   replace hb:=below_keep hb' hb
   clear hb'
   refine tgo2 (i:=17) (j:=20) (by kernel_rfl) rfl rfl (fun K hK=>?_) (fun K hK=>?_)
   ·
    go_simp
    refine (rref_of X2 (.slice po2 X2.ps.length pc2) tp _ y01 (Lh ((HP2.out.keep HW1.out).keep hb)) (by omega) HR2).mono ?_
    rintro e y12 ⟨rfl,hb'⟩
    refine hK.out _ _ (fun _=>(by obtain ⟨k0,k1,k2,k3,k4,k5,k6,k7,k8,k9,k10,k11,k12,k13,k14,k15,k16⟩:=hHeld;exact ⟨cell_later' hb' k0,cell_later' hb' k1,cell_later' hb' k2,cell_later' hb' k3,cell_later' hb' k4,cell_later' hb' k5,cell_later' hb' k6,cell_later' hb' k7,cell_later' hb' k8,cell_later' hb' k9,cell_later' hb' k10,cell_later' hb' k11,cell_later' hb' k12,cell_later' hb' k13,cell_later' hb' k14,cell_later' hb' k15,cell_later' hb' k16⟩)) (fun hHeld=>?_)
    replace hHeld:=hHeld (by decide)
    clear hK K
    try simp only [sA,sB,sC]
    replace hb:=below_keep hb' hb
    clear hb'
    refine tgo2 (i:=18) (j:=20) (by kernel_rfl) rfl rfl (fun K hK=>?_) (fun K hK=>?_)
    ·
     have hbs:=blk_new y12 #[.string (bb r1.1),.string (bb r1.2),.string (bb r2.1),.string (bb r2.2)] 121
     have hb':=al1 y12 (.cells #[.string (bb r1.1),.string (bb r1.2),.string (bb r2.1),.string (bb r2.2)] 121)
     go_simp
     refine hK.out _ _ (fun _=>(by obtain ⟨k0,k1,k2,k3,k4,k5,k6,k7,k8,k9,k10,k11,k12,k13,k14,k15,k16⟩:=hHeld;exact ⟨s_alloc k0,s_alloc k1,s_alloc k2,s_alloc k3,s_alloc k4,s_alloc k5,s_alloc k6,s_alloc k7,s_alloc k8,s_alloc k9,s_alloc k10,s_alloc k11,s_alloc k12,s_alloc k13,s_alloc k14,s_alloc k15,s_alloc k16⟩)) (fun hHeld=>?_)
     replace hHeld:=hHeld (by decide)
     clear hK K
     try simp only [sA,sB,sC]
     obtain ⟨rb,hrb⟩:∃ rb,y12.heap.size=rb:=⟨_,rfl⟩
     have hle:=hb.size
     rw [hrb] at hbs hle
     simp only [hrb]
     replace hb:=below_keep hb' hb
     generalize y12.alloc (.cells #[.string (bb r1.1),.string (bb r1.2),.string (bb r2.1),.string (bb r2.2)] 121)=y3 at hbs hb hHeld ⊢
     clear hb' hrb
     refine ton 19 25 (.agg #[.int .i64 2,.string ⟨#[]⟩,.slice (some ⟨rb,0,none⟩) 2 2,.slice none 0 0,.slice none 0 0]) ?_
     try simp only [sA,sB,sC]
     refine tgo (i:=20) (by kernel_rfl) rfl (fun K hK=>?_)
     have hs:=blk_new y3 #[.int .i64 0,.string ⟨#[]⟩,.slice none 0 0,.slice none 0 0,.slice none 0 0] 67
     have hb':=al1 y3 (.cells #[.int .i64 0,.string ⟨#[]⟩,.slice none 0 0,.slice none 0 0,.slice none 0 0] 67)
     go_simp
     refine hK.out _ _ (fun _=>(by obtain ⟨k0,k1,k2,k3,k4,k5,k6,k7,k8,k9,k10,k11,k12,k13,k14,k15,k16⟩:=hHeld;exact ⟨s_alloc k0,s_alloc k1,s_alloc k2,s_alloc k3,s_alloc k4,s_alloc k5,s_alloc k6,s_alloc k7,s_alloc k8,s_alloc k9,s_alloc k10,s_alloc k11,s_alloc k12,s_alloc k13,s_alloc k14,s_alloc k15,s_alloc k16⟩)) (fun hHeld=>?_)
     replace hHeld:=hHeld (by decide)
     clear hK K
     try simp only [sA,sB,sC]
     have hls:w1.heap.size≤y3.heap.size:=hb.size
     obtain ⟨s,hss⟩:∃ s,y3.heap.size=s:=⟨_,rfl⟩
     rw [hss] at hs hls
     simp only [hss]
     replace hbs:=blk_keep hb' hbs
     replace hb:=below_keep hb' hb
     generalize y3.alloc (.cells #[.int .i64 0,.string ⟨#[]⟩,.slice none 0 0,.slice none 0 0,.slice none 0 0] 67)=z3 at hs hb hHeld hbs ⊢
     clear hb' hss
     have f0:z3.frozen? ⟨s,0,none⟩=false:=blk_free hs
     have f1:z3.frozen? ⟨s,1,none⟩=false:=blk_free hs
     have f2:z3.frozen? ⟨s,2,none⟩=false:=blk_free hs
     have f3:z3.frozen? ⟨s,3,none⟩=false:=blk_free hs
     have f4:z3.frozen? ⟨s,4,none⟩=false:=blk_free hs
     have g0:z3.cell? ⟨s,0,none⟩=some (.int .i64 0):=by rw [blk_cell hs];rfl
     have g1:z3.cell? ⟨s,1,none⟩=some (.string ⟨#[]⟩):=by rw [blk_cell hs];rfl
     have g2:z3.cell? ⟨s,2,none⟩=some (.slice none 0 0):=by rw [blk_cell hs];rfl
     have g3:z3.cell? ⟨s,3,none⟩=some (.slice none 0 0):=by rw [blk_cell hs];rfl
     have g4:z3.cell? ⟨s,4,none⟩=some (.slice none 0 0):=by rw [blk_cell hs];rfl
     have hx:=blk_set5 hs (.int .i64 2) (.string ⟨#[]⟩) (.slice (some ⟨rb,0,none⟩) 2 2) (.slice none 0 0) (.slice none 0 0)
     have hq3:=HQ3.out
     refine tgo (i:=21) (by kernel_rfl) rfl (fun K hK=>?_)
     go_simp
     refine hK.out _ _ (fun h=>absurd rfl h) (fun hHeld=>?_)
     clear hK K hHeld
     try simp only [sA,sB,sC]
     refine tdone (by kernel_rfl) ?_ _
     have hbt:=HW1.out.trans (hb.mono (by omega))
     have hne:=blk_ne hs (blk_keep hb HK2.out) (by decide)
     have hnr:=blk_ne hbs hs (by decide)
     exact ⟨rfl,(HM.out _ _).2 ⟨s,rb,rfl,by omega,by omega,⟨none,0,hx,World.ownsRow_nil ..⟩,blk_far (blk_far (blk_far (blk_far (blk_far hbs hnr _) hnr _) hnr _) hnr _) hnr _,below_set5 hbt (by omega) _ _ _ _ _,blk_far5 (blk_keep hb HK2.out) (Ne.symm hne) _ _ _ _ _,blk_far5 (blk_keep hb HK3.out) (by omega) _ _ _ _ _,by omega⟩⟩
    ·
     have hs:=blk_new y12 #[.int .i64 0,.string ⟨#[]⟩,.slice none 0 0,.slice none 0 0,.slice none 0 0] 67
     have hb':=al1 y12 (.cells #[.int .i64 0,.string ⟨#[]⟩,.slice none 0 0,.slice none 0 0,.slice none 0 0] 67)
     go_simp
     refine hK.out _ _ (fun _=>(by obtain ⟨k0,k1,k2,k3,k4,k5,k6,k7,k8,k9,k10,k11,k12,k13,k14,k15,k16⟩:=hHeld;exact ⟨s_alloc k0,s_alloc k1,s_alloc k2,s_alloc k3,s_alloc k4,s_alloc k5,s_alloc k6,s_alloc k7,s_alloc k8,s_alloc k9,s_alloc k10,s_alloc k11,s_alloc k12,s_alloc k13,s_alloc k14,s_alloc k15,s_alloc k16⟩)) (fun hHeld=>?_)
     replace hHeld:=hHeld (by decide)
     clear hK K
     try simp only [sA,sB,sC]
     have hls:w1.heap.size≤y12.heap.size:=hb.size
     obtain ⟨s,hss⟩:∃ s,y12.heap.size=s:=⟨_,rfl⟩
     rw [hss] at hs hls
     simp only [hss]
     replace hb:=below_keep hb' hb
     generalize y12.alloc (.cells #[.int .i64 0,.string ⟨#[]⟩,.slice none 0 0,.slice none 0 0,.slice none 0 0] 67)=z2 at hs hb hHeld ⊢
     clear hb' hss
     refine tgo (i:=18) (by kernel_rfl) rfl (fun K hK=>?_)
     have hbs:=blk_new z2 #[.string (bb r1.1),.string (bb r1.2),.string (bb r2.1),.string (bb r2.2)] 121
     have hb':=al1 z2 (.cells #[.string (bb r1.1),.string (bb r1.2),.string (bb r2.1),.string (bb r2.2)] 121)
     go_simp
     refine hK.out _ _ (fun _=>(by obtain ⟨k0,k1,k2,k3,k4,k5,k6,k7,k8,k9,k10,k11,k12,k13,k14,k15,k16⟩:=hHeld;exact ⟨s_alloc k0,s_alloc k1,s_alloc k2,s_alloc k3,s_alloc k4,s_alloc k5,s_alloc k6,s_alloc k7,s_alloc k8,s_alloc k9,s_alloc k10,s_alloc k11,s_alloc k12,s_alloc k13,s_alloc k14,s_alloc k15,s_alloc k16⟩)) (fun hHeld=>?_)
     replace hHeld:=hHeld (by decide)
     clear hK K
     try simp only [sA,sB,sC]
     obtain ⟨rb,hrb⟩:∃ rb,z2.heap.size=rb:=⟨_,rfl⟩
     have hle:=hb.size
     rw [hrb] at hbs hle
     simp only [hrb]
     replace hs:=blk_keep hb' hs
     replace hb:=below_keep hb' hb
     generalize z2.alloc (.cells #[.string (bb r1.1),.string (bb r1.2),.string (bb r2.1),.string (bb r2.2)] 121)=y3a at hbs hb hHeld hs ⊢
     clear hb' hrb
     refine ton 19 25 (.agg #[.int .i64 2,.string ⟨#[]⟩,.slice (some ⟨rb,0,none⟩) 2 2,.slice none 0 0,.slice none 0 0]) ?_
     try simp only [sA,sB,sC]
     have f0:y3a.frozen? ⟨s,0,none⟩=false:=blk_free hs
     have f1:y3a.frozen? ⟨s,1,none⟩=false:=blk_free hs
     have f2:y3a.frozen? ⟨s,2,none⟩=false:=blk_free hs
     have f3:y3a.frozen? ⟨s,3,none⟩=false:=blk_free hs
     have f4:y3a.frozen? ⟨s,4,none⟩=false:=blk_free hs
     have g0:y3a.cell? ⟨s,0,none⟩=some (.int .i64 0):=by rw [blk_cell hs];rfl
     have g1:y3a.cell? ⟨s,1,none⟩=some (.string ⟨#[]⟩):=by rw [blk_cell hs];rfl
     have g2:y3a.cell? ⟨s,2,none⟩=some (.slice none 0 0):=by rw [blk_cell hs];rfl
     have g3:y3a.cell? ⟨s,3,none⟩=some (.slice none 0 0):=by rw [blk_cell hs];rfl
     have g4:y3a.cell? ⟨s,4,none⟩=some (.slice none 0 0):=by rw [blk_cell hs];rfl
     have hx:=blk_set5 hs (.int .i64 2) (.string ⟨#[]⟩) (.slice (some ⟨rb,0,none⟩) 2 2) (.slice none 0 0) (.slice none 0 0)
     have hq3:=HQ3.out
     refine tgo (i:=21) (by kernel_rfl) rfl (fun K hK=>?_)
     go_simp
     refine hK.out _ _ (fun h=>absurd rfl h) (fun hHeld=>?_)
     clear hK K hHeld
     try simp only [sA,sB,sC]
     refine tdone (by kernel_rfl) ?_ _
     have hbt:=HW1.out.trans (hb.mono (by omega))
     have hne:=blk_ne hs (blk_keep hb HK2.out) (by decide)
     have hnr:=blk_ne hbs hs (by decide)
     exact ⟨rfl,(HM.out _ _).2 ⟨s,rb,rfl,by omega,by omega,⟨none,0,hx,World.ownsRow_nil ..⟩,blk_far (blk_far (blk_far (blk_far (blk_far hbs hnr _) hnr _) hnr _) hnr _) hnr _,below_set5 hbt (by omega) _ _ _ _ _,blk_far5 (blk_keep hb HK2.out) (Ne.symm hne) _ _ _ _ _,blk_far5 (blk_keep hb HK3.out) (by omega) _ _ _ _ _,by omega⟩⟩
   ·
    have hs:=blk_new y01 #[.int .i64 0,.string ⟨#[]⟩,.slice none 0 0,.slice none 0 0,.slice none 0 0] 67
    have hb':=al1 y01 (.cells #[.int .i64 0,.string ⟨#[]⟩,.slice none 0 0,.slice none 0 0,.slice none 0 0] 67)
    go_simp
    refine hK.out _ _ (fun _=>(by obtain ⟨k0,k1,k2,k3,k4,k5,k6,k7,k8,k9,k10,k11,k12,k13,k14,k15,k16⟩:=hHeld;exact ⟨s_alloc k0,s_alloc k1,s_alloc k2,s_alloc k3,s_alloc k4,s_alloc k5,s_alloc k6,s_alloc k7,s_alloc k8,s_alloc k9,s_alloc k10,s_alloc k11,s_alloc k12,s_alloc k13,s_alloc k14,s_alloc k15,s_alloc k16⟩)) (fun hHeld=>?_)
    replace hHeld:=hHeld (by decide)
    clear hK K
    try simp only [sA,sB,sC]
    have hls:w1.heap.size≤y01.heap.size:=hb.size
    obtain ⟨s,hss⟩:∃ s,y01.heap.size=s:=⟨_,rfl⟩
    rw [hss] at hs hls
    simp only [hss]
    replace hb:=below_keep hb' hb
    generalize y01.alloc (.cells #[.int .i64 0,.string ⟨#[]⟩,.slice none 0 0,.slice none 0 0,.slice none 0 0] 67)=z1 at hs hb hHeld ⊢
    clear hb' hss
    refine tgo (i:=17) (by kernel_rfl) rfl (fun K hK=>?_)
    go_simp
    refine (rref_of X2 (.slice po2 X2.ps.length pc2) tp _ z1 (Lh ((HP2.out.keep HW1.out).keep hb)) (by omega) HR2).mono ?_
    rintro e y12a ⟨rfl,hb'⟩
    refine hK.out _ _ (fun _=>(by obtain ⟨k0,k1,k2,k3,k4,k5,k6,k7,k8,k9,k10,k11,k12,k13,k14,k15,k16⟩:=hHeld;exact ⟨cell_later' hb' k0,cell_later' hb' k1,cell_later' hb' k2,cell_later' hb' k3,cell_later' hb' k4,cell_later' hb' k5,cell_later' hb' k6,cell_later' hb' k7,cell_later' hb' k8,cell_later' hb' k9,cell_later' hb' k10,cell_later' hb' k11,cell_later' hb' k12,cell_later' hb' k13,cell_later' hb' k14,cell_later' hb' k15,cell_later' hb' k16⟩)) (fun hHeld=>?_)
    replace hHeld:=hHeld (by decide)
    clear hK K
    try simp only [sA,sB,sC]
    replace hs:=blk_keep hb' hs
    replace hb:=below_keep hb' hb
    clear hb'
    refine tgo (i:=18) (by kernel_rfl) rfl (fun K hK=>?_)
    have hbs:=blk_new y12a #[.string (bb r1.1),.string (bb r1.2),.string (bb r2.1),.string (bb r2.2)] 121
    have hb':=al1 y12a (.cells #[.string (bb r1.1),.string (bb r1.2),.string (bb r2.1),.string (bb r2.2)] 121)
    go_simp
    refine hK.out _ _ (fun _=>(by obtain ⟨k0,k1,k2,k3,k4,k5,k6,k7,k8,k9,k10,k11,k12,k13,k14,k15,k16⟩:=hHeld;exact ⟨s_alloc k0,s_alloc k1,s_alloc k2,s_alloc k3,s_alloc k4,s_alloc k5,s_alloc k6,s_alloc k7,s_alloc k8,s_alloc k9,s_alloc k10,s_alloc k11,s_alloc k12,s_alloc k13,s_alloc k14,s_alloc k15,s_alloc k16⟩)) (fun hHeld=>?_)
    replace hHeld:=hHeld (by decide)
    clear hK K
    try simp only [sA,sB,sC]
    obtain ⟨rb,hrb⟩:∃ rb,y12a.heap.size=rb:=⟨_,rfl⟩
    have hle:=hb.size
    rw [hrb] at hbs hle
    simp only [hrb]
    replace hs:=blk_keep hb' hs
    replace hb:=below_keep hb' hb
    generalize y12a.alloc (.cells #[.string (bb r1.1),.string (bb r1.2),.string (bb r2.1),.string (bb r2.2)] 121)=y3a at hbs hb hHeld hs ⊢
    clear hb' hrb
    refine ton 19 25 (.agg #[.int .i64 2,.string ⟨#[]⟩,.slice (some ⟨rb,0,none⟩) 2 2,.slice none 0 0,.slice none 0 0]) ?_
    try simp only [sA,sB,sC]
    have f0:y3a.frozen? ⟨s,0,none⟩=false:=blk_free hs
    have f1:y3a.frozen? ⟨s,1,none⟩=false:=blk_free hs
    have f2:y3a.frozen? ⟨s,2,none⟩=false:=blk_free hs
    have f3:y3a.frozen? ⟨s,3,none⟩=false:=blk_free hs
    have f4:y3a.frozen? ⟨s,4,none⟩=false:=blk_free hs
    have g0:y3a.cell? ⟨s,0,none⟩=some (.int .i64 0):=by rw [blk_cell hs];rfl
    have g1:y3a.cell? ⟨s,1,none⟩=some (.string ⟨#[]⟩):=by rw [blk_cell hs];rfl
    have g2:y3a.cell? ⟨s,2,none⟩=some (.slice none 0 0):=by rw [blk_cell hs];rfl
    have g3:y3a.cell? ⟨s,3,none⟩=some (.slice none 0 0):=by rw [blk_cell hs];rfl
    have g4:y3a.cell? ⟨s,4,none⟩=some (.slice none 0 0):=by rw [blk_cell hs];rfl
    have hx:=blk_set5 hs (.int .i64 2) (.string ⟨#[]⟩) (.slice (some ⟨rb,0,none⟩) 2 2) (.slice none 0 0) (.slice none 0 0)
    have hq3:=HQ3.out
    refine tgo (i:=21) (by kernel_rfl) rfl (fun K hK=>?_)
    go_simp
    refine hK.out _ _ (fun h=>absurd rfl h) (fun hHeld=>?_)
    clear hK K hHeld
    try simp only [sA,sB,sC]
    refine tdone (by kernel_rfl) ?_ _
    have hbt:=HW1.out.trans (hb.mono (by omega))
    have hne:=blk_ne hs (blk_keep hb HK2.out) (by decide)
    have hnr:=blk_ne hbs hs (by decide)
    exact ⟨rfl,(HM.out _ _).2 ⟨s,rb,rfl,by omega,by omega,⟨none,0,hx,World.ownsRow_nil ..⟩,blk_far (blk_far (blk_far (blk_far (blk_far hbs hnr _) hnr _) hnr _) hnr _) hnr _,below_set5 hbt (by omega) _ _ _ _ _,blk_far5 (blk_keep hb HK2.out) (Ne.symm hne) _ _ _ _ _,blk_far5 (blk_keep hb HK3.out) (by omega) _ _ _ _ _,by omega⟩⟩
  ·
   have hs:=blk_new y0 #[.int .i64 0,.string ⟨#[]⟩,.slice none 0 0,.slice none 0 0,.slice none 0 0] 67
   have hb':=al1 y0 (.cells #[.int .i64 0,.string ⟨#[]⟩,.slice none 0 0,.slice none 0 0,.slice none 0 0] 67)
   go_simp
   refine hK.out _ _ (fun _=>(by obtain ⟨k0,k1,k2,k3,k4,k5,k6,k7,k8,k9,k10,k11,k12,k13,k14,k15,k16⟩:=hHeld;exact ⟨s_alloc k0,s_alloc k1,s_alloc k2,s_alloc k3,s_alloc k4,s_alloc k5,s_alloc k6,s_alloc k7,s_alloc k8,s_alloc k9,s_alloc k10,s_alloc k11,s_alloc k12,s_alloc k13,s_alloc k14,s_alloc k15,s_alloc k16⟩)) (fun hHeld=>?_)
   replace hHeld:=hHeld (by decide)
   clear hK K
   try simp only [sA,sB,sC]
   have hls:w1.heap.size≤y0.heap.size:=hb.size
   obtain ⟨s,hss⟩:∃ s,y0.heap.size=s:=⟨_,rfl⟩
   rw [hss] at hs hls
   simp only [hss]
   replace hb:=below_keep hb' hb
   generalize y0.alloc (.cells #[.int .i64 0,.string ⟨#[]⟩,.slice none 0 0,.slice none 0 0,.slice none 0 0] 67)=z0 at hs hb hHeld ⊢
   clear hb' hss
   refine tgo (i:=8) (by kernel_rfl) rfl (fun K hK=>?_)
   go_simp
   refine (rref_of X1 (.slice po1 X1.ps.length pc1) fp _ z0 (Lh ((HP1.out.keep HW1.out).keep hb)) (by omega) HR1).mono ?_
   rintro e y01a ⟨rfl,hb'⟩
   refine hK.out _ _ (fun _=>(by obtain ⟨k0,k1,k2,k3,k4,k5,k6,k7,k8,k9,k10,k11,k12,k13,k14,k15,k16⟩:=hHeld;exact ⟨cell_later' hb' k0,cell_later' hb' k1,cell_later' hb' k2,cell_later' hb' k3,cell_later' hb' k4,cell_later' hb' k5,cell_later' hb' k6,cell_later' hb' k7,cell_later' hb' k8,cell_later' hb' k9,cell_later' hb' k10,cell_later' hb' k11,cell_later' hb' k12,cell_later' hb' k13,cell_later' hb' k14,cell_later' hb' k15,cell_later' hb' k16⟩)) (fun hHeld=>?_)
   replace hHeld:=hHeld (by decide)
   clear hK K
   try simp only [sA,sB,sC]
   replace hs:=blk_keep hb' hs
   replace hb:=below_keep hb' hb
   clear hb'
   refine tgo (i:=17) (by kernel_rfl) rfl (fun K hK=>?_)
   go_simp
   refine (rref_of X2 (.slice po2 X2.ps.length pc2) tp _ y01a (Lh ((HP2.out.keep HW1.out).keep hb)) (by omega) HR2).mono ?_
   rintro e y12a ⟨rfl,hb'⟩
   refine hK.out _ _ (fun _=>(by obtain ⟨k0,k1,k2,k3,k4,k5,k6,k7,k8,k9,k10,k11,k12,k13,k14,k15,k16⟩:=hHeld;exact ⟨cell_later' hb' k0,cell_later' hb' k1,cell_later' hb' k2,cell_later' hb' k3,cell_later' hb' k4,cell_later' hb' k5,cell_later' hb' k6,cell_later' hb' k7,cell_later' hb' k8,cell_later' hb' k9,cell_later' hb' k10,cell_later' hb' k11,cell_later' hb' k12,cell_later' hb' k13,cell_later' hb' k14,cell_later' hb' k15,cell_later' hb' k16⟩)) (fun hHeld=>?_)
   replace hHeld:=hHeld (by decide)
   clear hK K
   try simp only [sA,sB,sC]
   replace hs:=blk_keep hb' hs
   replace hb:=below_keep hb' hb
   clear hb'
   refine tgo (i:=18) (by kernel_rfl) rfl (fun K hK=>?_)
   have hbs:=blk_new y12a #[.string (bb r1.1),.string (bb r1.2),.string (bb r2.1),.string (bb r2.2)] 121
   have hb':=al1 y12a (.cells #[.string (bb r1.1),.string (bb r1.2),.string (bb r2.1),.string (bb r2.2)] 121)
   go_simp
   refine hK.out _ _ (fun _=>(by obtain ⟨k0,k1,k2,k3,k4,k5,k6,k7,k8,k9,k10,k11,k12,k13,k14,k15,k16⟩:=hHeld;exact ⟨s_alloc k0,s_alloc k1,s_alloc k2,s_alloc k3,s_alloc k4,s_alloc k5,s_alloc k6,s_alloc k7,s_alloc k8,s_alloc k9,s_alloc k10,s_alloc k11,s_alloc k12,s_alloc k13,s_alloc k14,s_alloc k15,s_alloc k16⟩)) (fun hHeld=>?_)
   replace hHeld:=hHeld (by decide)
   clear hK K
   try simp only [sA,sB,sC]
   obtain ⟨rb,hrb⟩:∃ rb,y12a.heap.size=rb:=⟨_,rfl⟩
   have hle:=hb.size
   rw [hrb] at hbs hle
   simp only [hrb]
   replace hs:=blk_keep hb' hs
   replace hb:=below_keep hb' hb
   generalize y12a.alloc (.cells #[.string (bb r1.1),.string (bb r1.2),.string (bb r2.1),.string (bb r2.2)] 121)=y3a at hbs hb hHeld hs ⊢
   clear hb' hrb
   refine ton 19 25 (.agg #[.int .i64 2,.string ⟨#[]⟩,.slice (some ⟨rb,0,none⟩) 2 2,.slice none 0 0,.slice none 0 0]) ?_
   try simp only [sA,sB,sC]
   have f0:y3a.frozen? ⟨s,0,none⟩=false:=blk_free hs
   have f1:y3a.frozen? ⟨s,1,none⟩=false:=blk_free hs
   have f2:y3a.frozen? ⟨s,2,none⟩=false:=blk_free hs
   have f3:y3a.frozen? ⟨s,3,none⟩=false:=blk_free hs
   have f4:y3a.frozen? ⟨s,4,none⟩=false:=blk_free hs
   have g0:y3a.cell? ⟨s,0,none⟩=some (.int .i64 0):=by rw [blk_cell hs];rfl
   have g1:y3a.cell? ⟨s,1,none⟩=some (.string ⟨#[]⟩):=by rw [blk_cell hs];rfl
   have g2:y3a.cell? ⟨s,2,none⟩=some (.slice none 0 0):=by rw [blk_cell hs];rfl
   have g3:y3a.cell? ⟨s,3,none⟩=some (.slice none 0 0):=by rw [blk_cell hs];rfl
   have g4:y3a.cell? ⟨s,4,none⟩=some (.slice none 0 0):=by rw [blk_cell hs];rfl
   have hx:=blk_set5 hs (.int .i64 2) (.string ⟨#[]⟩) (.slice (some ⟨rb,0,none⟩) 2 2) (.slice none 0 0) (.slice none 0 0)
   have hq3:=HQ3.out
   refine tgo (i:=21) (by kernel_rfl) rfl (fun K hK=>?_)
   go_simp
   refine hK.out _ _ (fun h=>absurd rfl h) (fun hHeld=>?_)
   clear hK K hHeld
   try simp only [sA,sB,sC]
   refine tdone (by kernel_rfl) ?_ _
   have hbt:=HW1.out.trans (hb.mono (by omega))
   have hne:=blk_ne hs (blk_keep hb HK2.out) (by decide)
   have hnr:=blk_ne hbs hs (by decide)
   exact ⟨rfl,(HM.out _ _).2 ⟨s,rb,rfl,by omega,by omega,⟨none,0,hx,World.ownsRow_nil ..⟩,blk_far (blk_far (blk_far (blk_far (blk_far hbs hnr _) hnr _) hnr _) hnr _) hnr _,below_set5 hbt (by omega) _ _ _ _ _,blk_far5 (blk_keep hb HK2.out) (Ne.symm hne) _ _ _ _ _,blk_far5 (blk_keep hb HK3.out) (by omega) _ _ _ _ _,by omega⟩⟩
 obtain ⟨n0,hn0⟩:∃ n0,w.heap.size=n0:=⟨_,rfl⟩
 have HN0:=Lh hn0
 rw [hn0] at HM
 clear hn0
 intro a1 w1 hm
 obtain ⟨s,rb,ha,hs0,hr0,⟨ao,ac,hsb⟩,hrb,hb,he,hr,hsr⟩:=(HM.out _ _).1 hm
 obtain ⟨f,rfl⟩:=ha.use
 clear HM hm M ha
 obtain ⟨l0,hl0⟩:∃ l,([]:List Pr)=l:=⟨_,rfl⟩
 rw [hl0] at hsb
 have zl0:l0.length≤0:=by rw [← hl0];first | (simp;done) | (rw [List.length_append];split <;> simp only [List.length_cons,List.length_nil] <;> omega)
 have HQl0:=Lh hl0
 clear hl0
 have HSB:=Lh hsb
 have HB:=Lh hb
 have HE:=Lh he
 have HR:=Lh hr
 have HRB:=Lh hrb
 have hlt:=blk_lt he
 have hes:=blk_ne he hsb.1 (by decide)
 have hbs:=blk_ne hrb hsb.1 (by decide)
 have d3:w1.cell? ⟨s,3,none⟩=some (.slice ao l0.length ac):=by rw [blk_cell hsb.1];rfl
 have fz:w1.frozen? ⟨s,3,none⟩=false:=blk_free hsb.1
 have c4:w1.cell? ⟨n0+1,4,none⟩=some (.string L):=by rw [blk_cell he];rfl
 clear hsb hb he hr hrb
 obtain ⟨M,HM⟩:=EdgM.box w n0 #[.int .i64 (i1:Int),.int .i64 (i2:Int),.int .i64 fp,.int .i64 tp,.string L,.int .i64 wt,.int .i64 ln] r1 r2 (l0 ++ (if lb=[] then [] else [(wLabel,lb)]))
 refine seq_mid M ?_ ?_
 ·by_cases g:lb=[]
  case pos =>
   have bg:L.toList.isEmpty=true:=by rw [← HL.out,g,ByteArray.toList_eq];rfl
   have hgo:l0=(l0 ++ (if lb=[] then [] else [(wLabel,lb)])):=by rw [if_pos g,List.append_nil]
   have HGO:=Lh hgo
   clear g hgo
   go_wp2
   exact (HM.out _ _).2 ⟨s,rb,rfl,hs0,hr0,⟨ao,ac,by rw [← HGO.out];exact HSB.out⟩,HRB.out,HB.out,HE.out,HR.out,hsr⟩
  have bg:L.toList.isEmpty=false:=by rw [← HL.out,ByteArray.toList_eq];simpa using g
  have hgo:l0 ++ [(wLabel,lb)]=(l0 ++ (if lb=[] then [] else [(wLabel,lb)])):=by rw [if_neg g]
  have HGO:=Lh hgo
  clear g hgo
  have HD:=Lh (Below.refl w1.heap.size w1)
  go_wp2_with (at_builtin;refine ls_pr Tryz.underlying65 info_of_cla rfl (.tmp 30) (.tmp 34) rfl n0 _ _ l0 (wLabel,lb) ⟨#[108,97,98,101,108]⟩ L (by rw [← HL.out];rfl) w1.heap.size rfl rfl (Lh (row_below HSB.out.2 (al1 ..))) (Lh (blk_new ..)) (by omega) (by simp;omega) ?_;intro gg cap V hown hkp;have hbv:=Lh (al1 w1 (.cells #[.string ⟨#[108,97,98,101,108]⟩,.string L] 69));have hS2:=hkp.out.2 _ _ _ (blk_keep hbv.out HSB.out.1) (by decide);have fz2:V.frozen? ⟨s,3,none⟩=false:=blk_free hS2;have d32:V.cell? ⟨s,3,none⟩=some (.slice ao l0.length ac):=(by rw [blk_cell hS2];rfl);clear hS2)
  have hbv:=hbv.out
  have hE2:=hkp.out.2 _ _ _ (blk_keep hbv HE.out) (by decide)
  have hR2:=hkp.out.2 _ _ _ (blk_keep hbv HR.out) (by decide)
  have hB2:=hkp.out.2 _ _ _ (blk_keep hbv HRB.out) (by decide)
  have hsb2:=HSB.out.store hbv hown.out hkp.out
  rw [HGO.out] at hsb2
  have hBV:=HB.out.trans ((hbv.mono (by omega)).trans hkp.out.1)
  exact (HM.out _ _).2 ⟨s,rb,rfl,hs0,hr0,⟨_,_,hsb2⟩,blk_far hB2 hbs _,hBV.setCell hs0 _,blk_far hE2 hes _,blk_far hR2 (Ne.symm hsr) _,hsr⟩
 intro a1 w1 hm
 obtain ⟨s,rb,ha,hs0,hr0,⟨ao,ac,hsb⟩,hrb,hb,he,hr,hsr⟩:=(HM.out _ _).1 hm
 obtain ⟨f,rfl⟩:=ha.use
 clear HM hm M ha
 obtain ⟨l1,hl1⟩:∃ l,(l0 ++ (if lb=[] then [] else [(wLabel,lb)]))=l:=⟨_,rfl⟩
 rw [hl1] at hsb
 have zl1:l1.length≤1:=by rw [← hl1];first | (simp;done) | (rw [List.length_append];split <;> simp only [List.length_cons,List.length_nil] <;> omega)
 have HQl1:=Lh hl1
 clear hl1
 have HSB:=Lh hsb
 have HB:=Lh hb
 have HE:=Lh he
 have HR:=Lh hr
 have HRB:=Lh hrb
 have hlt:=blk_lt he
 have hes:=blk_ne he hsb.1 (by decide)
 have hbs:=blk_ne hrb hsb.1 (by decide)
 have d3:w1.cell? ⟨s,3,none⟩=some (.slice ao l1.length ac):=by rw [blk_cell hsb.1];rfl
 have fz:w1.frozen? ⟨s,3,none⟩=false:=blk_free hsb.1
 have c6:w1.cell? ⟨n0+1,6,none⟩=some (.int .i64 ln):=by rw [blk_cell he];rfl
 have hwr:IntKind.i64.wrap (1000*ln)=1000*ln:=IntWalk.i64_in _ (by omega)
 clear hsb hb he hr hrb
 obtain ⟨M,HM⟩:=EdgM.box w n0 #[.int .i64 (i1:Int),.int .i64 (i2:Int),.int .i64 fp,.int .i64 tp,.string L,.int .i64 wt,.int .i64 ln] r1 r2 (l1 ++ (if ln=1 then [] else [(wLen,fmtL (1000*ln))]))
 refine seq_mid M ?_ ?_
 ·by_cases g:ln=1
  case pos =>
   have bg:(ln != 1)=false:=by rw [g];rfl
   have hgo:l1=(l1 ++ (if ln=1 then [] else [(wLen,fmtL (1000*ln))])):=by rw [if_pos g,List.append_nil]
   have HGO:=Lh hgo
   clear g hgo
   go_wp2
   exact (HM.out _ _).2 ⟨s,rb,rfl,hs0,hr0,⟨ao,ac,by rw [← HGO.out];exact HSB.out⟩,HRB.out,HB.out,HE.out,HR.out,hsr⟩
  have bg:(ln != 1)=true:=by rw [bne_iff_ne];exact g
  have hgo:l1 ++ [(wLen,fmtL (1000*ln))]=(l1 ++ (if ln=1 then [] else [(wLen,fmtL (1000*ln))])):=by rw [if_neg g]
  have HGO:=Lh hgo
  clear g hgo
  go_wp2_with fail
  refine tstart (fun W:World=>W.cell? ⟨n0+1,6,none⟩=some (.int .i64 ln)∧W.cell? ⟨s,3,none⟩=some (.slice ao l1.length ac)) 10 (by kernel_rfl) (⟨s_drew c6,s_drew d3⟩) (fun hHeld=>?_)
  refine ton 0 40 (.pointer (some ⟨s,3,none⟩)) ?_
  refine ton 1 41 (.slice ao l1.length ac) ?_
  refine ton 2 42 (.pointer (some ⟨n0+1,6,none⟩)) ?_
  refine ton 3 43 (.int .i64 ln) ?_
  refine ton 4 44 (.int .i64 (1000*ln)) ?_
  try simp only [sA,sB,sC]
  refine tgo (i:=5) (by kernel_rfl) rfl (fun K hK=>?_)
  go_simp
  refine (rfmt_of (1000*ln) F2 _ (by omega) (by omega) HF2).mono ?_
  rintro e w2 ⟨rfl,rfl⟩
  refine hK.out _ _ (fun _=>(by (try dsimp only at hHeld);repeat (first | assumption | (with_reducible refine s_drew ?_) | (with_reducible refine s_alloc ?_) | (with_reducible refine s_set (by simp only;omega) ?_)))) (fun hHeld=>?_)
  replace hHeld:=hHeld (by decide)
  clear hK K
  try simp only [sA,sB,sC]
  refine ton 6 46 (.agg #[.string ⟨#[108,101,110]⟩,.string F2]) ?_
  try simp only [sA,sB,sC]
  refine tgo (i:=7) (by kernel_rfl) rfl (fun K hK=>?_)
  go_simp
  refine hK.out _ _ (fun _=>⟨s_drew (s_alloc c6),s_drew (s_alloc d3)⟩) (fun hHeld=>?_)
  replace hHeld:=hHeld (by decide)
  clear hK K
  try simp only [sA,sB,sC]
  have hbv:Below w1.heap.size w1 (w1.alloc (.cells #[.string ⟨#[108,101,110]⟩,.string F2] 69)).drew:=(al1 ..).drew
  have hkn:=blk_new w1 #[.string ⟨#[108,101,110]⟩,.string F2] 69
  have hzv:=hbv.size
  refine tgo (i:=8) (by kernel_rfl) rfl (fun K hK=>?_)
  refine st_pr Tryz.underlying65 info_of_cla rfl (.tmp 41) (.tmp 47) rfl n0 _ _ l1 (wLen,fmtL (1000*ln)) ⟨#[108,101,110]⟩ F2 (by rw [← HF2.out];rfl) w1.heap.size rfl rfl (Lh (row_below HSB.out.2 hbv)) (Lh hkn) (by omega) (by omega) ?_
  intro gg cap V hown hkp
  have hE2:=hkp.out.2 _ _ _ (blk_keep hbv HE.out) (by decide)
  have hS2:=hkp.out.2 _ _ _ (blk_keep hbv HSB.out.1) (by decide)
  have hR2:=hkp.out.2 _ _ _ (blk_keep hbv HR.out) (by decide)
  have hB2:=hkp.out.2 _ _ _ (blk_keep hbv HRB.out) (by decide)
  have fz2:V.frozen? ⟨s,3,none⟩=false:=blk_free hS2
  have d32:V.cell? ⟨s,3,none⟩=some (.slice ao l1.length ac):=by rw [blk_cell hS2];rfl
  refine hK.out _ _ (fun _=>⟨by rw [blk_cell hE2];rfl,d32⟩) (fun hHeld=>?_)
  replace hHeld:=hHeld (by decide)
  clear hK K
  try simp only [sA,sB,sC]
  refine ton 9 49 (.pointer (some ⟨s,3,none⟩)) ?_
  try simp only [sA,sB,sC]
  refine tgo (i:=10) (by kernel_rfl) rfl (fun K hK=>?_)
  go_simp
  refine hK.out _ _ (fun h=>absurd rfl h) (fun hHeld=>?_)
  clear hK K hHeld
  try simp only [sA,sB,sC]
  refine tdone (by kernel_rfl) ?_ _
  have hsb2:=HSB.out.store hbv hown.out hkp.out
  rw [HGO.out] at hsb2
  have hBV:=HB.out.trans ((hbv.mono (by omega)).trans hkp.out.1)
  exact ⟨rfl,(HM.out _ _).2 ⟨s,rb,rfl,hs0,hr0,⟨_,_,hsb2⟩,blk_far hB2 hbs _,hBV.setCell hs0 _,blk_far hE2 hes _,blk_far hR2 (Ne.symm hsr) _,hsr⟩⟩
 intro a1 w1 hm
 obtain ⟨s,rb,ha,hs0,hr0,⟨ao,ac,hsb⟩,hrb,hb,he,hr,hsr⟩:=(HM.out _ _).1 hm
 obtain ⟨f,rfl⟩:=ha.use
 clear HM hm M ha
 obtain ⟨l2,hl2⟩:∃ l,(l1 ++ (if ln=1 then [] else [(wLen,fmtL (1000*ln))]))=l:=⟨_,rfl⟩
 rw [hl2] at hsb
 have zl2:l2.length≤2:=by rw [← hl2];first | (simp;done) | (rw [List.length_append];split <;> simp only [List.length_cons,List.length_nil] <;> omega)
 have HQl2:=Lh hl2
 clear hl2
 have HSB:=Lh hsb
 have HB:=Lh hb
 have HE:=Lh he
 have HR:=Lh hr
 have HRB:=Lh hrb
 have hlt:=blk_lt he
 have hes:=blk_ne he hsb.1 (by decide)
 have hbs:=blk_ne hrb hsb.1 (by decide)
 have d3:w1.cell? ⟨s,3,none⟩=some (.slice ao l2.length ac):=by rw [blk_cell hsb.1];rfl
 have fz:w1.frozen? ⟨s,3,none⟩=false:=blk_free hsb.1
 have c5:w1.cell? ⟨n0+1,5,none⟩=some (.int .i64 wt):=by rw [blk_cell he];rfl
 have hwr:IntKind.i64.wrap (1000*wt)=1000*wt:=IntWalk.i64_in _ (by omega)
 clear hsb hb he hr hrb
 obtain ⟨M,HM⟩:=EdgM.box w n0 #[.int .i64 (i1:Int),.int .i64 (i2:Int),.int .i64 fp,.int .i64 tp,.string L,.int .i64 wt,.int .i64 ln] r1 r2 (l2 ++ (if wt=1 then [] else [(wWeight,fmtL (1000*wt))]))
 refine seq_mid M ?_ ?_
 ·by_cases g:wt=1
  case pos =>
   have bg:(wt != 1)=false:=by rw [g];rfl
   have hgo:l2=(l2 ++ (if wt=1 then [] else [(wWeight,fmtL (1000*wt))])):=by rw [if_pos g,List.append_nil]
   have HGO:=Lh hgo
   clear g hgo
   go_wp2
   exact (HM.out _ _).2 ⟨s,rb,rfl,hs0,hr0,⟨ao,ac,by rw [← HGO.out];exact HSB.out⟩,HRB.out,HB.out,HE.out,HR.out,hsr⟩
  have bg:(wt != 1)=true:=by rw [bne_iff_ne];exact g
  have hgo:l2 ++ [(wWeight,fmtL (1000*wt))]=(l2 ++ (if wt=1 then [] else [(wWeight,fmtL (1000*wt))])):=by rw [if_neg g]
  have HGO:=Lh hgo
  clear g hgo
  go_wp2_with fail
  refine tstart (fun W:World=>W.cell? ⟨n0+1,5,none⟩=some (.int .i64 wt)∧W.cell? ⟨s,3,none⟩=some (.slice ao l2.length ac)) 10 (by kernel_rfl) (⟨s_drew c5,s_drew d3⟩) (fun hHeld=>?_)
  refine ton 0 53 (.pointer (some ⟨s,3,none⟩)) ?_
  refine ton 1 54 (.slice ao l2.length ac) ?_
  refine ton 2 55 (.pointer (some ⟨n0+1,5,none⟩)) ?_
  refine ton 3 56 (.int .i64 wt) ?_
  refine ton 4 57 (.int .i64 (1000*wt)) ?_
  try simp only [sA,sB,sC]
  refine tgo (i:=5) (by kernel_rfl) rfl (fun K hK=>?_)
  go_simp
  refine (rfmt_of (1000*wt) F3 _ (by omega) (by omega) HF3).mono ?_
  rintro e w2 ⟨rfl,rfl⟩
  refine hK.out _ _ (fun _=>(by (try dsimp only at hHeld);repeat (first | assumption | (with_reducible refine s_drew ?_) | (with_reducible refine s_alloc ?_) | (with_reducible refine s_set (by simp only;omega) ?_)))) (fun hHeld=>?_)
  replace hHeld:=hHeld (by decide)
  clear hK K
  try simp only [sA,sB,sC]
  refine ton 6 59 (.agg #[.string ⟨#[119,101,105,103,104,116]⟩,.string F3]) ?_
  try simp only [sA,sB,sC]
  refine tgo (i:=7) (by kernel_rfl) rfl (fun K hK=>?_)
  go_simp
  refine hK.out _ _ (fun _=>⟨s_drew (s_alloc c5),s_drew (s_alloc d3)⟩) (fun hHeld=>?_)
  replace hHeld:=hHeld (by decide)
  clear hK K
  try simp only [sA,sB,sC]
  have hbv:Below w1.heap.size w1 (w1.alloc (.cells #[.string ⟨#[119,101,105,103,104,116]⟩,.string F3] 69)).drew:=(al1 ..).drew
  have hkn:=blk_new w1 #[.string ⟨#[119,101,105,103,104,116]⟩,.string F3] 69
  have hzv:=hbv.size
  refine tgo (i:=8) (by kernel_rfl) rfl (fun K hK=>?_)
  refine st_pr Tryz.underlying65 info_of_cla rfl (.tmp 54) (.tmp 60) rfl n0 _ _ l2 (wWeight,fmtL (1000*wt)) ⟨#[119,101,105,103,104,116]⟩ F3 (by rw [← HF3.out];rfl) w1.heap.size rfl rfl (Lh (row_below HSB.out.2 hbv)) (Lh hkn) (by omega) (by omega) ?_
  intro gg cap V hown hkp
  have hE2:=hkp.out.2 _ _ _ (blk_keep hbv HE.out) (by decide)
  have hS2:=hkp.out.2 _ _ _ (blk_keep hbv HSB.out.1) (by decide)
  have hR2:=hkp.out.2 _ _ _ (blk_keep hbv HR.out) (by decide)
  have hB2:=hkp.out.2 _ _ _ (blk_keep hbv HRB.out) (by decide)
  have fz2:V.frozen? ⟨s,3,none⟩=false:=blk_free hS2
  have d32:V.cell? ⟨s,3,none⟩=some (.slice ao l2.length ac):=by rw [blk_cell hS2];rfl
  refine hK.out _ _ (fun _=>⟨by rw [blk_cell hE2];rfl,d32⟩) (fun hHeld=>?_)
  replace hHeld:=hHeld (by decide)
  clear hK K
  try simp only [sA,sB,sC]
  refine ton 9 62 (.pointer (some ⟨s,3,none⟩)) ?_
  try simp only [sA,sB,sC]
  refine tgo (i:=10) (by kernel_rfl) rfl (fun K hK=>?_)
  go_simp
  refine hK.out _ _ (fun h=>absurd rfl h) (fun hHeld=>?_)
  clear hK K hHeld
  try simp only [sA,sB,sC]
  refine tdone (by kernel_rfl) ?_ _
  have hsb2:=HSB.out.store hbv hown.out hkp.out
  rw [HGO.out] at hsb2
  have hBV:=HB.out.trans ((hbv.mono (by omega)).trans hkp.out.1)
  exact ⟨rfl,(HM.out _ _).2 ⟨s,rb,rfl,hs0,hr0,⟨_,_,hsb2⟩,blk_far hB2 hbs _,hBV.setCell hs0 _,blk_far hE2 hes _,blk_far hR2 (Ne.symm hsr) _,hsr⟩⟩
 intro a1 w1 hm
 obtain ⟨s,rb,ha,hs0,hr0,⟨ao,ac,hsb⟩,hrb,hb,-,hr,hsr⟩:=(HM.out _ _).1 hm
 obtain ⟨f,rfl⟩:=ha.use
 clear HM hm M ha
 obtain ⟨l4,hl4⟩:∃ l,(l2 ++ (if wt=1 then [] else [(wWeight,fmtL (1000*wt))]))=l:=⟨_,rfl⟩
 rw [hl4] at hsb
 have hA:edgeA ⟨(i1:Int),(i2:Int),fp,tp,lb,wt,ln⟩=l4:=by
  rw [← hl4,← HQl2.out,← HQl1.out,← HQl0.out];unfold edgeA;simp [List.append_assoc]
 have HA:=Lh hA
 clear hl4 hA
 have HSB:=Lh hsb
 have HB:=Lh hb
 have HRB:=Lh hrb
 have hbr:=blk_lt hrb
 have hrr:rb≠n0+2:=blk_ne hrb hr (by decide)
 have d0:w1.cell? ⟨s,0,none⟩=some (.int .i64 2):=by rw [blk_cell hsb.1];rfl
 have d1:w1.cell? ⟨s,1,none⟩=some (.string ⟨#[]⟩):=by rw [blk_cell hsb.1];rfl
 have d2:w1.cell? ⟨s,2,none⟩=some (.slice (some ⟨rb,0,none⟩) 2 2):=by rw [blk_cell hsb.1];rfl
 have d3:w1.cell? ⟨s,3,none⟩=some (.slice ao l4.length ac):=by rw [blk_cell hsb.1];rfl
 have d4:w1.cell? ⟨s,4,none⟩=some (.slice none 0 0):=by rw [blk_cell hsb.1];rfl
 have f0:w1.frozen? ⟨n0+2,0,none⟩=false:=blk_free hr
 have f1:w1.frozen? ⟨n0+2,1,none⟩=false:=blk_free hr
 have f2:w1.frozen? ⟨n0+2,2,none⟩=false:=blk_free hr
 have f3:w1.frozen? ⟨n0+2,3,none⟩=false:=blk_free hr
 have f4:w1.frozen? ⟨n0+2,4,none⟩=false:=blk_free hr
 have e0:w1.cell? ⟨n0+2,0,none⟩=some (.int .i64 0):=by rw [blk_cell hr];rfl
 have e1:w1.cell? ⟨n0+2,1,none⟩=some (.string ⟨#[]⟩):=by rw [blk_cell hr];rfl
 have e2:w1.cell? ⟨n0+2,2,none⟩=some (.slice none 0 0):=by rw [blk_cell hr];rfl
 have e3:w1.cell? ⟨n0+2,3,none⟩=some (.slice none 0 0):=by rw [blk_cell hr];rfl
 have e4:w1.cell? ⟨n0+2,4,none⟩=some (.slice none 0 0):=by rw [blk_cell hr];rfl
 have HR:=Lh hr
 clear hsb hb hr hrb
 go_wp2
 have hbx:=blk_set5 HR.out (.int .i64 2) (.string ⟨#[]⟩) (.slice (some ⟨rb,0,none⟩) 2 2) (.slice ao l4.length ac) (.slice none 0 0)
 have r0:=blk_cell (o:=0) hbx
 have r1':=blk_cell (o:=1) hbx
 have r2':=blk_cell (o:=2) hbx
 have r3:=blk_cell (o:=3) hbx
 have r4:=blk_cell (o:=4) hbx
 have hBf:=below_set5 HB.out (show n0≤n0+2 by omega) (.int .i64 2) (.string ⟨#[]⟩) (.slice (some ⟨rb,0,none⟩) 2 2) (.slice ao l4.length ac) (.slice none 0 0)
 have hrf:=blk_far5 HRB.out hrr (.int .i64 2) (.string ⟨#[]⟩) (.slice (some ⟨rb,0,none⟩) 2 2) (.slice ao l4.length ac) (.slice none 0 0)
 have hrow:=row_set5 HSB.out.2 HR.out (by decide) (.int .i64 2) (.string ⟨#[]⟩) (.slice (some ⟨rb,0,none⟩) 2 2) (.slice ao l4.length ac) (.slice none 0 0)
 refine bodyPost_ret (v:=.agg #[.int .i64 2,.string ⟨#[]⟩,.slice (some ⟨rb,0,none⟩) 2 2,.slice ao l4.length ac,.slice none 0 0]) (by simp [results,Tryz.results37,go_sem,r0,r1',r2',r3,r4]) rfl ?_
 rw [HST.out]
 refine ⟨by rw [HN0.out];exact hBf,_,rfl,some ⟨rb,0,none⟩,2,ao,ac,none,0,by show _=Value.agg #[_,_,_,.slice ao (edgeA _).length ac,_];rw [HA.out];rfl,fun W hW=>?_⟩
 rw [HN0.out] at hW
 have hbn:∀ r∈l4,r.1.length≤maxLen∧r.2.length≤maxLen:=by
  rw [← HA.out];exact edgeA_bnd HED.out
 have hp:=own_selfP hrow (Nat.le_refl n0) hbn W hW
 have hq:=hW.blk hr0 (by simpa [World.setCell] using hbr) hrf
 refine ⟨Nat.zero_le _,prs_two hq B1.out.1 B1.out.2 B2.out.1 B2.out.2,?_,Sts.nil W⟩
 show Prs W (.slice ao (edgeA _).length ac) (edgeA _)
 rw [HA.out];exact hp
end Go.Proofs.YtgmidodmmlmmeaaGreatDoor.xpt
