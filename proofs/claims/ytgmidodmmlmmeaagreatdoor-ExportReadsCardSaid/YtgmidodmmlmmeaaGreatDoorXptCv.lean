/-
  What Tree of the landed export returns (layer 13): the tree that describes a graph and options, or the error. Conditions: a graph in memory, the table of powers.
-/
import Derived.Test.YtgmidodmmlmmeaaGreatDoorMef
import Derived.Test.YtgmidodmmlmmeaaGreatDoorMte
namespace Go.Proofs.YtgmidodmmlmmeaaGreatDoor.xpt
open Go.RowKit Go.Sort lex tre att nor
theorem cell_off {W W':World}{tb:Nat}{A:Addr}{v:Value}(h:W.cell? A=some v)(hA:A.block≠tb)(hW:∀ q,q≠tb→W'.heap[q]?=W.heap[q]?):W'.cell? A=some v:=by
 unfold World.cell? at h ⊢
 rw [hW _ hA];exact h
theorem box_int {W:World}{tb:Nat}{t:TypeId}{x:ByteArray}{d:Bool}{a:Option Addr}{n c:Nat}(hk:blk W tb t #[.string x,.bool d,.slice a n c]){A:Addr}{k:Int}(h:W.cell? A=some (.int .i64 k)):A.block≠tb:=by
 intro e
 obtain ⟨b,of,sp⟩:=A
 simp only at e
 subst e
 unfold xpt.blk at hk
 simp only [World.cell?,hk] at h
 split at h
 ·cases h
 ·rcases of with _ | _ | _ | of <;> simp at h
theorem box_str {W:World}{tb:Nat}{t:TypeId}{x:ByteArray}{d:Bool}{a:Option Addr}{n c:Nat}(hk:blk W tb t #[.string x,.bool d,.slice a n c]){A:Addr}{k l:ByteArray}(h:W.cell? A=some (.string k))(h2:W.cell? ⟨A.block,A.off+1,none⟩=some (.string l)):A.block≠tb:=by
 intro e
 obtain ⟨b,of,sp⟩:=A
 simp only at e h2
 subst e
 unfold xpt.blk at hk
 simp only [World.cell?,hk] at h h2
 split at h
 ·cases h
 ·rcases of with _ | _ | _ | of <;> simp at h h2
theorem prs_box {W W':World}{tb:Nat}{t:TypeId}{x:ByteArray}{d:Bool}{a:Option Addr}{n c:Nat}{v:Value}{l:List Pr}(h:Prs W v l)(hk:blk W tb t #[.string x,.bool d,.slice a n c])(hW:∀ q,q≠tb→W'.heap[q]?=W.heap[q]?):Prs W' v l:=by
 obtain ⟨ao,cap,rfl,hc,hm,hA⟩:=h
 refine ⟨ao,cap,rfl,hc,hm,fun hn=>?_⟩
 obtain ⟨A,rfl,h2⟩:=hA hn
 refine ⟨A,rfl,fun i hi=>?_⟩
 obtain ⟨q1,q2,q3⟩:=h2 i hi
 have:=box_str hk q1 q2
 exact ⟨cell_off q1 this hW,cell_off q2 this hW,q3⟩
theorem st_box {W W':World}{tb:Nat}{t:TypeId}{x:ByteArray}{d:Bool}{a:Option Addr}{n c:Nat}(hk:blk W tb t #[.string x,.bool d,.slice a n c])(hW:∀ q,q≠tb→W'.heap[q]?=W.heap[q]?):(∀ s A,stAt W s A→stAt W' s A)∧∀ l A i,stsAt W l A i→stsAt W' l A i:=by
 refine st_ind (fun k n r a b hB A h=>?_) (fun _ _ h=>h) (fun s t hs ht A i h=>⟨hs _ h.1,ht _ _ h.2⟩)
 obtain ⟨h1,h2,h3,⟨rv,h4,h4'⟩,⟨av,h5,h5'⟩,ao,cap,h6,h7,h8,h9⟩:=h
 have hA:=box_int hk h1
 exact ⟨cell_off h1 hA hW,cell_off h2 hA hW,h3,⟨rv,cell_off h4 hA hW,prs_box h4' hk hW⟩,⟨av,cell_off h5 hA hW,prs_box h5' hk hW⟩,ao,cap,cell_off h6 hA hW,h7,h8,fun hn=>by
  obtain ⟨B,rfl,h10⟩:=h9 hn;exact ⟨B,rfl,hB _ _ h10⟩⟩
theorem sts_box {W W':World}{tb:Nat}{t:TypeId}{x:ByteArray}{d:Bool}{a:Option Addr}{n c:Nat}{v:Value}{l:List St}(h:Sts W v l)(hk:blk W tb t #[.string x,.bool d,.slice a n c])(hW:∀ q,q≠tb→W'.heap[q]?=W.heap[q]?):Sts W' v l:=by
 obtain ⟨ao,cap,rfl,hc,hm,hA⟩:=h
 exact ⟨ao,cap,rfl,hc,hm,fun hn=>by obtain ⟨A,rfl,h2⟩:=hA hn;exact ⟨A,rfl,(st_box hk hW).2 _ _ _ h2⟩⟩
theorem far3 {W:World}{g:Nat}(c0 c1 c2:Value):∀ q,q≠g→(((W.setCell ⟨g,0,none⟩ c0).setCell ⟨g,1,none⟩ c1).setCell ⟨g,2,none⟩ c2).heap[q]?=W.heap[q]?:=fun q h=>by
 rw [Below.heap_setCell _ _ _ _ (show q≠g from h),Below.heap_setCell _ _ _ _ (show q≠g from h),Below.heap_setCell _ _ _ _ (show q≠g from h)]
theorem RC.form2 {B:Nat}{W:World}{v:Value}{D:List Sv}(h:RC B W v D):∃ ao cap,v=.slice ao D.length cap∧D.length≤cap∧cap≤maxLen:=by
 obtain ⟨⟨ao,cap,e,h1,h2,-⟩,-⟩:=h;exact ⟨ao,cap,e,h1,h2⟩
def A47 (a:Act)(n0 tb:Nat):Prop:=a=⟨#[a.tmps.getD 0 undef,a.tmps.getD 1 undef,.pointer (some ⟨n0,0,none⟩),.pointer (some ⟨n0+1,0,none⟩),.pointer (some ⟨n0+2,0,none⟩),.int .i64 0,a.tmps.getD 6 undef,a.tmps.getD 7 undef,.pointer (some ⟨tb,0,none⟩),a.tmps.getD 9 undef,a.tmps.getD 10 undef,a.tmps.getD 11 undef,a.tmps.getD 12 undef,a.tmps.getD 13 undef,a.tmps.getD 14 undef,a.tmps.getD 15 undef,a.tmps.getD 16 undef,a.tmps.getD 17 undef,a.tmps.getD 18 undef,a.tmps.getD 19 undef,a.tmps.getD 20 undef,a.tmps.getD 21 undef,a.tmps.getD 22 undef,a.tmps.getD 23 undef,a.tmps.getD 24 undef,a.tmps.getD 25 undef,a.tmps.getD 26 undef,a.tmps.getD 27 undef,a.tmps.getD 28 undef,a.tmps.getD 29 undef,a.tmps.getD 30 undef,a.tmps.getD 31 undef,a.tmps.getD 32 undef,a.tmps.getD 33 undef,a.tmps.getD 34 undef,a.tmps.getD 35 undef,a.tmps.getD 36 undef,a.tmps.getD 37 undef,a.tmps.getD 38 undef,a.tmps.getD 39 undef,a.tmps.getD 40 undef,a.tmps.getD 41 undef,a.tmps.getD 42 undef,a.tmps.getD 43 undef,a.tmps.getD 44 undef,a.tmps.getD 45 undef,a.tmps.getD 46 undef],[]⟩
theorem A47.use {a:Act}{n0 tb:Nat}(h:A47 a n0 tb):∃ f:Nat→Value,a=⟨#[f 0,f 1,.pointer (some ⟨n0,0,none⟩),.pointer (some ⟨n0+1,0,none⟩),.pointer (some ⟨n0+2,0,none⟩),.int .i64 0,f 6,f 7,.pointer (some ⟨tb,0,none⟩),f 9,f 10,f 11,f 12,f 13,f 14,f 15,f 16,f 17,f 18,f 19,f 20,f 21,f 22,f 23,f 24,f 25,f 26,f 27,f 28,f 29,f 30,f 31,f 32,f 33,f 34,f 35,f 36,f 37,f 38,f 39,f 40,f 41,f 42,f 43,f 44,f 45,f 46],[]⟩:=⟨fun i=>a.tmps.getD i undef,h⟩
def CvM (w:World)(n0:Nat)(Gn:ByteArray)(d:Bool)(l:List St)(a:Act)(W:World):Prop:=∃ tb ao n c,A47 a n0 tb∧n0+3≤tb∧Below n0 w W∧blk W (n0+2) 33 #[.string ⟨#[]⟩,.bool false,.slice none 0 0]∧blk W tb 33 #[.string Gn,.bool d,.slice ao n c]∧Sts W (.slice ao n c) l
theorem CvM.box (w:World)(n0:Nat)(Gn:ByteArray)(d:Bool)(l:List St):∃ M:Act→World→Prop,Hid (∀ a W,M a W ↔ CvM w n0 Gn d l a W):=⟨CvM w n0 Gn d l,Lh fun _ _=>Iff.rfl⟩
set_option maxRecDepth 100000 in
set_option maxHeartbeats 32000000 in
theorem ctree_of (g:gra.Gr)(o:Op')(gv:Value)(T:Tr)(E:Int)(w:World)(h:Hid (gra.GrV w gv g))(htb:Hid (Tab w))(hr:Hid (treeE g o=(T,E))) :
    Calls Tryz.prog 10 #[gv,opV o] w (TroO T E w):=by
 have hmx:Tryz.prog.follows .mixedOrders=true:=by kernel_rfl
 obtain ⟨nv,ev,cv,rfl,hgn,hns,hes,hcs⟩:=id h.out
 obtain ⟨no,nc,rfl,-,hnm,-⟩:=id hns
 obtain ⟨eo,ec,rfl,-,-,-⟩:=id hes
 obtain ⟨co,cc,rfl,-,-,-⟩:=id hcs
 clear hns hes hcs
 obtain ⟨Gn,hGn⟩:∃ X,bb g.nm=X:=⟨_,rfl⟩
 have HGN:=Lh hGn
 have HGL:=Lh hgn
 have HG:=Lh (show gra.GrV w (.agg #[.string Gn,.bool g.dir,.slice no g.ns.length nc,.slice eo g.es.length ec,.slice co g.cs.length cc]) g by rw [← hGn];exact h.out)
 rw [show gra.bb g.nm=Gn from hGn]
 clear h hGn hgn
 unfold opV
 obtain ⟨ve,hve⟩:∃ ve,gra.validE g=ve:=⟨_,rfl⟩
 obtain ⟨ob,hob⟩:∃ ob,okO o=ob:=⟨_,rfl⟩
 have HVE:=Lh hve
 have HOB:=Lh hob
 clear hve hob
 have k1:=blk_new w #[.string Gn,.bool g.dir,.slice no g.ns.length nc,.slice eo g.es.length ec,.slice co g.cs.length cc] 26
 have b1:=al1 w (.cells #[.string Gn,.bool g.dir,.slice no g.ns.length nc,.slice eo g.es.length ec,.slice co g.cs.length cc] 26)
 have q1:(w.alloc (.cells #[.string Gn,.bool g.dir,.slice no g.ns.length nc,.slice eo g.es.length ec,.slice co g.cs.length cc] 26)).heap.size=w.heap.size+1:=by simp
 have HK1:=Lh k1
 have HB1:=Lh b1
 have HQ1:=Lh q1
 clear k1 b1 q1
 go_enter Tryz.func10,Tryz.ntmps10
 go_wp2_with fail
 generalize w.alloc (.cells #[.string Gn,.bool g.dir,.slice no g.ns.length nc,.slice eo g.es.length ec,.slice co g.cs.length cc] 26)=wa at HK1 HB1 HQ1 ⊢
 have hq1:=HQ1.out
 have b2:=al1 wa (.cells #[.int .i64 o.mode,.int .i64 o.ns,.int .i64 o.rs,.int .i64 o.mg,.int .i64 o.rd] 28)
 have k2:=blk_new wa #[.int .i64 o.mode,.int .i64 o.ns,.int .i64 o.rs,.int .i64 o.mg,.int .i64 o.rd] 28
 have q2:(wa.alloc (.cells #[.int .i64 o.mode,.int .i64 o.ns,.int .i64 o.rs,.int .i64 o.mg,.int .i64 o.rd] 28)).heap.size=w.heap.size+2:=by simp;omega
 generalize wa.alloc (.cells #[.int .i64 o.mode,.int .i64 o.ns,.int .i64 o.rs,.int .i64 o.mg,.int .i64 o.rd] 28)=wb at b2 k2 q2 ⊢
 have b3:=al1 wb (.cells #[.string ⟨#[]⟩,.bool false,.slice none 0 0] 33)
 have k3:=blk_new wb #[.string ⟨#[]⟩,.bool false,.slice none 0 0] 33
 have q3:(wb.alloc (.cells #[.string ⟨#[]⟩,.bool false,.slice none 0 0] 33)).heap.size=w.heap.size+3:=by simp;omega
 generalize wb.alloc (.cells #[.string ⟨#[]⟩,.bool false,.slice none 0 0] 33)=w1 at b3 k3 q3 ⊢
 rw [q2] at k3
 rw [hq1] at k2
 have hk1:=blk_keep b3 (blk_keep b2 HK1.out)
 have hk2:=blk_keep b3 k2
 have hb1:=below_keep b3 (below_keep b2 HB1.out)
 clear b2 b3 k2 HK1 HB1 HQ1 hq1 q2
 obtain ⟨n0,hn0⟩:∃ n0,w.heap.size=n0:=⟨_,rfl⟩
 rw [hn0] at hk1 hk2 hb1 k3 q3
 simp only [hn0]
 have HN0:=Lh hn0
 clear hn0
 have HB1:=Lh hb1
 refine (gra.cvalid_of _ g ve w1 (Lh (HG.out.keep (show Below w.heap.size w w1 by rw [HN0.out];exact hb1))) HVE).mono ?_
 rintro e w2 ⟨rfl,hb2⟩
 have HK1:=Lh (blk_keep hb2 hk1)
 have HK2:=Lh (blk_keep hb2 hk2)
 have HK3:=Lh (blk_keep hb2 k3)
 have HB2:=Lh (hb1.trans (hb2.mono (by omega)))
 clear hb1 hb2 hk1 hk2 k3 HB1
 by_cases v0:ve=0
 case neg =>
  have bv:(ve != 0)=true:=by rw [bne_iff_ne];exact v0
  have HE:Hid (T=emT∧E=1):=Lh (by have:=hr.out;unfold treeE at this;rw [if_pos (Or.inl (by rw [HVE.out];exact v0))] at this;exact ⟨(Prod.mk.inj this).1.symm,(Prod.mk.inj this).2.symm⟩)
  clear v0
  have f0:w2.frozen? ⟨n0+2,0,none⟩=false:=blk_free HK3.out
  have f1:w2.frozen? ⟨n0+2,1,none⟩=false:=blk_free HK3.out
  have f2:w2.frozen? ⟨n0+2,2,none⟩=false:=blk_free HK3.out
  have z0:w2.cell? ⟨n0+2,0,none⟩=some (.string ⟨#[]⟩):=by rw [blk_cell HK3.out];rfl
  have z1:w2.cell? ⟨n0+2,1,none⟩=some (.bool false):=by rw [blk_cell HK3.out];rfl
  have z2:w2.cell? ⟨n0+2,2,none⟩=some (.slice none 0 0):=by rw [blk_cell HK3.out];rfl
  go_wp2
  obtain ⟨rfl,rfl⟩:=HE.out
  have hbx:=blk_set3 (HK3.out) (.string ⟨#[]⟩) (.bool false) (.slice none 0 0)
  have r0:=blk_cell (o:=0) hbx
  have r1:=blk_cell (o:=1) hbx
  have r2:=blk_cell (o:=2) hbx
  refine bodyPost_ret (v:=.tuple #[.agg #[.string ⟨#[]⟩,.bool false,.slice none 0 0],.int .i64 1]) (by simp [results,Tryz.results10,go_sem,r0,r1,r2]) rfl ?_
  exact ⟨_,rfl,em_trv _,by rw [HN0.out];exact below_set3 (HB2.out) (by omega) _ _ _⟩
 have bv:(ve != 0)=false:=by rw [v0];rfl
 have o0:w2.cell? ⟨n0+1,0,none⟩=some (.int .i64 o.mode):=by rw [blk_cell HK2.out];rfl
 have o1:w2.cell? ⟨n0+1,1,none⟩=some (.int .i64 o.ns):=by rw [blk_cell HK2.out];rfl
 have o2:w2.cell? ⟨n0+1,2,none⟩=some (.int .i64 o.rs):=by rw [blk_cell HK2.out];rfl
 have o3:w2.cell? ⟨n0+1,3,none⟩=some (.int .i64 o.mg):=by rw [blk_cell HK2.out];rfl
 have o4:w2.cell? ⟨n0+1,4,none⟩=some (.int .i64 o.rd):=by rw [blk_cell HK2.out];rfl
 go_wp2_with fail
 refine (valido_of o ob w2 HOB).mono ?_
 rintro e w3 ⟨rfl,hb3⟩
 have HK1':=Lh (blk_keep hb3 HK1.out)
 have HK2':=Lh (blk_keep hb3 HK2.out)
 have HK3':=Lh (blk_keep hb3 HK3.out)
 have HB3:=Lh (HB2.out.trans (hb3.mono (Nat.le_of_lt (blk_lt HK1.out))))
 clear hb3 HK1 HK2 HK3 HB2 o0 o1 o2 o3 o4
 cases ob
 case false =>
  have HE:Hid (T=emT∧E=1):=Lh (by have:=hr.out;unfold treeE at this;rw [if_pos (Or.inr HOB.out)] at this;exact ⟨(Prod.mk.inj this).1.symm,(Prod.mk.inj this).2.symm⟩)
  have f0:w3.frozen? ⟨n0+2,0,none⟩=false:=blk_free HK3'.out
  have f1:w3.frozen? ⟨n0+2,1,none⟩=false:=blk_free HK3'.out
  have f2:w3.frozen? ⟨n0+2,2,none⟩=false:=blk_free HK3'.out
  have z0:w3.cell? ⟨n0+2,0,none⟩=some (.string ⟨#[]⟩):=by rw [blk_cell HK3'.out];rfl
  have z1:w3.cell? ⟨n0+2,1,none⟩=some (.bool false):=by rw [blk_cell HK3'.out];rfl
  have z2:w3.cell? ⟨n0+2,2,none⟩=some (.slice none 0 0):=by rw [blk_cell HK3'.out];rfl
  go_wp2
  obtain ⟨rfl,rfl⟩:=HE.out
  have hbx:=blk_set3 (HK3'.out) (.string ⟨#[]⟩) (.bool false) (.slice none 0 0)
  have r0:=blk_cell (o:=0) hbx
  have r1:=blk_cell (o:=1) hbx
  have r2:=blk_cell (o:=2) hbx
  refine bodyPost_ret (v:=.tuple #[.agg #[.string ⟨#[]⟩,.bool false,.slice none 0 0],.int .i64 1]) (by simp [results,Tryz.results10,go_sem,r0,r1,r2]) rfl ?_
  exact ⟨_,rfl,em_trv _,by rw [HN0.out];exact below_set3 (HB3.out) (by omega) _ _ _⟩
 have HV:Hid (gra.validE g=0):=Lh (by rw [HVE.out];exact v0)
 have HGV:=Lh (gv_of HV.out)
 have HR:Hid ((if (blk0 g).2.1 < g.ns.length∨(blk0 g).2.2 < g.cs.length then (emT,1) else if validT (treeG g o)≠0 then (emT,validT (treeG g o)) else (treeG g o,0))=(T,E)):=Lh (by have:=hr.out;unfold treeE at this;rw [if_neg (fun q=>q.elim (fun e=>e HV.out) (fun e=>by rw [HOB.out] at e;cases e))] at this;exact this)
 have HOP:=Lh HOB.out
 clear HVE v0 bv hr HOB
 obtain ⟨bd,hbd⟩:∃ b,(decide ((blk0 g).2.1=g.ns.length) && decide ((blk0 g).2.2=g.cs.length))=b:=⟨_,rfl⟩
 have HBD:=Lh hbd
 clear hbd
 have c0:w3.cell? ⟨n0,0,none⟩=some (.string Gn):=by rw [blk_cell HK1'.out];rfl
 have c1:w3.cell? ⟨n0,1,none⟩=some (.bool g.dir):=by rw [blk_cell HK1'.out];rfl
 have c2:w3.cell? ⟨n0,2,none⟩=some (.slice no g.ns.length nc):=by rw [blk_cell HK1'.out];rfl
 have c3:w3.cell? ⟨n0,3,none⟩=some (.slice eo g.es.length ec):=by rw [blk_cell HK1'.out];rfl
 have c4:w3.cell? ⟨n0,4,none⟩=some (.slice co g.cs.length cc):=by rw [blk_cell HK1'.out];rfl
 go_wp2_with fail
 refine (cdecl_of g _ bd w3 (Lh (HG.out.keep (show Below w.heap.size w w3 by rw [HN0.out];exact HB3.out))) HV (Lh (tab_below htb.out (show Below w.heap.size w w3 by rw [HN0.out];exact HB3.out))) HBD).mono ?_
 rintro e w4 ⟨⟨a2,D2,rfl,hrc2,hD2⟩,hb4⟩
 have hz3:=blk_lt HK3'.out
 have HK1:=Lh (blk_keep hb4 HK1'.out)
 have HK2:=Lh (blk_keep hb4 HK2'.out)
 have HK3:=Lh (blk_keep hb4 HK3'.out)
 have HB4:=Lh (HB3.out.trans (hb4.mono (by omega)))
 have HRC2:=Lh (hrc2.lower (B:=n0+3) (by omega))
 have HD2:=Lh hD2
 have hz4:=blk_lt HK3.out
 clear hb4 hrc2 hD2 HK1' HK2' HK3' HB3 c0 c1 c2 c3 c4
 cases bd
 case false =>
  have HE:Hid (T=emT∧E=1):=Lh (by
   have h1:=HBD.out
   have h2:=blk0_le g (g.ns.length+g.cs.length+1) (-1) 0 0 (Nat.zero_le _) (Nat.zero_le _)
   have h3:(blk0 g).2.1≤g.ns.length∧(blk0 g).2.2≤g.cs.length:=⟨h2.1,h2.2⟩
   have h4:(blk0 g).2.1 < g.ns.length∨(blk0 g).2.2 < g.cs.length:=by
    by_cases e1:(blk0 g).2.1=g.ns.length
    ·by_cases e2:(blk0 g).2.2=g.cs.length
     ·rw [decide_eq_true e1,decide_eq_true e2] at h1;cases h1
     ·right;omega
    ·left;omega
   have:=HR.out
   rw [if_pos h4] at this;exact ⟨(Prod.mk.inj this).1.symm,(Prod.mk.inj this).2.symm⟩)
  have f0:w4.frozen? ⟨n0+2,0,none⟩=false:=blk_free HK3.out
  have f1:w4.frozen? ⟨n0+2,1,none⟩=false:=blk_free HK3.out
  have f2:w4.frozen? ⟨n0+2,2,none⟩=false:=blk_free HK3.out
  have z0:w4.cell? ⟨n0+2,0,none⟩=some (.string ⟨#[]⟩):=by rw [blk_cell HK3.out];rfl
  have z1:w4.cell? ⟨n0+2,1,none⟩=some (.bool false):=by rw [blk_cell HK3.out];rfl
  have z2:w4.cell? ⟨n0+2,2,none⟩=some (.slice none 0 0):=by rw [blk_cell HK3.out];rfl
  go_wp2
  obtain ⟨rfl,rfl⟩:=HE.out
  have hbx:=blk_set3 (HK3.out) (.string ⟨#[]⟩) (.bool false) (.slice none 0 0)
  have r0:=blk_cell (o:=0) hbx
  have r1:=blk_cell (o:=1) hbx
  have r2:=blk_cell (o:=2) hbx
  refine bodyPost_ret (v:=.tuple #[.agg #[.string ⟨#[]⟩,.bool false,.slice none 0 0],.int .i64 1]) (by simp [results,Tryz.results10,go_sem,r0,r1,r2]) rfl ?_
  exact ⟨_,rfl,em_trv _,by rw [HN0.out];exact below_set3 (HB4.out) (by omega) _ _ _⟩
 have HR2:Hid ((if validT (treeG g o)≠0 then (emT,validT (treeG g o)) else (treeG g o,0))=(T,E)):=Lh (by
  have h1:=HBD.out
  rw [Bool.and_eq_true,decide_eq_true_eq,decide_eq_true_eq] at h1
  have:=HR.out
  rw [if_neg (by omega)] at this;exact this)
 have HCN:=Lh (cnt_tree g o HGV.out)
 have HD2L:Hid (D2.length≤400):=Lh (by
  have h3:D2.length≤cnt (treeG g o).body:=by
   rw [← List.length_map (f:=Sv.s),HD2.out]
   show _≤cnt (optS o ++ ((blk0 g).1 ++ g.es.map (edgeS g.ns)))
   rw [cnt_app,cnt_app]
   have e1:=len_cnt (blk0 g).1
   omega
  have:=HCN.out
  omega)
 clear HR HBD
 go_wp2_with fail
 obtain ⟨M,HM⟩:=CvM.box w n0 Gn g.dir (treeG g o).body
 refine then_mid M ?_ ?_
 ·
  have c0:w4.cell? ⟨n0,0,none⟩=some (.string Gn):=by rw [blk_cell HK1.out];rfl
  have c1:w4.cell? ⟨n0,1,none⟩=some (.bool g.dir):=by rw [blk_cell HK1.out];rfl
  have c2:w4.cell? ⟨n0,2,none⟩=some (.slice no g.ns.length nc):=by rw [blk_cell HK1.out];rfl
  have c3:w4.cell? ⟨n0,3,none⟩=some (.slice eo g.es.length ec):=by rw [blk_cell HK1.out];rfl
  have c4:w4.cell? ⟨n0,4,none⟩=some (.slice co g.cs.length cc):=by rw [blk_cell HK1.out];rfl
  have o0:w4.cell? ⟨n0+1,0,none⟩=some (.int .i64 o.mode):=by rw [blk_cell HK2.out];rfl
  have o1:w4.cell? ⟨n0+1,1,none⟩=some (.int .i64 o.ns):=by rw [blk_cell HK2.out];rfl
  have o2:w4.cell? ⟨n0+1,2,none⟩=some (.int .i64 o.rs):=by rw [blk_cell HK2.out];rfl
  have o3:w4.cell? ⟨n0+1,3,none⟩=some (.int .i64 o.mg):=by rw [blk_cell HK2.out];rfl
  have o4:w4.cell? ⟨n0+1,4,none⟩=some (.int .i64 o.rd):=by rw [blk_cell HK2.out];rfl
  refine tstart (fun W:World=>W.cell? ⟨n0,0,none⟩=some (.string Gn)∧W.cell? ⟨n0,1,none⟩=some (.bool g.dir)∧W.cell? ⟨n0,2,none⟩=some (.slice no g.ns.length nc)∧W.cell? ⟨n0,3,none⟩=some (.slice eo g.es.length ec)∧W.cell? ⟨n0,4,none⟩=some (.slice co g.cs.length cc)∧W.cell? ⟨n0+1,0,none⟩=some (.int .i64 o.mode)∧W.cell? ⟨n0+1,1,none⟩=some (.int .i64 o.ns)∧W.cell? ⟨n0+1,2,none⟩=some (.int .i64 o.rs)∧W.cell? ⟨n0+1,3,none⟩=some (.int .i64 o.mg)∧W.cell? ⟨n0+1,4,none⟩=some (.int .i64 o.rd)) 14 (by kernel_rfl) ⟨s_drew (c0),s_drew (c1),s_drew (c2),s_drew (c3),s_drew (c4),s_drew (o0),s_drew (o1),s_drew (o2),s_drew (o3),s_drew (o4)⟩ (fun hHeld=>?_)
  have hb:=b_drew w4
  replace hHeld:((fun W:World=>W.cell? ⟨n0,0,none⟩=some (.string Gn)∧W.cell? ⟨n0,1,none⟩=some (.bool g.dir)∧W.cell? ⟨n0,2,none⟩=some (.slice no g.ns.length nc)∧W.cell? ⟨n0,3,none⟩=some (.slice eo g.es.length ec)∧W.cell? ⟨n0,4,none⟩=some (.slice co g.cs.length cc)∧W.cell? ⟨n0+1,0,none⟩=some (.int .i64 o.mode)∧W.cell? ⟨n0+1,1,none⟩=some (.int .i64 o.ns)∧W.cell? ⟨n0+1,2,none⟩=some (.int .i64 o.rs)∧W.cell? ⟨n0+1,3,none⟩=some (.int .i64 o.mg)∧W.cell? ⟨n0+1,4,none⟩=some (.int .i64 o.rd))) w4.drew:=hHeld
  generalize w4.drew=y0 at hHeld hb ⊢
  refine ton 0 27 (.pointer (some ⟨n0,0,none⟩)) ?_
  refine ton 1 28 (.string Gn) ?_
  refine ton 2 29 (.pointer (some ⟨n0,1,none⟩)) ?_
  refine ton 3 30 (.bool g.dir) ?_
  refine ton 4 31 (.agg #[.int .i64 o.mode,.int .i64 o.ns,.int .i64 o.rs,.int .i64 o.mg,.int .i64 o.rd]) ?_
  refine ton 6 33 (.slice a2 D2.length D2.length) ?_
  refine ton 7 34 (.agg #[.string Gn,.bool g.dir,.slice no g.ns.length nc,.slice eo g.es.length ec,.slice co g.cs.length cc]) ?_
  try simp only [sA,sB,sC]
  clear c0 c1 c2 c3 c4 o0 o1 o2 o3 o4
  have h2:=HRC2.out.below hb
  refine tgo2 (i:=5) (j:=13) (by kernel_rfl) rfl rfl (fun K hK=>?_) (fun K hK=>?_)
  ·
   have hlc:w4.heap.size≤y0.heap.size:=hb.size
   go_simp
   refine (csett_of o y0 HOP (Lh (tab_below htb.out (show Below w.heap.size w y0 by rw [HN0.out];exact HB4.out.trans (hb.mono (by omega)))))).mono ?_
   rintro e y1 ⟨⟨v1,D1,rfl,hrs,hD1⟩,hb'⟩
   refine hK.out _ _ (fun _=>(by obtain ⟨k0,k1,k2,k3,k4,k5,k6,k7,k8,k9⟩:=hHeld;exact ⟨cell_later' hb' k0,cell_later' hb' k1,cell_later' hb' k2,cell_later' hb' k3,cell_later' hb' k4,cell_later' hb' k5,cell_later' hb' k6,cell_later' hb' k7,cell_later' hb' k8,cell_later' hb' k9⟩)) (fun hHeld=>?_)
   replace hHeld:=hHeld (by decide)
   clear hK K
   try simp only [sA,sB,sC]
   replace h2:=h2.below hb'
   have h1:=hrs.rc.lower (B:=n0+3) (by omega)
   clear hrs
   obtain ⟨a1,k1,rfl⟩:=h1.form
   replace hb:=below_keep hb' hb
   clear hb' hlc
   refine tgo2 (i:=8) (j:=13) (by kernel_rfl) rfl rfl (fun K hK=>?_) (fun K hK=>?_)
   ·
    have hlc:w4.heap.size≤y1.heap.size:=hb.size
    go_simp
    refine (cedges_of g _ y1 (Lh (HG.out.keep (show Below w.heap.size w y1 by rw [HN0.out];exact HB4.out.trans (hb.mono (by omega))))) HGV (Lh (tab_below htb.out (show Below w.heap.size w y1 by rw [HN0.out];exact HB4.out.trans (hb.mono (by omega)))))).mono ?_
    rintro e y2 ⟨⟨v3,D3,rfl,hrs,hD3⟩,hb'⟩
    refine hK.out _ _ (fun _=>(by obtain ⟨k0,k1,k2,k3,k4,k5,k6,k7,k8,k9⟩:=hHeld;exact ⟨cell_later' hb' k0,cell_later' hb' k1,cell_later' hb' k2,cell_later' hb' k3,cell_later' hb' k4,cell_later' hb' k5,cell_later' hb' k6,cell_later' hb' k7,cell_later' hb' k8,cell_later' hb' k9⟩)) (fun hHeld=>?_)
    replace hHeld:=hHeld (by decide)
    clear hK K
    try simp only [sA,sB,sC]
    replace h2:=h2.below hb'
    replace h1:=h1.below hb'
    have h3:=hrs.rc.lower (B:=n0+3) (by omega)
    clear hrs
    obtain ⟨a3,k3,rfl⟩:=h3.form
    replace hb:=below_keep hb' hb
    clear hb' hlc
    refine tgo2 (i:=9) (j:=13) (by kernel_rfl) rfl rfl (fun K hK=>?_) (fun K hK=>?_)
    ·
     have hlc:w4.heap.size≤y2.heap.size:=hb.size
     go_simp
     have hga:=blk_new y2 #[.slice a1 D1.length k1,.slice a2 D2.length D2.length,.slice a3 D3.length k3] 31
     have hb':=al1 y2 (.cells #[.slice a1 D1.length k1,.slice a2 D2.length D2.length,.slice a3 D3.length k3] 31)
     refine hK.out _ _ (fun _=>(by obtain ⟨k0,k1,k2,k3,k4,k5,k6,k7,k8,k9⟩:=hHeld;exact ⟨s_alloc k0,s_alloc k1,s_alloc k2,s_alloc k3,s_alloc k4,s_alloc k5,s_alloc k6,s_alloc k7,s_alloc k8,s_alloc k9⟩)) (fun hHeld=>?_)
     replace hHeld:=hHeld (by decide)
     clear hK K
     try simp only [sA,sB,sC]
     replace h2:=h2.below hb'
     replace h1:=h1.below hb'
     replace h3:=h3.below hb'
     obtain ⟨ga,hga0⟩:∃ s,y2.heap.size=s:=⟨_,rfl⟩
     rw [hga0] at hga hlc
     simp only [hga0]
     replace hb:=below_keep hb' hb
     generalize y2.alloc (.cells #[.slice a1 D1.length k1,.slice a2 D2.length D2.length,.slice a3 D3.length k3] 31)=y3 at hga hb hHeld h1 h2 h3 ⊢
     clear hb' hga0 hlc
     refine tgo2 (i:=10) (j:=13) (by kernel_rfl) rfl rfl (fun K hK=>?_) (fun K hK=>?_)
     ·
      have hlc:w4.heap.size≤y3.heap.size:=hb.size
      go_simp
      have l1:D1.length≤400:=by rw [← List.length_map (f:=Sv.s),hD1];exact Nat.le_trans (len_cnt _) (by have:=HCN.out;rw [show (treeG g o).body=optS o ++ ((blk0 g).1 ++ g.es.map (edgeS g.ns)) from rfl,cnt_app] at this;omega)
      have l3:D3.length≤400:=by rw [← List.length_map (f:=Sv.s),hD3,List.length_map];have:=HGV.out.el;omega
      refine (conc3_of (.slice a1 D1.length k1) (.slice a2 D2.length D2.length) (.slice a3 D3.length k3) D1 D2 D3 (n0+3) ga y3 (Lh h1) (Lh h2) (Lh h3) (by omega) (by have:=HD2L.out;omega) (by omega) (Lh hga) (by omega)).mono ?_
      rintro e y4 ⟨⟨v,rfl,hv⟩,hb'⟩
      refine hK.out _ _ (fun _=>(by obtain ⟨k0,k1,k2,k3,k4,k5,k6,k7,k8,k9⟩:=hHeld;exact ⟨cell_later' hb' k0,cell_later' hb' k1,cell_later' hb' k2,cell_later' hb' k3,cell_later' hb' k4,cell_later' hb' k5,cell_later' hb' k6,cell_later' hb' k7,cell_later' hb' k8,cell_later' hb' k9⟩)) (fun hHeld=>?_)
      replace hHeld:=hHeld (by decide)
      clear hK K
      try simp only [sA,sB,sC]
      have hDD:(D1 ++ D2 ++ D3).map Sv.s=(treeG g o).body:=by rw [List.map_append,List.map_append,hD1,HD2.out,hD3,List.append_assoc];rfl
      obtain ⟨D,hD⟩:∃ D,D1 ++ D2 ++ D3=D:=⟨_,rfl⟩
      rw [hD] at hv hDD
      obtain ⟨ao,cap,rfl,qc1,qc2⟩:=hv.form2
      replace hb:=below_keep hb' hb
      clear hb' hlc h1 h2 h3 hga hD1 hD3 l1 l3 hD
      refine tgo2 (i:=11) (j:=13) (by kernel_rfl) rfl rfl (fun K hK=>?_) (fun K hK=>?_)
      ·
       have hlc:w4.heap.size≤y4.heap.size:=hb.size
       go_simp
       refine (ccutS_of ao D.length cap y4 qc1 qc2).mono ?_
       rintro e y5 ⟨rfl,rfl⟩
       refine hK.out _ _ (fun _=>(by obtain ⟨k0,k1,k2,k3,k4,k5,k6,k7,k8,k9⟩:=hHeld;exact ⟨k0,k1,k2,k3,k4,k5,k6,k7,k8,k9⟩)) (fun hHeld=>?_)
       replace hHeld:=hHeld (by decide)
       clear hK K
       try simp only [sA,sB,sC]
       refine ton 12 39 (.agg #[.string Gn,.bool g.dir,.slice ao D.length D.length]) ?_
       try simp only [sA,sB,sC]
       refine tgo (i:=13) (by kernel_rfl) rfl (fun K hK=>?_)
       have hs:=blk_new y4 #[.string ⟨#[]⟩,.bool false,.slice none 0 0] 33
       have hb':=al1 y4 (.cells #[.string ⟨#[]⟩,.bool false,.slice none 0 0] 33)
       go_simp
       refine hK.out _ _ (fun _=>(by obtain ⟨k0,k1,k2,k3,k4,k5,k6,k7,k8,k9⟩:=hHeld;exact ⟨s_alloc k0,s_alloc k1,s_alloc k2,s_alloc k3,s_alloc k4,s_alloc k5,s_alloc k6,s_alloc k7,s_alloc k8,s_alloc k9⟩)) (fun hHeld=>?_)
       replace hHeld:=hHeld (by decide)
       clear hK K
       try simp only [sA,sB,sC]
       replace hv:=hv.below hb'
       have hls:w4.heap.size≤y4.heap.size:=hb.size
       obtain ⟨tb,hss⟩:∃ s,y4.heap.size=s:=⟨_,rfl⟩
       rw [hss] at hs hls
       simp only [hss]
       replace hb:=below_keep hb' hb
       generalize y4.alloc (.cells #[.string ⟨#[]⟩,.bool false,.slice none 0 0] 33)=z5 at hs hb hHeld hv ⊢
       clear hb' hss
       have f0:z5.frozen? ⟨tb,0,none⟩=false:=blk_free hs
       have e0:z5.cell? ⟨tb,0,none⟩=some (.string ⟨#[]⟩):=by rw [blk_cell hs];rfl
       have f1:z5.frozen? ⟨tb,1,none⟩=false:=blk_free hs
       have e1:z5.cell? ⟨tb,1,none⟩=some (.bool false):=by rw [blk_cell hs];rfl
       have f2:z5.frozen? ⟨tb,2,none⟩=false:=blk_free hs
       have e2:z5.cell? ⟨tb,2,none⟩=some (.slice none 0 0):=by rw [blk_cell hs];rfl
       refine tgo (i:=14) (by kernel_rfl) rfl (fun K hK=>?_)
       go_simp
       refine hK.out _ _ (fun h=>absurd rfl h) (fun hHeld=>?_)
       clear hK K hHeld
       try simp only [sA,sB,sC]
       refine tdone (by kernel_rfl) ?_ _
       have hst:Sts z5 (.slice ao D.length D.length) (treeG g o).body:=by rw [← hDD];exact hv.cut.selfL _ (agree.self _ _ _)
       have hbt:=HB4.out.trans (hb.mono (by omega))
       exact ⟨rfl,(HM.out _ _).2 ⟨tb,ao,D.length,D.length,rfl,by omega,below_set3 hbt (by omega) _ _ _,blk_far3 (blk_keep hb HK3.out) (by omega) _ _ _,blk_set3 hs _ _ _,sts_box hst hs (far3 _ _ _)⟩⟩
      ·
       have hs:=blk_new y4 #[.string ⟨#[]⟩,.bool false,.slice none 0 0] 33
       have hb':=al1 y4 (.cells #[.string ⟨#[]⟩,.bool false,.slice none 0 0] 33)
       go_simp
       refine hK.out _ _ (fun _=>(by obtain ⟨k0,k1,k2,k3,k4,k5,k6,k7,k8,k9⟩:=hHeld;exact ⟨s_alloc k0,s_alloc k1,s_alloc k2,s_alloc k3,s_alloc k4,s_alloc k5,s_alloc k6,s_alloc k7,s_alloc k8,s_alloc k9⟩)) (fun hHeld=>?_)
       replace hHeld:=hHeld (by decide)
       clear hK K
       try simp only [sA,sB,sC]
       replace hv:=hv.below hb'
       have hls:w4.heap.size≤y4.heap.size:=hb.size
       obtain ⟨tb,hss⟩:∃ s,y4.heap.size=s:=⟨_,rfl⟩
       rw [hss] at hs hls
       simp only [hss]
       replace hb:=below_keep hb' hb
       generalize y4.alloc (.cells #[.string ⟨#[]⟩,.bool false,.slice none 0 0] 33)=z4 at hs hb hHeld hv ⊢
       clear hb' hss
       refine tgo (i:=11) (by kernel_rfl) rfl (fun K hK=>?_)
       have hlc:w4.heap.size≤z4.heap.size:=hb.size
       go_simp
       refine (ccutS_of ao D.length cap z4 qc1 qc2).mono ?_
       rintro e x5 ⟨rfl,rfl⟩
       refine hK.out _ _ (fun _=>(by obtain ⟨k0,k1,k2,k3,k4,k5,k6,k7,k8,k9⟩:=hHeld;exact ⟨k0,k1,k2,k3,k4,k5,k6,k7,k8,k9⟩)) (fun hHeld=>?_)
       replace hHeld:=hHeld (by decide)
       clear hK K
       try simp only [sA,sB,sC]
       refine ton 12 39 (.agg #[.string Gn,.bool g.dir,.slice ao D.length D.length]) ?_
       try simp only [sA,sB,sC]
       have f0:z4.frozen? ⟨tb,0,none⟩=false:=blk_free hs
       have e0:z4.cell? ⟨tb,0,none⟩=some (.string ⟨#[]⟩):=by rw [blk_cell hs];rfl
       have f1:z4.frozen? ⟨tb,1,none⟩=false:=blk_free hs
       have e1:z4.cell? ⟨tb,1,none⟩=some (.bool false):=by rw [blk_cell hs];rfl
       have f2:z4.frozen? ⟨tb,2,none⟩=false:=blk_free hs
       have e2:z4.cell? ⟨tb,2,none⟩=some (.slice none 0 0):=by rw [blk_cell hs];rfl
       refine tgo (i:=14) (by kernel_rfl) rfl (fun K hK=>?_)
       go_simp
       refine hK.out _ _ (fun h=>absurd rfl h) (fun hHeld=>?_)
       clear hK K hHeld
       try simp only [sA,sB,sC]
       refine tdone (by kernel_rfl) ?_ _
       have hst:Sts z4 (.slice ao D.length D.length) (treeG g o).body:=by rw [← hDD];exact hv.cut.selfL _ (agree.self _ _ _)
       have hbt:=HB4.out.trans (hb.mono (by omega))
       exact ⟨rfl,(HM.out _ _).2 ⟨tb,ao,D.length,D.length,rfl,by omega,below_set3 hbt (by omega) _ _ _,blk_far3 (blk_keep hb HK3.out) (by omega) _ _ _,blk_set3 hs _ _ _,sts_box hst hs (far3 _ _ _)⟩⟩
     ·
      have hs:=blk_new y3 #[.string ⟨#[]⟩,.bool false,.slice none 0 0] 33
      have hb':=al1 y3 (.cells #[.string ⟨#[]⟩,.bool false,.slice none 0 0] 33)
      go_simp
      refine hK.out _ _ (fun _=>(by obtain ⟨k0,k1,k2,k3,k4,k5,k6,k7,k8,k9⟩:=hHeld;exact ⟨s_alloc k0,s_alloc k1,s_alloc k2,s_alloc k3,s_alloc k4,s_alloc k5,s_alloc k6,s_alloc k7,s_alloc k8,s_alloc k9⟩)) (fun hHeld=>?_)
      replace hHeld:=hHeld (by decide)
      clear hK K
      try simp only [sA,sB,sC]
      replace h2:=h2.below hb'
      replace h1:=h1.below hb'
      replace h3:=h3.below hb'
      replace hga:=blk_keep hb' hga
      have hls:w4.heap.size≤y3.heap.size:=hb.size
      obtain ⟨tb,hss⟩:∃ s,y3.heap.size=s:=⟨_,rfl⟩
      rw [hss] at hs hls
      simp only [hss]
      replace hb:=below_keep hb' hb
      generalize y3.alloc (.cells #[.string ⟨#[]⟩,.bool false,.slice none 0 0] 33)=z3 at hs hb hHeld h2 h1 h3 hga ⊢
      clear hb' hss
      refine tgo (i:=10) (by kernel_rfl) rfl (fun K hK=>?_)
      have hlc:w4.heap.size≤z3.heap.size:=hb.size
      go_simp
      have l1:D1.length≤400:=by rw [← List.length_map (f:=Sv.s),hD1];exact Nat.le_trans (len_cnt _) (by have:=HCN.out;rw [show (treeG g o).body=optS o ++ ((blk0 g).1 ++ g.es.map (edgeS g.ns)) from rfl,cnt_app] at this;omega)
      have l3:D3.length≤400:=by rw [← List.length_map (f:=Sv.s),hD3,List.length_map];have:=HGV.out.el;omega
      refine (conc3_of (.slice a1 D1.length k1) (.slice a2 D2.length D2.length) (.slice a3 D3.length k3) D1 D2 D3 (n0+3) ga z3 (Lh h1) (Lh h2) (Lh h3) (by omega) (by have:=HD2L.out;omega) (by omega) (Lh hga) (by omega)).mono ?_
      rintro e x4 ⟨⟨v,rfl,hv⟩,hb'⟩
      refine hK.out _ _ (fun _=>(by obtain ⟨k0,k1,k2,k3,k4,k5,k6,k7,k8,k9⟩:=hHeld;exact ⟨cell_later' hb' k0,cell_later' hb' k1,cell_later' hb' k2,cell_later' hb' k3,cell_later' hb' k4,cell_later' hb' k5,cell_later' hb' k6,cell_later' hb' k7,cell_later' hb' k8,cell_later' hb' k9⟩)) (fun hHeld=>?_)
      replace hHeld:=hHeld (by decide)
      clear hK K
      try simp only [sA,sB,sC]
      replace hs:=blk_keep hb' hs
      have hDD:(D1 ++ D2 ++ D3).map Sv.s=(treeG g o).body:=by rw [List.map_append,List.map_append,hD1,HD2.out,hD3,List.append_assoc];rfl
      obtain ⟨D,hD⟩:∃ D,D1 ++ D2 ++ D3=D:=⟨_,rfl⟩
      rw [hD] at hv hDD
      obtain ⟨ao,cap,rfl,qc1,qc2⟩:=hv.form2
      replace hb:=below_keep hb' hb
      clear hb' hlc h1 h2 h3 hga hD1 hD3 l1 l3 hD
      refine tgo (i:=11) (by kernel_rfl) rfl (fun K hK=>?_)
      have hlc:w4.heap.size≤x4.heap.size:=hb.size
      go_simp
      refine (ccutS_of ao D.length cap x4 qc1 qc2).mono ?_
      rintro e x5 ⟨rfl,rfl⟩
      refine hK.out _ _ (fun _=>(by obtain ⟨k0,k1,k2,k3,k4,k5,k6,k7,k8,k9⟩:=hHeld;exact ⟨k0,k1,k2,k3,k4,k5,k6,k7,k8,k9⟩)) (fun hHeld=>?_)
      replace hHeld:=hHeld (by decide)
      clear hK K
      try simp only [sA,sB,sC]
      refine ton 12 39 (.agg #[.string Gn,.bool g.dir,.slice ao D.length D.length]) ?_
      try simp only [sA,sB,sC]
      have f0:x4.frozen? ⟨tb,0,none⟩=false:=blk_free hs
      have e0:x4.cell? ⟨tb,0,none⟩=some (.string ⟨#[]⟩):=by rw [blk_cell hs];rfl
      have f1:x4.frozen? ⟨tb,1,none⟩=false:=blk_free hs
      have e1:x4.cell? ⟨tb,1,none⟩=some (.bool false):=by rw [blk_cell hs];rfl
      have f2:x4.frozen? ⟨tb,2,none⟩=false:=blk_free hs
      have e2:x4.cell? ⟨tb,2,none⟩=some (.slice none 0 0):=by rw [blk_cell hs];rfl
      refine tgo (i:=14) (by kernel_rfl) rfl (fun K hK=>?_)
      go_simp
      refine hK.out _ _ (fun h=>absurd rfl h) (fun hHeld=>?_)
      clear hK K hHeld
      try simp only [sA,sB,sC]
      refine tdone (by kernel_rfl) ?_ _
      have hst:Sts x4 (.slice ao D.length D.length) (treeG g o).body:=by rw [← hDD];exact hv.cut.selfL _ (agree.self _ _ _)
      have hbt:=HB4.out.trans (hb.mono (by omega))
      exact ⟨rfl,(HM.out _ _).2 ⟨tb,ao,D.length,D.length,rfl,by omega,below_set3 hbt (by omega) _ _ _,blk_far3 (blk_keep hb HK3.out) (by omega) _ _ _,blk_set3 hs _ _ _,sts_box hst hs (far3 _ _ _)⟩⟩
    ·
     have hs:=blk_new y2 #[.string ⟨#[]⟩,.bool false,.slice none 0 0] 33
     have hb':=al1 y2 (.cells #[.string ⟨#[]⟩,.bool false,.slice none 0 0] 33)
     go_simp
     refine hK.out _ _ (fun _=>(by obtain ⟨k0,k1,k2,k3,k4,k5,k6,k7,k8,k9⟩:=hHeld;exact ⟨s_alloc k0,s_alloc k1,s_alloc k2,s_alloc k3,s_alloc k4,s_alloc k5,s_alloc k6,s_alloc k7,s_alloc k8,s_alloc k9⟩)) (fun hHeld=>?_)
     replace hHeld:=hHeld (by decide)
     clear hK K
     try simp only [sA,sB,sC]
     replace h2:=h2.below hb'
     replace h1:=h1.below hb'
     replace h3:=h3.below hb'
     have hls:w4.heap.size≤y2.heap.size:=hb.size
     obtain ⟨tb,hss⟩:∃ s,y2.heap.size=s:=⟨_,rfl⟩
     rw [hss] at hs hls
     simp only [hss]
     replace hb:=below_keep hb' hb
     generalize y2.alloc (.cells #[.string ⟨#[]⟩,.bool false,.slice none 0 0] 33)=z2 at hs hb hHeld h2 h1 h3 ⊢
     clear hb' hss
     refine tgo (i:=9) (by kernel_rfl) rfl (fun K hK=>?_)
     have hlc:w4.heap.size≤z2.heap.size:=hb.size
     go_simp
     have hga:=blk_new z2 #[.slice a1 D1.length k1,.slice a2 D2.length D2.length,.slice a3 D3.length k3] 31
     have hb':=al1 z2 (.cells #[.slice a1 D1.length k1,.slice a2 D2.length D2.length,.slice a3 D3.length k3] 31)
     refine hK.out _ _ (fun _=>(by obtain ⟨k0,k1,k2,k3,k4,k5,k6,k7,k8,k9⟩:=hHeld;exact ⟨s_alloc k0,s_alloc k1,s_alloc k2,s_alloc k3,s_alloc k4,s_alloc k5,s_alloc k6,s_alloc k7,s_alloc k8,s_alloc k9⟩)) (fun hHeld=>?_)
     replace hHeld:=hHeld (by decide)
     clear hK K
     try simp only [sA,sB,sC]
     replace h2:=h2.below hb'
     replace h1:=h1.below hb'
     replace h3:=h3.below hb'
     replace hs:=blk_keep hb' hs
     obtain ⟨ga,hga0⟩:∃ s,z2.heap.size=s:=⟨_,rfl⟩
     rw [hga0] at hga hlc
     simp only [hga0]
     replace hb:=below_keep hb' hb
     generalize z2.alloc (.cells #[.slice a1 D1.length k1,.slice a2 D2.length D2.length,.slice a3 D3.length k3] 31)=x3 at hga hb hHeld h1 h2 h3 hs ⊢
     clear hb' hga0 hlc
     refine tgo (i:=10) (by kernel_rfl) rfl (fun K hK=>?_)
     have hlc:w4.heap.size≤x3.heap.size:=hb.size
     go_simp
     have l1:D1.length≤400:=by rw [← List.length_map (f:=Sv.s),hD1];exact Nat.le_trans (len_cnt _) (by have:=HCN.out;rw [show (treeG g o).body=optS o ++ ((blk0 g).1 ++ g.es.map (edgeS g.ns)) from rfl,cnt_app] at this;omega)
     have l3:D3.length≤400:=by rw [← List.length_map (f:=Sv.s),hD3,List.length_map];have:=HGV.out.el;omega
     refine (conc3_of (.slice a1 D1.length k1) (.slice a2 D2.length D2.length) (.slice a3 D3.length k3) D1 D2 D3 (n0+3) ga x3 (Lh h1) (Lh h2) (Lh h3) (by omega) (by have:=HD2L.out;omega) (by omega) (Lh hga) (by omega)).mono ?_
     rintro e x4 ⟨⟨v,rfl,hv⟩,hb'⟩
     refine hK.out _ _ (fun _=>(by obtain ⟨k0,k1,k2,k3,k4,k5,k6,k7,k8,k9⟩:=hHeld;exact ⟨cell_later' hb' k0,cell_later' hb' k1,cell_later' hb' k2,cell_later' hb' k3,cell_later' hb' k4,cell_later' hb' k5,cell_later' hb' k6,cell_later' hb' k7,cell_later' hb' k8,cell_later' hb' k9⟩)) (fun hHeld=>?_)
     replace hHeld:=hHeld (by decide)
     clear hK K
     try simp only [sA,sB,sC]
     replace hs:=blk_keep hb' hs
     have hDD:(D1 ++ D2 ++ D3).map Sv.s=(treeG g o).body:=by rw [List.map_append,List.map_append,hD1,HD2.out,hD3,List.append_assoc];rfl
     obtain ⟨D,hD⟩:∃ D,D1 ++ D2 ++ D3=D:=⟨_,rfl⟩
     rw [hD] at hv hDD
     obtain ⟨ao,cap,rfl,qc1,qc2⟩:=hv.form2
     replace hb:=below_keep hb' hb
     clear hb' hlc h1 h2 h3 hga hD1 hD3 l1 l3 hD
     refine tgo (i:=11) (by kernel_rfl) rfl (fun K hK=>?_)
     have hlc:w4.heap.size≤x4.heap.size:=hb.size
     go_simp
     refine (ccutS_of ao D.length cap x4 qc1 qc2).mono ?_
     rintro e x5 ⟨rfl,rfl⟩
     refine hK.out _ _ (fun _=>(by obtain ⟨k0,k1,k2,k3,k4,k5,k6,k7,k8,k9⟩:=hHeld;exact ⟨k0,k1,k2,k3,k4,k5,k6,k7,k8,k9⟩)) (fun hHeld=>?_)
     replace hHeld:=hHeld (by decide)
     clear hK K
     try simp only [sA,sB,sC]
     refine ton 12 39 (.agg #[.string Gn,.bool g.dir,.slice ao D.length D.length]) ?_
     try simp only [sA,sB,sC]
     have f0:x4.frozen? ⟨tb,0,none⟩=false:=blk_free hs
     have e0:x4.cell? ⟨tb,0,none⟩=some (.string ⟨#[]⟩):=by rw [blk_cell hs];rfl
     have f1:x4.frozen? ⟨tb,1,none⟩=false:=blk_free hs
     have e1:x4.cell? ⟨tb,1,none⟩=some (.bool false):=by rw [blk_cell hs];rfl
     have f2:x4.frozen? ⟨tb,2,none⟩=false:=blk_free hs
     have e2:x4.cell? ⟨tb,2,none⟩=some (.slice none 0 0):=by rw [blk_cell hs];rfl
     refine tgo (i:=14) (by kernel_rfl) rfl (fun K hK=>?_)
     go_simp
     refine hK.out _ _ (fun h=>absurd rfl h) (fun hHeld=>?_)
     clear hK K hHeld
     try simp only [sA,sB,sC]
     refine tdone (by kernel_rfl) ?_ _
     have hst:Sts x4 (.slice ao D.length D.length) (treeG g o).body:=by rw [← hDD];exact hv.cut.selfL _ (agree.self _ _ _)
     have hbt:=HB4.out.trans (hb.mono (by omega))
     exact ⟨rfl,(HM.out _ _).2 ⟨tb,ao,D.length,D.length,rfl,by omega,below_set3 hbt (by omega) _ _ _,blk_far3 (blk_keep hb HK3.out) (by omega) _ _ _,blk_set3 hs _ _ _,sts_box hst hs (far3 _ _ _)⟩⟩
   ·
    have hs:=blk_new y1 #[.string ⟨#[]⟩,.bool false,.slice none 0 0] 33
    have hb':=al1 y1 (.cells #[.string ⟨#[]⟩,.bool false,.slice none 0 0] 33)
    go_simp
    refine hK.out _ _ (fun _=>(by obtain ⟨k0,k1,k2,k3,k4,k5,k6,k7,k8,k9⟩:=hHeld;exact ⟨s_alloc k0,s_alloc k1,s_alloc k2,s_alloc k3,s_alloc k4,s_alloc k5,s_alloc k6,s_alloc k7,s_alloc k8,s_alloc k9⟩)) (fun hHeld=>?_)
    replace hHeld:=hHeld (by decide)
    clear hK K
    try simp only [sA,sB,sC]
    replace h2:=h2.below hb'
    replace h1:=h1.below hb'
    have hls:w4.heap.size≤y1.heap.size:=hb.size
    obtain ⟨tb,hss⟩:∃ s,y1.heap.size=s:=⟨_,rfl⟩
    rw [hss] at hs hls
    simp only [hss]
    replace hb:=below_keep hb' hb
    generalize y1.alloc (.cells #[.string ⟨#[]⟩,.bool false,.slice none 0 0] 33)=z1 at hs hb hHeld h2 h1 ⊢
    clear hb' hss
    refine tgo (i:=8) (by kernel_rfl) rfl (fun K hK=>?_)
    have hlc:w4.heap.size≤z1.heap.size:=hb.size
    go_simp
    refine (cedges_of g _ z1 (Lh (HG.out.keep (show Below w.heap.size w z1 by rw [HN0.out];exact HB4.out.trans (hb.mono (by omega))))) HGV (Lh (tab_below htb.out (show Below w.heap.size w z1 by rw [HN0.out];exact HB4.out.trans (hb.mono (by omega)))))).mono ?_
    rintro e x2 ⟨⟨v3,D3,rfl,hrs,hD3⟩,hb'⟩
    refine hK.out _ _ (fun _=>(by obtain ⟨k0,k1,k2,k3,k4,k5,k6,k7,k8,k9⟩:=hHeld;exact ⟨cell_later' hb' k0,cell_later' hb' k1,cell_later' hb' k2,cell_later' hb' k3,cell_later' hb' k4,cell_later' hb' k5,cell_later' hb' k6,cell_later' hb' k7,cell_later' hb' k8,cell_later' hb' k9⟩)) (fun hHeld=>?_)
    replace hHeld:=hHeld (by decide)
    clear hK K
    try simp only [sA,sB,sC]
    replace h2:=h2.below hb'
    replace h1:=h1.below hb'
    replace hs:=blk_keep hb' hs
    have h3:=hrs.rc.lower (B:=n0+3) (by omega)
    clear hrs
    obtain ⟨a3,k3,rfl⟩:=h3.form
    replace hb:=below_keep hb' hb
    clear hb' hlc
    refine tgo (i:=9) (by kernel_rfl) rfl (fun K hK=>?_)
    have hlc:w4.heap.size≤x2.heap.size:=hb.size
    go_simp
    have hga:=blk_new x2 #[.slice a1 D1.length k1,.slice a2 D2.length D2.length,.slice a3 D3.length k3] 31
    have hb':=al1 x2 (.cells #[.slice a1 D1.length k1,.slice a2 D2.length D2.length,.slice a3 D3.length k3] 31)
    refine hK.out _ _ (fun _=>(by obtain ⟨k0,k1,k2,k3,k4,k5,k6,k7,k8,k9⟩:=hHeld;exact ⟨s_alloc k0,s_alloc k1,s_alloc k2,s_alloc k3,s_alloc k4,s_alloc k5,s_alloc k6,s_alloc k7,s_alloc k8,s_alloc k9⟩)) (fun hHeld=>?_)
    replace hHeld:=hHeld (by decide)
    clear hK K
    try simp only [sA,sB,sC]
    replace h2:=h2.below hb'
    replace h1:=h1.below hb'
    replace h3:=h3.below hb'
    replace hs:=blk_keep hb' hs
    obtain ⟨ga,hga0⟩:∃ s,x2.heap.size=s:=⟨_,rfl⟩
    rw [hga0] at hga hlc
    simp only [hga0]
    replace hb:=below_keep hb' hb
    generalize x2.alloc (.cells #[.slice a1 D1.length k1,.slice a2 D2.length D2.length,.slice a3 D3.length k3] 31)=x3 at hga hb hHeld h1 h2 h3 hs ⊢
    clear hb' hga0 hlc
    refine tgo (i:=10) (by kernel_rfl) rfl (fun K hK=>?_)
    have hlc:w4.heap.size≤x3.heap.size:=hb.size
    go_simp
    have l1:D1.length≤400:=by rw [← List.length_map (f:=Sv.s),hD1];exact Nat.le_trans (len_cnt _) (by have:=HCN.out;rw [show (treeG g o).body=optS o ++ ((blk0 g).1 ++ g.es.map (edgeS g.ns)) from rfl,cnt_app] at this;omega)
    have l3:D3.length≤400:=by rw [← List.length_map (f:=Sv.s),hD3,List.length_map];have:=HGV.out.el;omega
    refine (conc3_of (.slice a1 D1.length k1) (.slice a2 D2.length D2.length) (.slice a3 D3.length k3) D1 D2 D3 (n0+3) ga x3 (Lh h1) (Lh h2) (Lh h3) (by omega) (by have:=HD2L.out;omega) (by omega) (Lh hga) (by omega)).mono ?_
    rintro e x4 ⟨⟨v,rfl,hv⟩,hb'⟩
    refine hK.out _ _ (fun _=>(by obtain ⟨k0,k1,k2,k3,k4,k5,k6,k7,k8,k9⟩:=hHeld;exact ⟨cell_later' hb' k0,cell_later' hb' k1,cell_later' hb' k2,cell_later' hb' k3,cell_later' hb' k4,cell_later' hb' k5,cell_later' hb' k6,cell_later' hb' k7,cell_later' hb' k8,cell_later' hb' k9⟩)) (fun hHeld=>?_)
    replace hHeld:=hHeld (by decide)
    clear hK K
    try simp only [sA,sB,sC]
    replace hs:=blk_keep hb' hs
    have hDD:(D1 ++ D2 ++ D3).map Sv.s=(treeG g o).body:=by rw [List.map_append,List.map_append,hD1,HD2.out,hD3,List.append_assoc];rfl
    obtain ⟨D,hD⟩:∃ D,D1 ++ D2 ++ D3=D:=⟨_,rfl⟩
    rw [hD] at hv hDD
    obtain ⟨ao,cap,rfl,qc1,qc2⟩:=hv.form2
    replace hb:=below_keep hb' hb
    clear hb' hlc h1 h2 h3 hga hD1 hD3 l1 l3 hD
    refine tgo (i:=11) (by kernel_rfl) rfl (fun K hK=>?_)
    have hlc:w4.heap.size≤x4.heap.size:=hb.size
    go_simp
    refine (ccutS_of ao D.length cap x4 qc1 qc2).mono ?_
    rintro e x5 ⟨rfl,rfl⟩
    refine hK.out _ _ (fun _=>(by obtain ⟨k0,k1,k2,k3,k4,k5,k6,k7,k8,k9⟩:=hHeld;exact ⟨k0,k1,k2,k3,k4,k5,k6,k7,k8,k9⟩)) (fun hHeld=>?_)
    replace hHeld:=hHeld (by decide)
    clear hK K
    try simp only [sA,sB,sC]
    refine ton 12 39 (.agg #[.string Gn,.bool g.dir,.slice ao D.length D.length]) ?_
    try simp only [sA,sB,sC]
    have f0:x4.frozen? ⟨tb,0,none⟩=false:=blk_free hs
    have e0:x4.cell? ⟨tb,0,none⟩=some (.string ⟨#[]⟩):=by rw [blk_cell hs];rfl
    have f1:x4.frozen? ⟨tb,1,none⟩=false:=blk_free hs
    have e1:x4.cell? ⟨tb,1,none⟩=some (.bool false):=by rw [blk_cell hs];rfl
    have f2:x4.frozen? ⟨tb,2,none⟩=false:=blk_free hs
    have e2:x4.cell? ⟨tb,2,none⟩=some (.slice none 0 0):=by rw [blk_cell hs];rfl
    refine tgo (i:=14) (by kernel_rfl) rfl (fun K hK=>?_)
    go_simp
    refine hK.out _ _ (fun h=>absurd rfl h) (fun hHeld=>?_)
    clear hK K hHeld
    try simp only [sA,sB,sC]
    refine tdone (by kernel_rfl) ?_ _
    have hst:Sts x4 (.slice ao D.length D.length) (treeG g o).body:=by rw [← hDD];exact hv.cut.selfL _ (agree.self _ _ _)
    have hbt:=HB4.out.trans (hb.mono (by omega))
    exact ⟨rfl,(HM.out _ _).2 ⟨tb,ao,D.length,D.length,rfl,by omega,below_set3 hbt (by omega) _ _ _,blk_far3 (blk_keep hb HK3.out) (by omega) _ _ _,blk_set3 hs _ _ _,sts_box hst hs (far3 _ _ _)⟩⟩
  ·
   have hs:=blk_new y0 #[.string ⟨#[]⟩,.bool false,.slice none 0 0] 33
   have hb':=al1 y0 (.cells #[.string ⟨#[]⟩,.bool false,.slice none 0 0] 33)
   go_simp
   refine hK.out _ _ (fun _=>(by obtain ⟨k0,k1,k2,k3,k4,k5,k6,k7,k8,k9⟩:=hHeld;exact ⟨s_alloc k0,s_alloc k1,s_alloc k2,s_alloc k3,s_alloc k4,s_alloc k5,s_alloc k6,s_alloc k7,s_alloc k8,s_alloc k9⟩)) (fun hHeld=>?_)
   replace hHeld:=hHeld (by decide)
   clear hK K
   try simp only [sA,sB,sC]
   replace h2:=h2.below hb'
   have hls:w4.heap.size≤y0.heap.size:=hb.size
   obtain ⟨tb,hss⟩:∃ s,y0.heap.size=s:=⟨_,rfl⟩
   rw [hss] at hs hls
   simp only [hss]
   replace hb:=below_keep hb' hb
   generalize y0.alloc (.cells #[.string ⟨#[]⟩,.bool false,.slice none 0 0] 33)=z0 at hs hb hHeld h2 ⊢
   clear hb' hss
   refine tgo (i:=5) (by kernel_rfl) rfl (fun K hK=>?_)
   have hlc:w4.heap.size≤z0.heap.size:=hb.size
   go_simp
   refine (csett_of o z0 HOP (Lh (tab_below htb.out (show Below w.heap.size w z0 by rw [HN0.out];exact HB4.out.trans (hb.mono (by omega)))))).mono ?_
   rintro e x1 ⟨⟨v1,D1,rfl,hrs,hD1⟩,hb'⟩
   refine hK.out _ _ (fun _=>(by obtain ⟨k0,k1,k2,k3,k4,k5,k6,k7,k8,k9⟩:=hHeld;exact ⟨cell_later' hb' k0,cell_later' hb' k1,cell_later' hb' k2,cell_later' hb' k3,cell_later' hb' k4,cell_later' hb' k5,cell_later' hb' k6,cell_later' hb' k7,cell_later' hb' k8,cell_later' hb' k9⟩)) (fun hHeld=>?_)
   replace hHeld:=hHeld (by decide)
   clear hK K
   try simp only [sA,sB,sC]
   replace h2:=h2.below hb'
   replace hs:=blk_keep hb' hs
   have h1:=hrs.rc.lower (B:=n0+3) (by omega)
   clear hrs
   obtain ⟨a1,k1,rfl⟩:=h1.form
   replace hb:=below_keep hb' hb
   clear hb' hlc
   refine tgo (i:=8) (by kernel_rfl) rfl (fun K hK=>?_)
   have hlc:w4.heap.size≤x1.heap.size:=hb.size
   go_simp
   refine (cedges_of g _ x1 (Lh (HG.out.keep (show Below w.heap.size w x1 by rw [HN0.out];exact HB4.out.trans (hb.mono (by omega))))) HGV (Lh (tab_below htb.out (show Below w.heap.size w x1 by rw [HN0.out];exact HB4.out.trans (hb.mono (by omega)))))).mono ?_
   rintro e x2 ⟨⟨v3,D3,rfl,hrs,hD3⟩,hb'⟩
   refine hK.out _ _ (fun _=>(by obtain ⟨k0,k1,k2,k3,k4,k5,k6,k7,k8,k9⟩:=hHeld;exact ⟨cell_later' hb' k0,cell_later' hb' k1,cell_later' hb' k2,cell_later' hb' k3,cell_later' hb' k4,cell_later' hb' k5,cell_later' hb' k6,cell_later' hb' k7,cell_later' hb' k8,cell_later' hb' k9⟩)) (fun hHeld=>?_)
   replace hHeld:=hHeld (by decide)
   clear hK K
   try simp only [sA,sB,sC]
   replace h2:=h2.below hb'
   replace h1:=h1.below hb'
   replace hs:=blk_keep hb' hs
   have h3:=hrs.rc.lower (B:=n0+3) (by omega)
   clear hrs
   obtain ⟨a3,k3,rfl⟩:=h3.form
   replace hb:=below_keep hb' hb
   clear hb' hlc
   refine tgo (i:=9) (by kernel_rfl) rfl (fun K hK=>?_)
   have hlc:w4.heap.size≤x2.heap.size:=hb.size
   go_simp
   have hga:=blk_new x2 #[.slice a1 D1.length k1,.slice a2 D2.length D2.length,.slice a3 D3.length k3] 31
   have hb':=al1 x2 (.cells #[.slice a1 D1.length k1,.slice a2 D2.length D2.length,.slice a3 D3.length k3] 31)
   refine hK.out _ _ (fun _=>(by obtain ⟨k0,k1,k2,k3,k4,k5,k6,k7,k8,k9⟩:=hHeld;exact ⟨s_alloc k0,s_alloc k1,s_alloc k2,s_alloc k3,s_alloc k4,s_alloc k5,s_alloc k6,s_alloc k7,s_alloc k8,s_alloc k9⟩)) (fun hHeld=>?_)
   replace hHeld:=hHeld (by decide)
   clear hK K
   try simp only [sA,sB,sC]
   replace h2:=h2.below hb'
   replace h1:=h1.below hb'
   replace h3:=h3.below hb'
   replace hs:=blk_keep hb' hs
   obtain ⟨ga,hga0⟩:∃ s,x2.heap.size=s:=⟨_,rfl⟩
   rw [hga0] at hga hlc
   simp only [hga0]
   replace hb:=below_keep hb' hb
   generalize x2.alloc (.cells #[.slice a1 D1.length k1,.slice a2 D2.length D2.length,.slice a3 D3.length k3] 31)=x3 at hga hb hHeld h1 h2 h3 hs ⊢
   clear hb' hga0 hlc
   refine tgo (i:=10) (by kernel_rfl) rfl (fun K hK=>?_)
   have hlc:w4.heap.size≤x3.heap.size:=hb.size
   go_simp
   have l1:D1.length≤400:=by rw [← List.length_map (f:=Sv.s),hD1];exact Nat.le_trans (len_cnt _) (by have:=HCN.out;rw [show (treeG g o).body=optS o ++ ((blk0 g).1 ++ g.es.map (edgeS g.ns)) from rfl,cnt_app] at this;omega)
   have l3:D3.length≤400:=by rw [← List.length_map (f:=Sv.s),hD3,List.length_map];have:=HGV.out.el;omega
   refine (conc3_of (.slice a1 D1.length k1) (.slice a2 D2.length D2.length) (.slice a3 D3.length k3) D1 D2 D3 (n0+3) ga x3 (Lh h1) (Lh h2) (Lh h3) (by omega) (by have:=HD2L.out;omega) (by omega) (Lh hga) (by omega)).mono ?_
   rintro e x4 ⟨⟨v,rfl,hv⟩,hb'⟩
   refine hK.out _ _ (fun _=>(by obtain ⟨k0,k1,k2,k3,k4,k5,k6,k7,k8,k9⟩:=hHeld;exact ⟨cell_later' hb' k0,cell_later' hb' k1,cell_later' hb' k2,cell_later' hb' k3,cell_later' hb' k4,cell_later' hb' k5,cell_later' hb' k6,cell_later' hb' k7,cell_later' hb' k8,cell_later' hb' k9⟩)) (fun hHeld=>?_)
   replace hHeld:=hHeld (by decide)
   clear hK K
   try simp only [sA,sB,sC]
   replace hs:=blk_keep hb' hs
   have hDD:(D1 ++ D2 ++ D3).map Sv.s=(treeG g o).body:=by rw [List.map_append,List.map_append,hD1,HD2.out,hD3,List.append_assoc];rfl
   obtain ⟨D,hD⟩:∃ D,D1 ++ D2 ++ D3=D:=⟨_,rfl⟩
   rw [hD] at hv hDD
   obtain ⟨ao,cap,rfl,qc1,qc2⟩:=hv.form2
   replace hb:=below_keep hb' hb
   clear hb' hlc h1 h2 h3 hga hD1 hD3 l1 l3 hD
   refine tgo (i:=11) (by kernel_rfl) rfl (fun K hK=>?_)
   have hlc:w4.heap.size≤x4.heap.size:=hb.size
   go_simp
   refine (ccutS_of ao D.length cap x4 qc1 qc2).mono ?_
   rintro e x5 ⟨rfl,rfl⟩
   refine hK.out _ _ (fun _=>(by obtain ⟨k0,k1,k2,k3,k4,k5,k6,k7,k8,k9⟩:=hHeld;exact ⟨k0,k1,k2,k3,k4,k5,k6,k7,k8,k9⟩)) (fun hHeld=>?_)
   replace hHeld:=hHeld (by decide)
   clear hK K
   try simp only [sA,sB,sC]
   refine ton 12 39 (.agg #[.string Gn,.bool g.dir,.slice ao D.length D.length]) ?_
   try simp only [sA,sB,sC]
   have f0:x4.frozen? ⟨tb,0,none⟩=false:=blk_free hs
   have e0:x4.cell? ⟨tb,0,none⟩=some (.string ⟨#[]⟩):=by rw [blk_cell hs];rfl
   have f1:x4.frozen? ⟨tb,1,none⟩=false:=blk_free hs
   have e1:x4.cell? ⟨tb,1,none⟩=some (.bool false):=by rw [blk_cell hs];rfl
   have f2:x4.frozen? ⟨tb,2,none⟩=false:=blk_free hs
   have e2:x4.cell? ⟨tb,2,none⟩=some (.slice none 0 0):=by rw [blk_cell hs];rfl
   refine tgo (i:=14) (by kernel_rfl) rfl (fun K hK=>?_)
   go_simp
   refine hK.out _ _ (fun h=>absurd rfl h) (fun hHeld=>?_)
   clear hK K hHeld
   try simp only [sA,sB,sC]
   refine tdone (by kernel_rfl) ?_ _
   have hst:Sts x4 (.slice ao D.length D.length) (treeG g o).body:=by rw [← hDD];exact hv.cut.selfL _ (agree.self _ _ _)
   have hbt:=HB4.out.trans (hb.mono (by omega))
   exact ⟨rfl,(HM.out _ _).2 ⟨tb,ao,D.length,D.length,rfl,by omega,below_set3 hbt (by omega) _ _ _,blk_far3 (blk_keep hb HK3.out) (by omega) _ _ _,blk_set3 hs _ _ _,sts_box hst hs (far3 _ _ _)⟩⟩
 intro a5 w5 hm
 obtain ⟨tb,ao,n,c,ha,htl,hb5,hk3,hk5,hst⟩:=(HM.out _ _).1 hm
 obtain ⟨f,rfl⟩:=ha.use
 clear HM hm M ha HK1 HK2 HK3 HB4 HRC2 HD2
 have d0:w5.cell? ⟨tb,0,none⟩=some (.string Gn):=by rw [blk_cell hk5];rfl
 have d1:w5.cell? ⟨tb,1,none⟩=some (.bool g.dir):=by rw [blk_cell hk5];rfl
 have d2:w5.cell? ⟨tb,2,none⟩=some (.slice ao n c):=by rw [blk_cell hk5];rfl
 obtain ⟨R,hR⟩:∃ R,validT (treeG g o)=R:=⟨_,rfl⟩
 have HRR:=Lh hR
 have HK3:=Lh hk3
 have HK5:=Lh hk5
 have HB5:=Lh hb5
 have HST:=Lh hst
 have HTV:Hid (TrV w5 (.agg #[.string Gn,.bool g.dir,.slice ao n c]) (treeG g o)):=Lh ⟨_,by rw [← HGN.out];rfl,HGL.out,hst⟩
 clear hR hk3 hk5 hb5 hst
 go_wp2_with fail
 refine (valid_of _ (treeG g o) R w5 HTV (Nat.le_trans HCN.out (by decide)) HRR).mono ?_
 rintro e w6 ⟨rfl,hb6⟩
 have HK3':=Lh (blk_keep hb6 HK3.out)
 have HK5':=Lh (blk_keep hb6 HK5.out)
 have HST':=Lh (HST.out.keep hb6)
 have HB6:=Lh (HB5.out.trans (hb6.mono (by have:=HB5.out.size;have:=HN0.out;omega)))
 clear hb6 HK3 HK5 HST HB5 HTV d0 d1 d2
 have hz6:=blk_lt HK5'.out
 by_cases r0:R=0
 case neg =>
  have bv:(R != 0)=true:=by rw [bne_iff_ne];exact r0
  have HE:Hid (T=emT∧E=R):=Lh (by have:=HR2.out;rw [HRR.out,if_pos r0] at this;exact ⟨(Prod.mk.inj this).1.symm,(Prod.mk.inj this).2.symm⟩)
  clear r0
  have f0:w6.frozen? ⟨n0+2,0,none⟩=false:=blk_free HK3'.out
  have f1:w6.frozen? ⟨n0+2,1,none⟩=false:=blk_free HK3'.out
  have f2:w6.frozen? ⟨n0+2,2,none⟩=false:=blk_free HK3'.out
  have z0:w6.cell? ⟨n0+2,0,none⟩=some (.string ⟨#[]⟩):=by rw [blk_cell HK3'.out];rfl
  have z1:w6.cell? ⟨n0+2,1,none⟩=some (.bool false):=by rw [blk_cell HK3'.out];rfl
  have z2:w6.cell? ⟨n0+2,2,none⟩=some (.slice none 0 0):=by rw [blk_cell HK3'.out];rfl
  go_wp2
  obtain ⟨rfl,rfl⟩:=HE.out
  have hbx:=blk_set3 (HK3'.out) (.string ⟨#[]⟩) (.bool false) (.slice none 0 0)
  have r0:=blk_cell (o:=0) hbx
  have r1:=blk_cell (o:=1) hbx
  have r2:=blk_cell (o:=2) hbx
  refine bodyPost_ret (v:=.tuple #[.agg #[.string ⟨#[]⟩,.bool false,.slice none 0 0],.int .i64 E]) (by simp [results,Tryz.results10,go_sem,r0,r1,r2]) rfl ?_
  exact ⟨_,rfl,em_trv _,by rw [HN0.out];exact below_set3 (HB6.out) (by omega) _ _ _⟩
 have bv:(R != 0)=false:=by rw [r0];rfl
 have HE:Hid (T=treeG g o∧E=0):=Lh (by have:=HR2.out;rw [HRR.out,if_neg (fun e=>e r0)] at this;exact ⟨(Prod.mk.inj this).1.symm,(Prod.mk.inj this).2.symm⟩)
 clear r0
 have d0:w6.cell? ⟨tb,0,none⟩=some (.string Gn):=by rw [blk_cell HK5'.out];rfl
 have d1:w6.cell? ⟨tb,1,none⟩=some (.bool g.dir):=by rw [blk_cell HK5'.out];rfl
 have d2:w6.cell? ⟨tb,2,none⟩=some (.slice ao n c):=by rw [blk_cell HK5'.out];rfl
 have f0:w6.frozen? ⟨n0+2,0,none⟩=false:=blk_free HK3'.out
 have f1:w6.frozen? ⟨n0+2,1,none⟩=false:=blk_free HK3'.out
 have f2:w6.frozen? ⟨n0+2,2,none⟩=false:=blk_free HK3'.out
 have z0:w6.cell? ⟨n0+2,0,none⟩=some (.string ⟨#[]⟩):=by rw [blk_cell HK3'.out];rfl
 have z1:w6.cell? ⟨n0+2,1,none⟩=some (.bool false):=by rw [blk_cell HK3'.out];rfl
 have z2:w6.cell? ⟨n0+2,2,none⟩=some (.slice none 0 0):=by rw [blk_cell HK3'.out];rfl
 go_wp2
 obtain ⟨rfl,rfl⟩:=HE.out
 have hbx:=blk_set3 HK3'.out (.string Gn) (.bool g.dir) (.slice ao n c)
 have r0:=blk_cell (o:=0) hbx
 have r1:=blk_cell (o:=1) hbx
 have r2:=blk_cell (o:=2) hbx
 refine bodyPost_ret (v:=.tuple #[.agg #[.string Gn,.bool g.dir,.slice ao n c],.int .i64 0]) (by simp [results,Tryz.results10,go_sem,r0,r1,r2]) rfl ?_
 exact ⟨_,rfl,⟨_,by rw [← HGN.out];rfl,HGL.out,sts_box HST'.out HK3'.out (far3 _ _ _)⟩,by rw [HN0.out];exact below_set3 HB6.out (by omega) _ _ _⟩
end Go.Proofs.YtgmidodmmlmmeaaGreatDoor.xpt
