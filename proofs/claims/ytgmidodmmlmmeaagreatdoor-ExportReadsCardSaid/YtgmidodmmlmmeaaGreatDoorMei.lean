/-
  The walk of the statement ExportReads of layer 13. Conditions: a graph in memory, the table of powers.
  What the statements of layer 13 need of their rows: a world in which the listed variables are laid, the table of powers as the library lays it, that the library's variable MaxLen holds a number, and how options come in. No condition.
-/
import Derived.Test.YtgmidodmmlmmeaaGreatDoorMeh
import Derived.Test.YtgmidodmmlmmeaaGreatDoorMrh
import Derived.Test.YtgmidodmmlmmeaaGreatDoorCards
import Derived.Test.YtgmidodmmlmmeaaGreatDoorTie
import Derived.Deep.DeepHandedRow
import Derived.LaidMore
import Derived.Lay
namespace Go.Proofs.YtgmidodmmlmmeaaGreatDoor.xpt
open Go.RowKit lex tre att nor prt par
theorem text_ways {g:gra.Gr}{o:Op'}{s:List UInt8}(h:textE g o=(s,0)):∃ T,treeE g o=(T,0)∧validT T=0∧s=txtT prL T∧s.length≤16384:=by
 unfold textE at h
 by_cases h1:(treeE g o).2≠0
 ·rw [if_pos h1] at h;exact absurd (Prod.mk.inj h).2 h1
 rw [if_neg h1] at h
 have h1:=Decidable.not_not.1 h1
 split at h
 ·exact absurd (Prod.mk.inj h).2 (by decide)
 rename_i h2
 have h3:treeE g o=((treeE g o).1,0):=by rw [← h1]
 have hv:=(tree_ways h3).2.2.2.2.2
 have h4:prtT prL (treeE g o).1=s:=(Prod.mk.inj h).1
 refine ⟨(treeE g o).1,h3,hv,?_,?_⟩
 ·rw [← h4];unfold prtT;rw [if_pos hv]
 ·rw [← h4];omega
set_option maxRecDepth 100000 in
set_option maxHeartbeats 16000000 in
theorem wreads (g:gra.Gr)(o:Op')(gv:Value)(w:World)(h:Hid (gra.GrV w gv g))(htb:Hid (Tab w)) :
    Calls Tryz.prog 6 #[gv,opV o] w fun e w'=>e=.returned (.bool true)∧Below w.heap.size w w':=by
 have hmx:Tryz.prog.follows .mixedOrders=true:=by kernel_rfl
 obtain ⟨nv,ev,cv,rfl,hgn,hns,hes,hcs⟩:=id h.out
 obtain ⟨no,nc,rfl,-,hnm,-⟩:=id hns
 obtain ⟨eo,ec,rfl,-,-,-⟩:=id hes
 obtain ⟨co,cc,rfl,-,-,-⟩:=id hcs
 clear hns hes hcs hgn hnm
 obtain ⟨Gn,hGn⟩:∃ X,bb g.nm=X:=⟨_,rfl⟩
 have HG:=Lh (show gra.GrV w (.agg #[.string Gn,.bool g.dir,.slice no g.ns.length nc,.slice eo g.es.length ec,.slice co g.cs.length cc]) g by rw [← hGn];exact h.out)
 rw [show gra.bb g.nm=Gn from hGn]
 clear h hGn
 unfold opV
 have HK1:=Lh (blk_new w #[.string Gn,.bool g.dir,.slice no g.ns.length nc,.slice eo g.es.length ec,.slice co g.cs.length cc] 26)
 have HB1:=Lh (al1 w (.cells #[.string Gn,.bool g.dir,.slice no g.ns.length nc,.slice eo g.es.length ec,.slice co g.cs.length cc] 26))
 have HQ1:Hid ((w.alloc (.cells #[.string Gn,.bool g.dir,.slice no g.ns.length nc,.slice eo g.es.length ec,.slice co g.cs.length cc] 26)).heap.size=w.heap.size+1):=Lh (by simp)
 go_enter Tryz.func6,Tryz.ntmps6
 go_wp2_with fail
 generalize w.alloc (.cells #[.string Gn,.bool g.dir,.slice no g.ns.length nc,.slice eo g.es.length ec,.slice co g.cs.length cc] 26)=wa at HK1 HB1 HQ1 ⊢
 have hq1:=HQ1.out
 have b2:=al1 wa (.cells #[.int .i64 o.mode,.int .i64 o.ns,.int .i64 o.rs,.int .i64 o.mg,.int .i64 o.rd] 28)
 have k2:=blk_new wa #[.int .i64 o.mode,.int .i64 o.ns,.int .i64 o.rs,.int .i64 o.mg,.int .i64 o.rd] 28
 have q2:(wa.alloc (.cells #[.int .i64 o.mode,.int .i64 o.ns,.int .i64 o.rs,.int .i64 o.mg,.int .i64 o.rd] 28)).heap.size=w.heap.size+2:=by simp;omega
 generalize wa.alloc (.cells #[.int .i64 o.mode,.int .i64 o.ns,.int .i64 o.rs,.int .i64 o.mg,.int .i64 o.rd] 28)=w1 at b2 k2 q2 ⊢
 rw [hq1] at k2
 have hb1:=below_keep b2 HB1.out
 have hk1:=blk_keep b2 HK1.out
 clear b2 HK1 HB1 HQ1 hq1
 obtain ⟨n0,hn0⟩:∃ n0,w.heap.size=n0:=⟨_,rfl⟩
 rw [hn0] at hb1 q2 hk1 k2
 try simp only [hn0]
 have HN0:=Lh hn0
 clear hn0
 refine (few_any g _ w1 (Lh (HG.out.keep (show Below w.heap.size w w1 by rw [HN0.out];exact hb1)))).mono ?_
 rintro e w2 ⟨⟨b,rfl⟩,hb2⟩
 have HB2:=Lh (hb1.trans (hb2.mono (by omega)))
 have HK1:=Lh (blk_keep hb2 hk1)
 have HK2:=Lh (blk_keep hb2 k2)
 clear hb1 hb2 hk1 k2 q2
 have hz2:=blk_lt HK2.out
 cases b
 case false =>
  go_wp2_with fail
  refine (awake_of w2 (Lh (tab_below htb.out (show Below w.heap.size w w2 by rw [HN0.out];exact HB2.out)))).mono ?_
  rintro e w3 ⟨rfl,hb3⟩
  have HB3:=Lh (HB2.out.trans (hb3.mono (by omega)))
  clear hb3
  go_wp2
  go_ret
  exact ⟨rfl,by rw [HN0.out];exact HB3.out⟩
 obtain ⟨s,E,hs⟩:∃ s E,textE g o=(s,E):=⟨_,_,rfl⟩
 obtain ⟨S,hS⟩:∃ S,bb s=S:=⟨_,rfl⟩
 have HS:=Lh hs
 have HSS:=Lh hS
 clear hs hS
 have c0:w2.cell? ⟨n0,0,none⟩=some (.string Gn):=by rw [blk_cell HK1.out];rfl
 have c1:w2.cell? ⟨n0,1,none⟩=some (.bool g.dir):=by rw [blk_cell HK1.out];rfl
 have c2:w2.cell? ⟨n0,2,none⟩=some (.slice no g.ns.length nc):=by rw [blk_cell HK1.out];rfl
 have c3:w2.cell? ⟨n0,3,none⟩=some (.slice eo g.es.length ec):=by rw [blk_cell HK1.out];rfl
 have c4:w2.cell? ⟨n0,4,none⟩=some (.slice co g.cs.length cc):=by rw [blk_cell HK1.out];rfl
 have o0:w2.cell? ⟨n0+1,0,none⟩=some (.int .i64 o.mode):=by rw [blk_cell HK2.out];rfl
 have o1:w2.cell? ⟨n0+1,1,none⟩=some (.int .i64 o.ns):=by rw [blk_cell HK2.out];rfl
 have o2:w2.cell? ⟨n0+1,2,none⟩=some (.int .i64 o.rs):=by rw [blk_cell HK2.out];rfl
 have o3:w2.cell? ⟨n0+1,3,none⟩=some (.int .i64 o.mg):=by rw [blk_cell HK2.out];rfl
 have o4:w2.cell? ⟨n0+1,4,none⟩=some (.int .i64 o.rd):=by rw [blk_cell HK2.out];rfl
 go_wp2_with fail
 refine (ctext13_of g o _ S s E w2 (Lh (HG.out.keep (show Below w.heap.size w w2 by rw [HN0.out];exact HB2.out))) (Lh (tab_below htb.out (show Below w.heap.size w w2 by rw [HN0.out];exact HB2.out))) HS HSS).mono ?_
 rintro e w3 ⟨rfl,hb3⟩
 have HB3:=Lh (HB2.out.trans (hb3.mono (by omega)))
 have HK1':=Lh (blk_keep hb3 HK1.out)
 have HK2':=Lh (blk_keep hb3 HK2.out)
 clear hb3 c0 c1 c2 c3 c4 o0 o1 o2 o3 o4
 by_cases hz:E=0
 case neg =>
  have z0:(E != 0)=true:=by rw [bne_iff_ne];exact hz
  clear hz
  go_wp2_with fail
  refine (awake_of w3 (Lh (tab_below htb.out (show Below w.heap.size w w3 by rw [HN0.out];exact HB3.out)))).mono ?_
  rintro e w4 ⟨rfl,hbz⟩
  have HBZ:=Lh (HB3.out.trans (hbz.mono (by have:=HB3.out.size;have:=HN0.out;omega)))
  clear hbz
  go_wp2
  go_ret
  exact ⟨rfl,by rw [HN0.out];exact HBZ.out⟩
 subst hz
 obtain ⟨T,hT,hv,hsl,h16⟩:=text_ways HS.out
 have HT:=Lh hT
 have hq0:S.data.toList=s:=by rw [← HSS.out]
 have hqs:S.size=s.length:=by rw [← hq0];rfl
 have HP:Hid (parE S.data.toList=(T,0,0)):=Lh (by
  unfold parE
  rw [hq0,tokE_small h16,hsl]
  exact par_back prL_back prL_form hv)
 have hqm:S.size≤maxLen:=by rw [hqs];exact Nat.le_trans h16 (by decide)
 obtain ⟨TN,hTN⟩:∃ X,bb T.name=X:=⟨_,rfl⟩
 obtain ⟨TD,hTD⟩:∃ X,T.dir=X:=⟨_,rfl⟩
 obtain ⟨n,hn⟩:∃ X,T.body.length=X:=⟨_,rfl⟩
 have HEQ:Hid (TN=bb T.name∧TD=T.dir∧n=T.body.length):=Lh ⟨hTN.symm,hTD.symm,hn.symm⟩
 clear hT hTN hTD hn hv hsl h16 hq0 hqs
 have c0:w3.cell? ⟨n0,0,none⟩=some (.string Gn):=by rw [blk_cell HK1'.out];rfl
 have c1:w3.cell? ⟨n0,1,none⟩=some (.bool g.dir):=by rw [blk_cell HK1'.out];rfl
 have c2:w3.cell? ⟨n0,2,none⟩=some (.slice no g.ns.length nc):=by rw [blk_cell HK1'.out];rfl
 have c3:w3.cell? ⟨n0,3,none⟩=some (.slice eo g.es.length ec):=by rw [blk_cell HK1'.out];rfl
 have c4:w3.cell? ⟨n0,4,none⟩=some (.slice co g.cs.length cc):=by rw [blk_cell HK1'.out];rfl
 have o0:w3.cell? ⟨n0+1,0,none⟩=some (.int .i64 o.mode):=by rw [blk_cell HK2'.out];rfl
 have o1:w3.cell? ⟨n0+1,1,none⟩=some (.int .i64 o.ns):=by rw [blk_cell HK2'.out];rfl
 have o2:w3.cell? ⟨n0+1,2,none⟩=some (.int .i64 o.rs):=by rw [blk_cell HK2'.out];rfl
 have o3:w3.cell? ⟨n0+1,3,none⟩=some (.int .i64 o.mg):=by rw [blk_cell HK2'.out];rfl
 have o4:w3.cell? ⟨n0+1,4,none⟩=some (.int .i64 o.rd):=by rw [blk_cell HK2'.out];rfl
 go_wp2_with fail
 refine (ctree_of g o _ T 0 w3 (Lh (HG.out.keep (show Below w.heap.size w w3 by rw [HN0.out];exact HB3.out))) (Lh (tab_below htb.out (show Below w.heap.size w w3 by rw [HN0.out];exact HB3.out))) HT).mono ?_
 rintro e w4 ⟨tv,rfl,htv,hb4⟩
 obtain ⟨bv,rfl,hnl,hst⟩:=id htv
 obtain ⟨ao,ac,rfl,-⟩:=id hst
 rw [← HEQ.out.1,← HEQ.out.2.1,← HEQ.out.2.2] at htv
 rw [← HEQ.out.1,← HEQ.out.2.1,← HEQ.out.2.2]
 have b4:=al1 w4 (.cells #[.string TN,.bool TD,.slice ao n ac] 33)
 have HT4:=Lh (htv.keep b4)
 have HB4:=Lh (HB3.out.trans ((below_keep b4 hb4).mono (by have:=HB3.out.size;have:=HN0.out;omega)))
 have HX4:=Lh (blk_new w4 #[.string TN,.bool TD,.slice ao n ac] 33)
 clear hb4 b4 c0 c1 c2 c3 c4 o0 o1 o2 o3 o4 hst htv hnl HK1' HK2' HK1 HK2
 go_wp2_with fail
 generalize w4.alloc (.cells #[.string TN,.bool TD,.slice ao n ac] 33)=w5 at HT4 HB4 HX4 ⊢
 obtain ⟨t1,ht1⟩:∃ t,w4.heap.size=t:=⟨_,rfl⟩
 rw [ht1] at HX4
 try simp only [ht1]
 clear ht1
 refine (parse_of S T 0 0 w5 hqm (Lh (tab_below htb.out (show Below w.heap.size w w5 by rw [HN0.out];exact HB4.out))) HP).mono ?_
 rintro e w6 ⟨uv,rfl,huv,hb6⟩
 obtain ⟨bv,rfl,hnl,hst⟩:=id huv
 obtain ⟨bo,bc,rfl,-⟩:=id hst
 rw [← HEQ.out.1,← HEQ.out.2.1,← HEQ.out.2.2] at huv
 rw [← HEQ.out.1,← HEQ.out.2.1,← HEQ.out.2.2]
 have b6:=al1 w6 (.cells #[.string TN,.bool TD,.slice bo n bc] 33)
 have HU6:=Lh (huv.keep b6)
 have HT6:=Lh ((HT4.out.keep hb6).keep b6)
 have HB6:=Lh (HB4.out.trans ((below_keep b6 hb6).mono (by have:=HB4.out.size;have:=HN0.out;omega)))
 have hx6:=blk_keep b6 (blk_keep hb6 HX4.out)
 have hy6:=blk_new w6 #[.string TN,.bool TD,.slice bo n bc] 33
 clear hb6 b6 hst huv hnl HT4 HB4 HX4
 have x0:(w6.alloc (.cells #[.string TN,.bool TD,.slice bo n bc] 33)).cell? ⟨t1,0,none⟩=some (.string TN):=by rw [blk_cell hx6];rfl
 have x1:(w6.alloc (.cells #[.string TN,.bool TD,.slice bo n bc] 33)).cell? ⟨t1,1,none⟩=some (.bool TD):=by rw [blk_cell hx6];rfl
 have x2:(w6.alloc (.cells #[.string TN,.bool TD,.slice bo n bc] 33)).cell? ⟨t1,2,none⟩=some (.slice ao n ac):=by rw [blk_cell hx6];rfl
 clear hx6 hy6
 go_wp2_with fail
 have hzz:n0≤(w6.alloc (.cells #[.string TN,.bool TD,.slice bo n bc] 33)).heap.size:=by have:=HB6.out.size;have:=HN0.out;omega
 generalize w6.alloc (.cells #[.string TN,.bool TD,.slice bo n bc] 33)=w7 at HU6 HT6 HB6 x0 x1 x2 hzz ⊢
 refine (requal_of _ _ T T true w7 HT6 HU6 (Lh (eqT_self T))).mono ?_
 rintro e w8 ⟨rfl,hb8⟩
 have HB8:=Lh (HB6.out.trans (hb8.mono hzz))
 have hzy:n0≤w8.heap.size:=Nat.le_trans hzz hb8.size
 clear hb8 x0 x1 x2 HU6 HT6
 go_wp2_with fail
 refine (awake_of w8 (Lh (tab_below htb.out (show Below w.heap.size w w8 by rw [HN0.out];exact HB8.out)))).mono ?_
 rintro e w9 ⟨rfl,hbz⟩
 have HBZ:=Lh (HB8.out.trans (hbz.mono hzy))
 clear hbz
 go_wp2
 go_ret
 exact ⟨rfl,by rw [HN0.out];exact HBZ.out⟩
end Go.Proofs.YtgmidodmmlmmeaaGreatDoor.xpt
namespace Go.Proofs.YtgmidodmmlmmeaaGreatDoor.xpt
open Go.ChangeShapes Go.WideShapes Go.ChangeAt Go.RowKit Go.Joins lex tre att nor
def laidS:List (String × DataW Unit):=Rows.exportTreesRow.laid
theorem tab_is {W:World}(h:laidMetH Tryz.prog laidS W):Tab W:=by
 rw [MakeChecks.laidMetH_plain _ _ _ (by kernel_rfl)] at h
 obtain ⟨ps,⟨g0,t0,cs0,fuel0,p0,q0,_,_,_,_,⟨g1,t1,cs1,fuel1,p1,q1,_,_,_,_,⟨g,t,cs,fuel,p,q,hg,ht,hv,hd,_,_⟩,_⟩,_⟩,_,_⟩:=h
 obtain rfl := Option.some.inj ((show Tryz.prog.globalNamed "internal/strconv.uint64pow10" = some 0 by kernel_rfl).symm.trans hg)
 obtain rfl:=Option.some.inj ((show (Tryz.prog.globals[0]?).map (·.type)=some 329 by kernel_rfl).symm.trans ht)
 have e:(Rows.laid_internal_strconv_uint64pow10:DataW Unit)=Lib.tabData .u64 Lib.pow10Tab:=by kernel_rfl
 rw [e] at hd
 unfold Tab Lib.TabIs
 rw [hv,← Lib.cells_of_tab Tryz.underlying329 Tryz.underlying219 (by kernel_rfl) (by kernel_rfl) hd]
theorem arr5 {cs:Array Value}(h:cs.size=5):∃ a b c d e,cs=#[a,b,c,d,e]:=by
 obtain ⟨l⟩:=cs
 match l,h with
 | [a,b,c,d,e],_=>exact ⟨a,b,c,d,e,rfl⟩
section
variable {H:Type} {enc:TypeId × Value→H} {w:World} {base:Nat} {spare:Nat→Bool} {held:Bool}
set_option maxRecDepth 100000 in
theorem open_options {r:Reach}{b0:Nat}{v:Value}{d:DataW H}{p:List MemPlace}(hv:Value.okWide Tryz.prog w r b0 28 v)(h:DataW.Trod enc Tryz.prog w base spare held 28 v d p):∃ o,v=opV o:=by
 obtain ⟨cs,rfl,hsz⟩:=okWide_struct Tryz.underlying28 hv
 obtain ⟨fuel,hf⟩:=h
 obtain ⟨y0,y1,y2,y3,y4,n,_,hl,k0,k1,k2,k3,k4⟩:=trod_struct5 Tryz.underlying28 hf
 have hc5:Tryz.prog.cellsOf 28=5:=by kernel_rfl
 obtain ⟨c0,c1,c2,c3,c4,rfl⟩:=arr5 (hsz.trans hc5)
 have hci:Tryz.prog.cellsOf 3=1:=by kernel_rfl
 simp [Value.cells,hci] at k0 k1 k2 k3 k4
 obtain ⟨x0,e0,_⟩:=DataW.trod_int Tryz.underlying3 k0
 obtain ⟨x1,e1,_⟩:=DataW.trod_int Tryz.underlying3 k1
 obtain ⟨x2,e2,_⟩:=DataW.trod_int Tryz.underlying3 k2
 obtain ⟨x3,e3,_⟩:=DataW.trod_int Tryz.underlying3 k3
 obtain ⟨x4,e4,_⟩:=DataW.trod_int Tryz.underlying3 k4
 simp at e0 e1 e2 e3 e4
 subst e0 e1 e2 e3 e4
 exact ⟨⟨x0,x1,x2,x3,x4⟩,rfl⟩
end
end Go.Proofs.YtgmidodmmlmmeaaGreatDoor.xpt
