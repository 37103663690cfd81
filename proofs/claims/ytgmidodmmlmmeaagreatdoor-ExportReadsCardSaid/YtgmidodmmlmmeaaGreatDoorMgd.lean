/-
  What nodeError of the landed graph returns. Condition: a graph in memory.
  What clusterError of the landed graph returns. Conditions: a graph in memory; clusters before it that lie in earlier ones.
-/
import Derived.Test.YtgmidodmmlmmeaaGreatDoorMgc
namespace Go.Proofs.YtgmidodmmlmmeaaGreatDoor.gra
open Go.RowKit lex
theorem node_conv (g:Gr)(pre:List Nd)(x:Nd):nodeE g pre x=if isNm x.nm=false then 5 else if pre.any (fun y=>y.nm == x.nm)=true then 6 else if labE x.lb≠0 then labE x.lb
    else if (decide (1≤x.w∧x.w≤1048576) && decide (1≤x.h∧x.h≤1048576) && decide (-1≤x.cl∧x.cl < (g.cs.length:Int)))=false then 3 else if 8 < x.ps.length then 2 else firstE portE [] x.ps:=by
 have e:nodeE g pre x=if isNm x.nm=false then 5 else if pre.any (fun y=>y.nm == x.nm)=true then 6 else if 32 < x.lb.length then 2 else if plainB x.lb=false then 7
     else if x.w < 1∨1048576 < x.w∨x.h < 1∨1048576 < x.h∨x.cl < -1∨(g.cs.length:Int)≤x.cl then 3 else if 8 < x.ps.length then 2 else firstE portE [] x.ps:=rfl
 rw [e]
 have hc:((decide (1≤x.w∧x.w≤1048576) && decide (1≤x.h∧x.h≤1048576) && decide (-1≤x.cl∧x.cl < (g.cs.length:Int)))=false) ↔ (x.w < 1∨1048576 < x.w∨x.h < 1∨1048576 < x.h∨x.cl < -1∨(g.cs.length:Int)≤x.cl):=by
  simp only [Bool.and_eq_false_iff,decide_eq_false_iff_not]
  omega
 simp only [hc]
 cases isNm x.nm
 ·rfl
 cases pre.any (fun y=>y.nm == x.nm)
 ·unfold labE
  by_cases C:32 < x.lb.length
  ·simp [C]
  ·cases hp:plainB x.lb <;> simp [C]
 ·rfl
set_option maxRecDepth 100000 in
set_option maxHeartbeats 16000000 in
theorem node_of (v:Value)(g:Gr)(i:Nat)(R:Int)(w:World)(h:Hid (GrV w v g))(hi:i < g.ns.length)(hr:Hid (nodeE g (g.ns.take i) g.ns[i]=R)) :
    Calls Tryz.prog 61 #[v,.int .i64 i] w fun e w'=>e=.returned (.int .i64 R)∧Below w.heap.size w w':=by
 have hg:=h.out
 obtain ⟨nv,ev,cv,rfl,hnl,hns,hes,hcs⟩:=h.out
 obtain ⟨no,nc,rfl,hm0,hm1,-⟩:=id hns
 obtain ⟨eo,ec,rfl,-,-,-⟩:=id hes
 obtain ⟨co,cc,rfl,-,-,-⟩:=id hcs
 unfold maxLen at hm1
 have hlm:g.ns.length≤9223372036854775807:=by omega
 obtain ⟨x,hx⟩:∃ x,g.ns[i]=x:=⟨_,rfl⟩
 have hxi:g.ns[i]?=some x:=by rw [List.getElem?_eq_getElem hi,hx]
 have hget:=(hns.keep (al1 w (.cells #[.string (bb g.nm),.bool g.dir,.slice no g.ns.length nc,.slice eo g.es.length ec,.slice co g.cs.length cc] 26))).get hi
 have hfe:=hr.out
 rw [hx] at hget hfe
 obtain ⟨A,rfl,q0,q1,q2,q3,q4,⟨pv,q5,hps⟩,z0,z1,-⟩:=hget
 rw [node_conv] at hfe
 obtain ⟨xn,xl,xw,xh,xc,xp⟩:=x
 simp only at q0 q1 q2 q3 q4 q5 hps z0 z1 hfe
 obtain ⟨po,pc,rfl,hp0,hp1,-⟩:=id hps
 unfold maxLen at hp1
 have hpl:xp.length≤9223372036854775807:=by omega
 obtain ⟨Y,hY⟩:∃ Y,bb xn=Y:=⟨_,rfl⟩
 obtain ⟨Z,hZ⟩:∃ Z,bb xl=Z:=⟨_,rfl⟩
 rw [hY] at q0
 rw [hZ] at q1
 have hY2:Y.data.toList=xn:=by rw [← hY]
 have hZ2:Z.data.toList=xl:=by rw [← hZ]
 have hYs:Y.size≤maxLen:=by rw [← size_list,hY2];exact z0
 have hZs:Z.size≤maxLen:=by rw [← size_list,hZ2];exact z1
 have i0:(0:Int)≤(i:Int):=by omega
 have i1:(i:Int) < (g.ns.length:Int):=by omega
 obtain ⟨b1,hb1⟩:∃ b,isNm Y.data.toList=b:=⟨_,rfl⟩
 obtain ⟨F,hF⟩:∃ b,findV g Y.data.toList=b:=⟨_,rfl⟩
 obtain ⟨b2,hb2⟩:∃ b,(g.ns.take i).any (fun y=>y.nm == Y.data.toList)=b:=⟨_,rfl⟩
 have hdup:F=(i:Int) ↔ b2=false:=by
  have:=findG_dup (s:=Y.data.toList) (l:=g.ns) (i:=i) (x:=⟨xn,xl,xw,xh,xc,xp⟩) 0 hxi hY2.symm
  rw [← hF,← hb2,← this,Nat.zero_add];rfl
 obtain ⟨e3,hb3⟩:∃ b,labE Z.data.toList=b:=⟨_,rfl⟩
 obtain ⟨b4,hb4⟩:∃ b,decide (1≤xw∧xw≤1048576)=b:=⟨_,rfl⟩
 obtain ⟨b5,hb5⟩:∃ b,decide (1≤xh∧xh≤1048576)=b:=⟨_,rfl⟩
 obtain ⟨b6,hb6⟩:∃ b,decide (-1≤xc∧xc < (g.cs.length:Int))=b:=⟨_,rfl⟩
 have H1:=Lh hb1
 have HF:=Lh hF
 have HD:=Lh hdup
 have H3:=Lh hb3
 have H4:=Lh hb4
 have H5:=Lh hb5
 have H6:=Lh hb6
 rw [← hY2,← hZ2,hb1,hb2,hb3,hb4,hb5,hb6] at hfe
 have HE:=Lh hfe
 have HB:=Lh (al2 w (.cells #[.string (bb g.nm),.bool g.dir,.slice (some A) g.ns.length nc,.slice eo g.es.length ec,.slice co g.cs.length cc] 26) (.cells #[.string Y,.string Z,.int .i64 xw,.int .i64 xh,.int .i64 xc,.slice po xp.length pc] 59))
 have HG:=Lh (gat_alloc (.cells #[.string Y,.string Z,.int .i64 xw,.int .i64 xh,.int .i64 xc,.slice po xp.length pc] 59) (gat_new w (bb g.nm) g.dir (.slice (some A) g.ns.length nc) (.slice eo g.es.length ec) (.slice co g.cs.length cc) 26))
 have HX:Hid (nbx ((w.alloc (.cells #[.string (bb g.nm),.bool g.dir,.slice (some A) g.ns.length nc,.slice eo g.es.length ec,.slice co g.cs.length cc] 26)).alloc (.cells #[.string Y,.string Z,.int .i64 xw,.int .i64 xh,.int .i64 xc,.slice po xp.length pc] 59)) (w.heap.size+1) Y Z xw xh xc (.slice po xp.length pc)):=Lh (by
  have:=nbx_new (w.alloc (.cells #[.string (bb g.nm),.bool g.dir,.slice (some A) g.ns.length nc,.slice eo g.es.length ec,.slice co g.cs.length cc] 26)) Y Z xw xh xc po xp.length pc 59
  rwa [World.size_alloc] at this)
 have HPS:=Lh (Pts.keep hps (al1 _ (.cells #[.string Y,.string Z,.int .i64 xw,.int .i64 xh,.int .i64 xc,.slice po xp.length pc] 59)))
 clear hb1 hF hb2 hdup hb3 hb4 hb5 hb6 hfe hY hZ hY2 hZ2 hps hx hxi hns hes hcs hnl hm0 hm1 hp0 hp1 z0 z1 h hr
 go_enter Tryz.func61,Tryz.ntmps61
 go_wp2_with fail
 refine (isname_of Y b1 _ hYs H1).mono ?_
 rintro e w1 ⟨rfl,hw1⟩
 have HB1:=Lh (below_keep hw1 HB.out)
 have HG1:=Lh (gat_keep HG.out hw1)
 have HX1:=Lh (nbx_keep HX.out hw1)
 have HGR1:=Lh (hg.keep HB1.out)
 have HPS1:=Lh (HPS.out.keep hw1)
 clear q0 q1 q2 q3 q4 q5 hw1
 obtain ⟨x0,x1,x2,x3,x4,x5⟩:=HX1.out
 obtain ⟨g0,g1,g2,g3,g4⟩:=HG1.out
 cases b1
 ·obtain rfl:5=R:=by rw [← HE.out];rfl
  go_wp2
  go_ret
  exact ⟨rfl,HB1.out⟩
 go_wp2_with fail
 refine (cfind_of _ g Y F _ HGR1 HF).mono ?_
 rintro e w2 ⟨rfl,hw2⟩
 have HB2:=Lh (below_keep hw2 HB1.out)
 have HG2:=Lh (gat_keep HG1.out hw2)
 have HX2:=Lh (nbx_keep HX1.out hw2)
 have HPS2:=Lh (HPS1.out.keep hw2)
 clear x0 x1 x2 x3 x4 x5 g0 g1 g2 g3 g4 hw2 HGR1
 obtain ⟨x0,x1,x2,x3,x4,x5⟩:=HX2.out
 obtain ⟨g0,g1,g2,g3,g4⟩:=HG2.out
 cases b2
 case true =>
  obtain rfl:6=R:=by rw [← HE.out];rfl
  have zf:(F != (i:Int))=true:=by rw [bne_iff_ne];exact fun e=>by have:=HD.out.1 e;cases this
  go_wp2
  go_ret
  exact ⟨rfl,HB2.out⟩
 have zf:(F != (i:Int))=false:=by rw [bne_eq_false_iff_eq];exact HD.out.2 rfl
 go_wp2_with fail
 refine (label_of Z e3 _ hZs H3).mono ?_
 rintro e w3 ⟨rfl,hw3⟩
 have HB3:=Lh (below_keep hw3 HB2.out)
 have HG3:=Lh (gat_keep HG2.out hw3)
 have HX3:=Lh (nbx_keep HX2.out hw3)
 have HPS3:=Lh (HPS2.out.keep hw3)
 have HGR3:=Lh (hg.keep HB3.out)
 clear x0 x1 x2 x3 x4 x5 g0 g1 g2 g3 g4 hw3 zf
 obtain ⟨x0,x1,x2,x3,x4,x5⟩:=HX3.out
 obtain ⟨g0,g1,g2,g3,g4⟩:=HG3.out
 have hE:=HE.out
 simp only [Bool.true_eq_false,if_false,Bool.false_eq_true] at hE
 have HE2:=Lh hE
 clear hE HE
 by_cases he3:e3=0
 case neg =>
  have z3:(e3 != 0)=true:=by rw [bne_iff_ne];exact he3
  have HQ:Hid (e3=R):=Lh (by have:=HE2.out;rw [if_pos he3] at this;exact this)
  clear he3
  go_wp2
  go_ret
  exact ⟨ret_int HQ.out,HB3.out⟩
 subst he3
 have hE:=HE2.out
 simp only [ne_eq,not_true_eq_false,if_false] at hE
 have HE3:=Lh hE
 clear hE HE2
 go_wp2_with fail
 refine (isfrom_of 1 1048576 xw b4 _ H4).mono ?_
 rintro e w4 ⟨rfl,rfl⟩
 cases b4
 ·obtain rfl:3=R:=by rw [← HE3.out];simp
  go_wp2
  go_ret
  exact ⟨rfl,HB3.out⟩
 go_wp2_with fail
 refine (isfrom_of 1 1048576 xh b5 _ H5).mono ?_
 rintro e w4 ⟨rfl,rfl⟩
 cases b5
 ·obtain rfl:3=R:=by rw [← HE3.out];simp
  go_wp2
  go_ret
  exact ⟨rfl,HB3.out⟩
 go_wp2_with fail
 refine (isclu_of _ g xc b6 _ HGR3 H6).mono ?_
 rintro e w4 ⟨rfl,hw4⟩
 have HB4:=Lh (below_keep hw4 HB3.out)
 have HX4:=Lh (nbx_keep HX3.out hw4)
 have HPS4:=Lh (HPS3.out.keep hw4)
 clear x0 x1 x2 x3 x4 x5 g0 g1 g2 g3 g4 hw4 HGR3
 obtain ⟨x0,x1,x2,x3,x4,x5⟩:=HX4.out
 cases b6
 ·obtain rfl:3=R:=by rw [← HE3.out];simp
  go_wp2
  go_ret
  exact ⟨rfl,HB4.out⟩
 have hE:=HE3.out
 simp only [Bool.and_self,Bool.true_eq_false,if_false] at hE
 by_cases h8:8 < xp.length
 ·rw [if_pos h8] at hE
  subst hE
  have l8:(8:Int) < (xp.length:Int):=by omega
  clear h8 HE3
  go_wp2
  go_ret
  exact ⟨rfl,HB4.out⟩
 rw [if_neg h8] at hE
 have l8:¬ (8:Int) < (xp.length:Int):=by omega
 have HE4:Hid (firstE portE (xp.take 0) (xp.drop 0)=R):=Lh (by rw [List.take_zero,List.drop_zero];exact hE)
 clear h8 hE HE3
 go_wp2_with fail
 clear x0 x1 x2 x3 x4 x5 l8
 go_loopw [58] (fun iv wr=>∃ k:Nat,iv=.int .i64 k∧k≤xp.length∧firstE portE (xp.take k) (xp.drop k)=R∧Below w4.heap.size w4 wr) (fun iv _=>xp.length - (intOf iv).toNat)
 case atStart=>exact ⟨0,rfl,Nat.zero_le _,HE4.out,Below.refl _ _⟩
 case round =>
  obtain ⟨k,rfl,hk,hfe,hB5⟩:=hrel
  rename World=>wr
  have HB5:=Lh (below_keep hB5 HB4.out)
  have HX5:=Lh (nbx_keep HX4.out hB5)
  have HPS5:=Lh (HPS4.out.keep hB5)
  have HBB:=Lh hB5
  clear HE4 hB5
  by_cases hlt:k < xp.length
  ·rw [firstE_at hlt] at hfe
   obtain ⟨e6,he6⟩:∃ b,portE (xp.take k) xp[k]=b:=⟨_,rfl⟩
   rw [he6] at hfe
   have HP:=Lh he6
   have HF6:=Lh hfe
   obtain ⟨x0,x1,x2,x3,x4,x5⟩:=HX5.out
   clear he6 hfe
   go_wp2_with fail
   refine (port_of _ xp k e6 wr HPS5 hlt HP).mono ?_
   rintro e w6 ⟨rfl,hw6⟩
   have HB6:=Lh (below_keep hw6 HB5.out)
   have HBB6:=Lh (below_keep hw6 HBB.out)
   clear hw6 x0 x1 x2 x3 x4 x5
   by_cases h6:e6=0
   ·subst h6
    have hN:=HF6.out
    simp only [ne_eq,not_true_eq_false,if_false] at hN
    have HN:=Lh hN
    clear hN
    go_wp2
    go_roundw
    case rel=>exact ⟨k+1,by go_num,by omega,HN.out,HBB6.out⟩
    case measure=>simp [intOf];omega
   ·have z6:(e6 != 0)=true:=by rw [bne_iff_ne];exact h6
    have HQ:Hid (e6=R):=Lh (by have:=HF6.out;rw [if_pos h6] at this;exact this)
    clear h6
    go_wp2
    go_ret
    exact ⟨ret_int HQ.out,HB6.out⟩
  ·rw [firstE_end (by omega)] at hfe
   subst hfe
   go_wp2
   go_ret
   exact ⟨rfl,HB5.out⟩
theorem cb_drew {W w:World}(h:Below W.heap.size W w):Below W.heap.size W w.drew:=h.drew
theorem cb_alloc {W w:World}{o:Obj}(h:Below W.heap.size W w):Below W.heap.size W (w.alloc o):=below_keep (al1 ..) h
theorem cb_set {W w:World}{g:Nat}{o:Nat}{v:Value}(hg:W.heap.size≤g)(h:Below W.heap.size W w):Below W.heap.size W (w.setCell ⟨g,o,none⟩ v):=h.setCell hg _
theorem cl_keep {W w:World}{p0 p1 p2:Addr}{u0 u1 u2:Value}(a0:W.cell? p0=some u0)(a1:W.cell? p1=some u1)(a2:W.cell? p2=some u2)(h:Below W.heap.size W w):Below W.heap.size W w∧w.cell? p0=some u0∧w.cell? p1=some u1∧w.cell? p2=some u2 :=
 ⟨h,cell_later' h a0,cell_later' h a1,cell_later' h a2⟩
set_option maxRecDepth 100000 in
set_option maxHeartbeats 16000000 in
theorem cluster_of (v:Value)(g:Gr)(i:Nat)(R:Int)(w:World)(h:Hid (GrV w v g))(hi:i < g.cs.length)(hw:Hid (Wf (g.cs.take i)))(hr:Hid (clusterE g (g.cs.take i) g.cs[i]=R)) :
    Calls Tryz.prog 62 #[v,.int .i64 i] w fun e w'=>e=.returned (.int .i64 R)∧Below w.heap.size w w':=by
 have hmf:∀ (fn:Fn) (first cap:Array Value) (w:World),(Instr.makeFunc fn first cap).run Tryz.prog w=.ok (.func fn first cap) w:=fun _ _ _ _=>rfl
 have hg:=h.out
 obtain ⟨nv,ev,cv,rfl,hnl,hns,hes,hcs⟩:=h.out
 obtain ⟨no,nc,rfl,-,-,-⟩:=id hns
 obtain ⟨eo,ec,rfl,-,-,-⟩:=id hes
 obtain ⟨co,cc,rfl,hm0,hm1,-⟩:=id hcs
 unfold maxLen at hm1
 have hlm:g.cs.length≤9223372036854775807:=by omega
 obtain ⟨x,hx⟩:∃ x,g.cs[i]=x:=⟨_,rfl⟩
 have hget:=(hcs.keep (al1 w (.cells #[.string (bb g.nm),.bool g.dir,.slice no g.ns.length nc,.slice eo g.es.length ec,.slice co g.cs.length cc] 26))).get hi
 have hfe:=hr.out
 rw [hx] at hget hfe
 obtain ⟨A,rfl,q0,q1,z0,-⟩:=hget
 obtain ⟨xn,u⟩:=x
 have HXI:Hid (g.cs[i].2=u):=Lh (by rw [hx])
 have HTK:Hid (g.cs.take i ++ [(xn,u)]=g.cs.take (i+1)):=Lh (by rw [List.take_succ_eq_append_getElem hi,hx])
 simp only at q0 q1 z0 hfe
 obtain ⟨Y,hY⟩:∃ Y,bb xn=Y:=⟨_,rfl⟩
 rw [hY] at q0
 have hY2:Y.data.toList=xn:=by rw [← hY]
 have hYs:Y.size≤maxLen:=by rw [← size_list,hY2];exact z0
 have i0:(0:Int)≤(i:Int):=by omega
 have i1:(i:Int) < (g.cs.length:Int):=by omega
 obtain ⟨W1,hW1⟩:∃ W1,w.alloc (.cells #[.string (bb g.nm),.bool g.dir,.slice no g.ns.length nc,.slice eo g.es.length ec,.slice (some A) g.cs.length cc] 26)=W1:=⟨_,rfl⟩
 have HW1:=Lh hW1
 have hB:=al1 w (.cells #[.string (bb g.nm),.bool g.dir,.slice no g.ns.length nc,.slice eo g.es.length ec,.slice (some A) g.cs.length cc] 26)
 have hG:=gat_new w (bb g.nm) g.dir (.slice no g.ns.length nc) (.slice eo g.es.length ec) (.slice (some A) g.cs.length cc) 26
 rw [hW1] at hB hG q0 q1
 have hs1:W1.heap.size=w.heap.size+1:=by rw [← hW1];simp
 have HB:=Lh hB
 have HG:=Lh hG
 have HCS:=Lh (hcs.keep hB)
 clear hW1 hB hG hY z0 hx hns hes hcs hnl h hr
 go_enter Tryz.func62,Tryz.ntmps62
 go_wp2_with fail
 rw [HW1.out]
 obtain ⟨g0,g1,g2,g3,g4⟩:=HG.out
 go_region_held3 (fun w'=>Below W1.heap.size W1 w'∧w'.cell? ⟨w.heap.size,4,none⟩=some (.slice (some A) g.cs.length cc)∧w'.cell? (A.add (i*2))=some (.string Y)∧w'.cell? ⟨(A.add (i*2)).block,(A.add (i*2)).off+1,none⟩=some (.int .i64 u))
  (first | assumption | (refine cl_keep g4 q0 q1 ?_;repeat (first | (with_reducible exact Below.refl _ _) | (with_reducible refine cb_drew ?_) | (with_reducible refine cb_alloc ?_) | (with_reducible refine cb_set (by simp) ?_))))
  (fail)
 have HB2:Hid (Below w.heap.size w (W1.alloc (.cells #[.string Y] 9)).drew):=Lh ((below_keep (al1 ..) HB.out).drew)
 have HG2:Hid (gat (W1.alloc (.cells #[.string Y] 9)).drew w.heap.size (bb g.nm) g.dir (.slice no g.ns.length nc) (.slice eo g.es.length ec) (.slice (some A) g.cs.length cc)):=Lh (gat_keep HG.out (cb_drew (al1 ..)))
 have HY2:Hid ((W1.alloc (.cells #[.string Y] 9)).drew.cell? ⟨w.heap.size+1,0,none⟩=some (.string Y)):=Lh (by rw [← hs1];show (W1.alloc (.cells #[.string Y] 9)).cell? _=_;go_simp)
 have HCS2:=Lh (HCS.out.keep (cb_drew (al1 W1 (.cells #[.string Y] 9))))
 have HGR2:=Lh (hg.keep HB2.out)
 go_split_ands
 clear q0 q1 g0 g1 g2 g3 g4 HB HG HCS
 generalize (W1.alloc (.cells #[.string Y] 9)).drew=W2 at *
 clear HW1 hs1
 obtain ⟨b1,hb1⟩:∃ b,isNm Y.data.toList=b:=⟨_,rfl⟩
 obtain ⟨b2,hb2⟩:∃ b,(g.cs.take i).any (fun p=>p.1 == Y.data.toList)=b:=⟨_,rfl⟩
 obtain ⟨b3,hb3⟩:∃ b,g.ns.any (fun y=>y.nm == Y.data.toList)=b:=⟨_,rfl⟩
 obtain ⟨F,hF⟩:∃ F,findV g Y.data.toList=F:=⟨_,rfl⟩
 have hF3:(F != -1)=b3:=by
  have h1:=findG_any (s:=Y.data.toList) g.ns 0
  have h2:=findG_ge g.ns Y.data.toList 0
  have h3:findG g.ns Y.data.toList 0=F:=hF
  rw [h3,hb3] at h1
  rw [h3] at h2
  rw [Bool.eq_iff_iff,bne_iff_ne,← h1]
  omega
 have H1:=Lh hb1
 have H2:=Lh hb2
 have HF:=Lh hF
 have HF3:=Lh hF3
 unfold clusterE at hfe
 simp only at hfe
 rw [← hY2,hb1,hb2,hb3] at hfe
 rw [← hY2] at HTK
 have HE:=Lh hfe
 have y0:=HY2.out
 clear hfe hb1 hb2 hb3 hF hF3 hY2
 go_wp2_with fail
 refine (isname_of Y b1 _ hYs H1).mono ?_
 rintro e w3 ⟨rfl,hw3⟩
 have HB3:=Lh (below_keep hw3 HB2.out)
 have HG3:=Lh (gat_keep HG2.out hw3)
 have HY3:=Lh (cell_keep hw3 HY2.out)
 have HCS3:=Lh (HCS2.out.keep hw3)
 clear y0 hw3 HGR2
 cases b1
 ·obtain rfl:5=R:=by rw [← HE.out];rfl
  go_wp2
  go_ret
  exact ⟨rfl,HB3.out⟩
 have HFR:=Lh (HCS3.out.front (Nat.le_of_lt hi))
 obtain ⟨g0,g1,g2,g3,g4⟩:=HG3.out
 have y0:=HY3.out
 have i2:(i:Int)≤(cc:Int):=by omega
 have hcm:cc≤9223372036854775807:=by omega
 go_wp2_with fail
 refine (clucon_of _ _ (w.heap.size+1) Y b2 w3 HFR HY3 H2).mono ?_
 rintro e w4 ⟨rfl,hw4⟩
 have HB4:=Lh (below_keep hw4 HB3.out)
 have HG4:=Lh (gat_keep HG3.out hw4)
 have HY4:=Lh (cell_keep hw4 HY3.out)
 have HGR4:=Lh (hg.keep HB4.out)
 clear y0 g0 g1 g2 g3 g4 hw4 HCS3 HFR i2 hcm
 cases b2
 case true =>
  obtain rfl:6=R:=by rw [← HE.out];rfl
  go_wp2
  go_ret
  exact ⟨rfl,HB4.out⟩
 obtain ⟨g0,g1,g2,g3,g4⟩:=HG4.out
 have y0:=HY4.out
 go_wp2_with fail
 refine (cfind_of _ g Y F _ HGR4 HF).mono ?_
 rintro e w5 ⟨rfl,hw5⟩
 have HB5:=Lh (below_keep hw5 HB4.out)
 have HG5:=Lh (gat_keep HG4.out hw5)
 have HGR5:=Lh (hg.keep HB5.out)
 clear y0 g0 g1 g2 g3 g4 hw5 HGR4
 have zf:=HF3.out
 cases b3
 case true =>
  obtain rfl:6=R:=by rw [← HE.out];rfl
  go_wp2
  go_ret
  exact ⟨rfl,HB5.out⟩
 have hE:=HE.out
 simp only [Bool.true_eq_false,if_false,Bool.false_eq_true] at hE
 have hpl:(g.cs.take i).length=i:=by rw [List.length_take];omega
 rw [hpl] at hE
 have e1:IntKind.i64.wrap ((i:Int) - 1)=(i:Int) - 1:=IntWalk.i64_in _ (by omega)
 obtain ⟨b4,hb4⟩:∃ b,decide (-1≤u∧u≤(i:Int) - 1)=b:=⟨_,rfl⟩
 have H4:=Lh hb4
 have HE2:=Lh hE
 clear hE HE hb4
 go_wp2_with fail
 refine (isfrom_of (-1) ((i:Int) - 1) u b4 _ H4).mono ?_
 rintro e w6 ⟨rfl,rfl⟩
 clear zf
 cases b4
 ·have h4:=of_decide_eq_false H4.out
  obtain rfl:3=R:=by rw [← HE2.out,if_pos (by omega)]
  clear h4
  go_wp2
  go_ret
  exact ⟨rfl,HB5.out⟩
 have h4:=of_decide_eq_true H4.out
 have hE:=HE2.out
 rw [if_neg (by omega)] at hE
 have hx2:g.cs[i].2=u:=HXI.out
 have HWN:=Lh (wf_next hi hw.out (by rw [hx2];exact h4.1) (by rw [hx2];omega))
 obtain ⟨D,hD⟩:∃ D,dep (g.cs.take (i+1)) (i:Int)=D:=⟨_,rfl⟩
 have HD:=Lh hD
 rw [HTK.out,hD] at hE
 obtain ⟨g0,g1,g2,g3,g4⟩:=HG5.out
 have HE3:=Lh hE
 clear hE HE2 h4 hD hx2
 go_wp2_with fail
 refine (cdepth_of _ g (i+1) (i:Int) D _ HGR5 hi HWN (by omega) (by omega) HD).mono ?_
 rintro e w7 ⟨rfl,hw7⟩
 have HB7:=Lh (below_keep hw7 HB5.out)
 clear hw7 g0 g1 g2 g3 g4
 by_cases h6:6 < D
 ·obtain rfl:2=R:=by rw [← HE3.out,if_pos h6]
  go_wp2
  go_ret
  exact ⟨rfl,HB7.out⟩
 ·obtain rfl:0=R:=by rw [← HE3.out,if_neg h6]
  go_wp2
  go_ret
  exact ⟨rfl,HB7.out⟩
end Go.Proofs.YtgmidodmmlmmeaaGreatDoor.gra
