/-
  What Valid of the landed graph returns. Condition: a graph in memory.
  What Same of the reference of layer 11 returns. Condition: two graphs in memory.
-/
import Derived.Test.YtcdoicgbjoikkaaGreatDoorMge
namespace Go.Proofs.YtcdoicgbjoikkaaGreatDoor.gra
open Go.RowKit lex
set_option maxRecDepth 100000 in
set_option maxHeartbeats 16000000 in
theorem cvalid_of (v:Value)(g:Gr)(R:Int)(w:World)(h:Hid (GrV w v g))(hr:Hid (validE g=R)) :
    Calls Tryz.prog 27 #[v] w fun e w'=>e=.returned (.int .i64 R)∧Below w.heap.size w w':=by
 have hg:=h.out
 obtain ⟨nv,ev,cv,rfl,hnl,hns,hes,hcs⟩:=h.out
 obtain ⟨no,nc,rfl,-,hm1,-⟩:=id hns
 obtain ⟨eo,ec,rfl,-,hm2,-⟩:=id hes
 obtain ⟨co,cc,rfl,-,hm3,-⟩:=id hcs
 have hYs:(bb g.nm).size≤maxLen:=by rw [← size_list];exact hnl
 have hfe:=hr.out
 unfold validE at hfe
 have HG:=Lh (gat_new w (bb g.nm) g.dir (.slice no g.ns.length nc) (.slice eo g.es.length ec) (.slice co g.cs.length cc) 31)
 have HB:=Lh (al1 w (.cells #[.string (bb g.nm),.bool g.dir,.slice no g.ns.length nc,.slice eo g.es.length ec,.slice co g.cs.length cc] 31))
 clear hns hes hcs hm1 hm2 hm3 hnl h hr
 by_cases a0:64 < g.ns.length
 ·rw [if_pos (Or.inl a0)] at hfe
  subst hfe
  have l0:(64:Int) < (g.ns.length:Int):=by omega
  clear a0
  go_enter Tryz.func27,Tryz.ntmps27
  go_wp2
  go_ret
  exact ⟨rfl,HB.out⟩
 by_cases a1:256 < g.es.length
 ·rw [if_pos (Or.inr (Or.inl a1))] at hfe
  subst hfe
  have l0:¬ (64:Int) < (g.ns.length:Int):=by omega
  have l1:(256:Int) < (g.es.length:Int):=by omega
  clear a0 a1
  go_enter Tryz.func27,Tryz.ntmps27
  go_wp2
  go_ret
  exact ⟨rfl,HB.out⟩
 by_cases a2:16 < g.cs.length
 ·rw [if_pos (Or.inr (Or.inr a2))] at hfe
  subst hfe
  have l0:¬ (64:Int) < (g.ns.length:Int):=by omega
  have l1:¬ (256:Int) < (g.es.length:Int):=by omega
  have l2:(16:Int) < (g.cs.length:Int):=by omega
  clear a0 a1 a2
  go_enter Tryz.func27,Tryz.ntmps27
  go_wp2
  go_ret
  exact ⟨rfl,HB.out⟩
 rw [if_neg (by omega)] at hfe
 have l0:¬ (64:Int) < (g.ns.length:Int):=by omega
 have l1:¬ (256:Int) < (g.es.length:Int):=by omega
 have l2:¬ (16:Int) < (g.cs.length:Int):=by omega
 have m0:g.ns.length≤64:=by omega
 have m1:g.es.length≤256:=by omega
 have m2:g.cs.length≤16:=by omega
 clear a0 a1 a2
 obtain ⟨nm,hnm⟩:∃ b,isNm g.nm=b:=⟨_,rfl⟩
 have HNM:Hid (isNm (bb g.nm).data.toList=nm):=Lh hnm
 rw [hnm] at hfe
 clear hnm
 go_enter Tryz.func27,Tryz.ntmps27
 go_wp2_with fail
 refine (isname_of _ _ _ hYs HNM).mono ?_
 rintro e w1 ⟨rfl,hw1⟩
 have HB1:=Lh (below_keep hw1 HB.out)
 have HG1:=Lh (gat_keep HG.out hw1)
 clear HB HG hw1
 rename Hid (Below w.heap.size w w1)=>HB
 rename Hid (gat w1 w.heap.size _ _ _ _ _)=>HG
 clear l0 l1 l2 HNM hYs
 cases nm
 ·rw [if_pos rfl] at hfe
  subst hfe
  go_wp2
  go_ret
  exact ⟨rfl,HB.out⟩
 rw [if_neg (by decide)] at hfe
 obtain ⟨N,hN⟩:∃ N,firstE (nodeE g) [] g.ns=N:=⟨_,rfl⟩
 obtain ⟨C,hC⟩:∃ C,firstE (clusterE g) [] g.cs=C:=⟨_,rfl⟩
 obtain ⟨E,hE⟩:∃ E,firstE (fun _ x=>edgeE g x) [] g.es=E:=⟨_,rfl⟩
 rw [hN,hC,hE] at hfe
 have HNE:Hid (firstE (nodeE g) (g.ns.take 0) (g.ns.drop 0)=N):=Lh hN
 have HCE:Hid (firstE (clusterE g) (g.cs.take 0) (g.cs.drop 0)=C):=Lh hC
 have HEE:Hid (firstE (fun _ x=>edgeE g x) (g.es.take 0) (g.es.drop 0)=E):=Lh hE
 have HFE:=Lh hfe
 clear hN hC hE hfe
 obtain ⟨g0,g1,g2,g3,g4⟩:=HG.out
 go_wp2_with fail
 clear g0 g1 g2 g3 g4
 go_loopw [35] (fun iv wr=>∃ i:Nat,iv=.int .i64 i∧i≤g.ns.length∧firstE (nodeE g) (g.ns.take i) (g.ns.drop i)=N∧Below w1.heap.size w1 wr) (fun iv _=>g.ns.length - (intOf iv).toNat)
 case atStart=>exact ⟨0,rfl,Nat.zero_le _,HNE.out,Below.refl _ _⟩
 case round =>
  obtain ⟨i,rfl,hi,hne,hB2⟩:=hrel
  rename World=>wr
  clear HNE
  have HBw:=Lh (below_keep hB2 HB.out)
  have HGQ:=Lh (gat_keep HG.out hB2)
  have HGR:=Lh (hg.keep HBw.out)
  have HB2:=Lh hB2
  obtain ⟨g0,g1,g2,g3,g4⟩:=HGQ.out
  clear hB2
  by_cases hlt:i < g.ns.length
  ·rw [firstE_at hlt] at hne
   obtain ⟨X,hX⟩:∃ X,nodeE g (g.ns.take i) g.ns[i]=X:=⟨_,rfl⟩
   have HX:=Lh hX
   rw [hX] at hne
   have i1:(i:Int) < (g.ns.length:Int):=by omega
   have HNE:=Lh hne
   clear hX hne
   go_wp2_with fail
   refine (node_of _ g i X wr HGR hlt HX).mono ?_
   rintro e w4 ⟨rfl,hb4⟩
   have HB4:=Lh (below_keep hb4 HBw.out)
   have HB5:=Lh (below_keep hb4 HB2.out)
   clear hb4
   have hne:=HNE.out
   by_cases x0:X=0
   ·have b0:(X != 0)=false:=by rw [x0];rfl
    rw [if_neg (by rw [x0];decide)] at hne
    have HN2:=Lh hne
    clear hne x0 HNE
    go_wp2
    go_roundw
    case rel=>exact ⟨i+1,by go_num,by omega,HN2.out,HB5.out⟩
    case measure=>simp [intOf];omega
   ·have b0:(X != 0)=true:=by rw [bne_iff_ne];exact x0
    rw [if_pos x0] at hne
    have hfe:=HFE.out
    rw [← hne,if_pos x0] at hfe
    subst hfe
    clear hne x0 HNE
    go_wp2
    go_ret
    exact ⟨rfl,HB4.out⟩
  ·rw [firstE_end (by omega)] at hne
   subst hne
   have i2:¬ (i:Int) < (g.ns.length:Int):=by omega
   have hfe:=HFE.out
   rw [if_neg (by decide)] at hfe
   have HFE2:=Lh hfe
   clear hfe HFE
   go_wp2_with fail
   clear g0 g1 g2 g3 g4
   go_loopw [48] (fun iv wq=>∃ j:Nat,iv=.int .i64 j∧j≤g.cs.length∧firstE (clusterE g) (g.cs.take j) (g.cs.drop j)=C∧Below w1.heap.size w1 wq∧Wf (g.cs.take j)) (fun iv _=>g.cs.length - (intOf iv).toNat)
   case atStart=>exact ⟨0,rfl,Nat.zero_le _,HCE.out,HB2.out,fun i x hx=>by simp at hx⟩
   case round =>
    clear HCE HGQ HGR HBw HB2
    obtain ⟨j,rfl,hj,hce,hB2,hwf⟩:=hrel
    rename World=>wq
    have HBw:=Lh (below_keep hB2 HB.out)
    have HGQ:=Lh (gat_keep HG.out hB2)
    have HGR:=Lh (hg.keep HBw.out)
    have HB2:=Lh hB2
    have HWF:=Lh hwf
    obtain ⟨g0,g1,g2,g3,g4⟩:=HGQ.out
    clear hB2 hwf
    by_cases hlt2:j < g.cs.length
    ·rw [firstE_at hlt2] at hce
     obtain ⟨X,hX⟩:∃ X,clusterE g (g.cs.take j) g.cs[j]=X:=⟨_,rfl⟩
     have HX:=Lh hX
     rw [hX] at hce
     have j1:(j:Int) < (g.cs.length:Int):=by omega
     have HCE:=Lh hce
     clear hX hce
     go_wp2_with fail
     refine (cluster_of _ g j X wq HGR hlt2 HWF HX).mono ?_
     rintro e w4 ⟨rfl,hb4⟩
     have HB4:=Lh (below_keep hb4 HBw.out)
     have HB5:=Lh (below_keep hb4 HB2.out)
     clear hb4
     have hce:=HCE.out
     by_cases x0:X=0
     ·have b0:(X != 0)=false:=by rw [x0];rfl
      rw [if_neg (by rw [x0];decide)] at hce
      have HC2:=Lh hce
      have hok:=cluster_ok (HX.out.trans x0)
      rw [List.length_take,Nat.min_eq_left hj] at hok
      have HW2:=Lh (wf_next hlt2 HWF.out hok.1 hok.2)
      clear hce x0 HCE hok
      go_wp2
      go_roundw
      case rel=>exact ⟨j+1,by go_num,by omega,HC2.out,HB5.out,HW2.out⟩
      case measure=>simp [intOf];omega
     ·have b0:(X != 0)=true:=by rw [bne_iff_ne];exact x0
      rw [if_pos x0] at hce
      have hfe:=HFE2.out
      rw [← hce,if_pos x0] at hfe
      subst hfe
      clear hce x0 HCE
      go_wp2
      go_ret
      exact ⟨rfl,HB4.out⟩
    ·rw [firstE_end (by omega)] at hce
     subst hce
     have j2:¬ (j:Int) < (g.cs.length:Int):=by omega
     have hfe:=HFE2.out
     rw [if_neg (by decide)] at hfe
     have HFE3:=Lh hfe
     clear hfe HFE2
     go_wp2_with fail
     clear g0 g1 g2 g3 g4
     go_loopw [61] (fun iv wp=>∃ k:Nat,iv=.int .i64 k∧k≤g.es.length∧firstE (fun _ x=>edgeE g x) (g.es.take k) (g.es.drop k)=E∧Below w1.heap.size w1 wp) (fun iv _=>g.es.length - (intOf iv).toNat)
     case atStart=>exact ⟨0,rfl,Nat.zero_le _,HEE.out,HB2.out⟩
     case round =>
      clear HEE HGQ HGR HBw HB2
      obtain ⟨k,rfl,hk,hee,hB2⟩:=hrel
      rename World=>wp
      have HBw:=Lh (below_keep hB2 HB.out)
      have HGQ:=Lh (gat_keep HG.out hB2)
      have hgr:=hg.keep HBw.out
      have HB2:=Lh hB2
      obtain ⟨g0,g1,g2,g3,g4⟩:=HGQ.out
      clear hB2
      by_cases hlt3:k < g.es.length
      ·rw [firstE_at hlt3] at hee
       obtain ⟨nv',ev',cv',e0,_,_,hes,_⟩:=id hgr
       cases e0
       have hget:=hes.get hlt3
       obtain ⟨X,hX⟩:∃ X,edgeE g g.es[k]=X:=⟨_,rfl⟩
       rw [hX] at hee
       obtain ⟨x,hx⟩:∃ x,g.es[k]=x:=⟨_,rfl⟩
       rw [hx] at hget hX
       obtain ⟨fr,tw,fp,tp,lb,wt,ln⟩:=x
       obtain ⟨A,rfl,q0,q1,q2,q3,q4,q5,q6,z4,-⟩:=hget
       simp only at q0 q1 q2 q3 q4 q5 q6 z4
       obtain ⟨Z,hZ⟩:∃ Z,bb lb=Z:=⟨_,rfl⟩
       rw [hZ] at q4
       have hZ2:Z.data.toList=lb:=by rw [← hZ]
       have hZs:Z.size≤maxLen:=by rw [← size_list,hZ2];exact z4
       have HX:Hid (edgeE g ⟨fr,tw,fp,tp,Z.data.toList,wt,ln⟩=X):=Lh (by rw [hZ2];exact hX)
       have k0:(0:Int)≤(k:Int):=by omega
       have k1:(k:Int) < (g.es.length:Int):=by omega
       have hgr2:=hgr
       have HGR:=Lh hgr
       have HEE:=Lh hee
       have HGRa:=Lh (hgr2.keep (al1 wp (.cells #[.int .i64 fr,.int .i64 tw,.int .i64 fp,.int .i64 tp,.string Z,.int .i64 wt,.int .i64 ln] 60)))
       have hsz:w.heap.size < wp.heap.size:=World.block_lt_of_cell? wp _ g0
       clear hX hee hZ hZ2 z4 hes hgr hgr2 hx HGR
       go_wp2_with fail
       refine (edge_of _ g fr tw fp tp Z wt ln X _ HGRa hZs HX).mono ?_
       rintro e w6 ⟨rfl,hw6⟩
       have HB4:=Lh (below_keep (below_keep hw6 (al1 wp _)) HBw.out)
       have HB5:=Lh (below_keep (below_keep hw6 (al1 wp _)) HB2.out)
       have hee:=HEE.out
       clear hw6 q0 q1 q2 q3 q4 q5 q6 g0 g1 g2 g3 g4
       by_cases x0:X=0
       ·have b0:(X != 0)=false:=by rw [x0];rfl
        rw [if_neg (by rw [x0];decide)] at hee
        have HE2:=Lh hee
        clear hee x0 HEE
        go_wp2
        go_roundw
        case rel=>exact ⟨k+1,by go_num,by omega,HE2.out,HB5.out⟩
        case measure=>simp [intOf];omega
       ·have b0:(X != 0)=true:=by rw [bne_iff_ne];exact x0
        rw [if_pos x0] at hee
        have hfe:=HFE3.out
        rw [← hee] at hfe
        subst hfe
        clear hee x0 HEE
        go_wp2
        go_ret
        exact ⟨rfl,HB4.out⟩
      ·rw [firstE_end (by omega)] at hee
       subst hee
       have k2:¬ (k:Int) < (g.es.length:Int):=by omega
       obtain rfl:=HFE3.out
       go_wp2
       go_ret
       exact ⟨rfl,HBw.out⟩
set_option maxRecDepth 100000 in
set_option maxHeartbeats 16000000 in
theorem gsame_of (v v2:Value)(g h:Gr)(R:Bool)(w:World)(h1:Hid (GrV w v g))(h2:Hid (GrV w v2 h))(hr:Hid (decide (g=h)=R)) :
    Calls Tryz.prog 12 #[v,v2] w fun e w'=>e=.returned (.bool R)∧Below w.heap.size w w':=by
 have hmx:Tryz.prog.follows .mixedOrders=true:=by kernel_rfl
 obtain ⟨nv,ev,cv,rfl,-,ha,he,hcl⟩:=h1.out
 obtain ⟨nv2,ev2,cv2,rfl,-,hb,hf,hcl2⟩:=h2.out
 have hfe:=hr.out
 clear h1 h2 hr
 obtain ⟨n0,d,a,es,cs⟩:=g
 obtain ⟨n1,d1,b,fs,hs⟩:=h
 simp only at ha hb he hf hcl hcl2
 simp only [Gr.mk.injEq] at hfe
 obtain ⟨ao,ac,rfl,hc1,hm1,-⟩:=id ha
 obtain ⟨bo,bc,rfl,-,-,-⟩:=id hb
 obtain ⟨eo,ec,rfl,hc2,hm2,-⟩:=id he
 obtain ⟨fo,fc,rfl,-,-,-⟩:=id hf
 obtain ⟨co,cc,rfl,hc3,hm3,-⟩:=id hcl
 obtain ⟨ho,hc,rfl,-,-,-⟩:=id hcl2
 unfold maxLen at hm1 hm2 hm3
 have hla:a.length≤9223372036854775807:=by omega
 have hle:es.length≤9223372036854775807:=by omega
 have hlc:cs.length≤9223372036854775807:=by omega
 obtain ⟨X,hX⟩:∃ X,bb n0=X:=⟨_,rfl⟩
 obtain ⟨Y,hY⟩:∃ Y,bb n1=Y:=⟨_,rfl⟩
 have hXY:n0=n1 ↔ X.toList=Y.toList:=by rw [← hX,← hY,ByteArray.toList_eq,ByteArray.toList_eq]
 simp only [hX,hY]
 simp only [hXY] at hfe
 have HB:=Lh (al2 w (.cells #[.string X,.bool d,.slice ao a.length ac,.slice eo es.length ec,.slice co cs.length cc] 31) (.cells #[.string Y,.bool d1,.slice bo b.length bc,.slice fo fs.length fc,.slice ho hs.length hc] 31))
 have HC:=Lh (gat_alloc (.cells #[.string Y,.bool d1,.slice bo b.length bc,.slice fo fs.length fc,.slice ho hs.length hc] 31) (gat_new w X d (.slice ao a.length ac) (.slice eo es.length ec) (.slice co cs.length cc) 31))
 have hd:=gat_new (w.alloc (.cells #[.string X,.bool d,.slice ao a.length ac,.slice eo es.length ec,.slice co cs.length cc] 31)) Y d1 (.slice bo b.length bc) (.slice fo fs.length fc) (.slice ho hs.length hc) 31
 rw [World.size_alloc] at hd
 have HD:=Lh hd
 have HA:=Lh (ha.keep HB.out)
 have HA2:=Lh (hb.keep HB.out)
 have HE:=Lh (he.keep HB.out)
 have HE2:=Lh (hf.keep HB.out)
 have HK:=Lh (hcl.keep HB.out)
 have HK2:=Lh (hcl2.keep HB.out)
 have hga1:=guard_ed
 have hga2:=guard_cl
 obtain ⟨c0,c1,c2,c3,c4⟩:=HC.out
 obtain ⟨d0,d1',d2,d3,d4⟩:=HD.out
 clear hc1 hm1 hc2 hm2 hc3 hm3 ha hb he hf hcl hcl2 hd hX hY hXY
 by_cases k0:X.toList=Y.toList
 case neg =>
  have z0:(X.toList == Y.toList)=false:=by rw [beq_eq_false_iff_ne];exact k0
  have y0:(X.toList != Y.toList)=true:=by rw [bne_iff_ne];exact k0
  rw [decide_eq_false (fun e=>k0 (e.1))] at hfe
  subst hfe
  clear k0
  go_enter Tryz.func12,Tryz.ntmps12
  go_wp2
  go_ret
  exact ⟨rfl,HB.out⟩
 have z0:(X.toList == Y.toList)=true:=by rw [beq_iff_eq];exact k0
 have y0:(X.toList != Y.toList)=false:=by rw [bne_eq_false_iff_eq];exact k0
 by_cases k1:d=d1
 case neg =>
  rw [decide_eq_false (fun e=>k1 (e.2.1))] at hfe
  subst hfe
  clear k0
  cases d <;> cases d1 <;> first | exact absurd rfl k1 | skip
  all_goals
   clear k1
   go_enter Tryz.func12,Tryz.ntmps12
   go_wp2
   go_ret
   exact ⟨rfl,HB.out⟩
 subst k1
 have y1:(d != d)=false:=by simp
 by_cases k2:a.length=b.length
 case neg =>
  have y2:((a.length:Int) != (b.length:Int))=true:=by rw [bne_iff_ne];omega
  rw [decide_eq_false (fun e=>k2 (congrArg List.length e.2.2.1))] at hfe
  subst hfe
  clear k0 k2
  go_enter Tryz.func12,Tryz.ntmps12
  go_wp2
  go_ret
  exact ⟨rfl,HB.out⟩
 have y2:((a.length:Int) != (b.length:Int))=false:=by rw [k2];simp
 by_cases k3:es.length=fs.length
 case neg =>
  have y3:((es.length:Int) != (fs.length:Int))=true:=by rw [bne_iff_ne];omega
  rw [decide_eq_false (fun e=>k3 (congrArg List.length e.2.2.2.1))] at hfe
  subst hfe
  clear k0 k2 k3
  go_enter Tryz.func12,Tryz.ntmps12
  go_wp2
  go_ret
  exact ⟨rfl,HB.out⟩
 have y3:((es.length:Int) != (fs.length:Int))=false:=by rw [k3];simp
 by_cases k4:cs.length=hs.length
 case neg =>
  have y4:((cs.length:Int) != (hs.length:Int))=true:=by rw [bne_iff_ne];omega
  rw [decide_eq_false (fun e=>k4 (congrArg List.length e.2.2.2.2))] at hfe
  subst hfe
  clear k0 k2 k3 k4
  go_enter Tryz.func12,Tryz.ntmps12
  go_wp2
  go_ret
  exact ⟨rfl,HB.out⟩
 have y4:((cs.length:Int) != (hs.length:Int))=false:=by rw [k4];simp
 have HL:=Lh k2
 have HL2:=Lh k3
 have HL3:=Lh k4
 have HR:Hid (decide (a=b∧es=fs∧cs=hs)=R):=Lh (by rw [← hfe];simp [k0])
 obtain ⟨W2,hW2⟩:∃ W2,(w.alloc (.cells #[.string X,.bool d,.slice ao a.length ac,.slice eo es.length ec,.slice co cs.length cc] 31)).alloc (.cells #[.string Y,.bool d,.slice bo b.length bc,.slice fo fs.length fc,.slice ho hs.length hc] 31)=W2:=⟨_,rfl⟩
 have HW2:=Lh hW2
 clear hW2 hfe k0 k2 k3 k4
 go_enter Tryz.func12,Tryz.ntmps12
 go_wp2_with fail
 rw [HW2.out] at HB HC HD HA HA2 HE HE2 HK HK2 ⊢
 clear c0 c1 c2 c3 c4 d0 d1' d2 d3 d4 z0 y0 y1 y2 y3 y4
 go_loopw [5] (fun iv wr=>∃ i:Nat,iv=.int .i64 i∧i≤a.length∧a.take i=b.take i∧Below W2.heap.size W2 wr) (fun iv _=>a.length - (intOf iv).toNat)
 case atStart=>exact ⟨0,rfl,Nat.zero_le _,rfl,Below.refl _ _⟩
 case round =>
  obtain ⟨i,rfl,hi,htk,hB⟩:=hrel
  rename World=>wr
  obtain ⟨-,-,c2,c3,c4⟩:=gat_keep HC.out hB
  obtain ⟨-,-,d2,d3,d4⟩:=gat_keep HD.out hB
  by_cases hlt:i < a.length
  ·have hlt2:i < b.length:=by have:=HL.out;omega
   have hBd:=hB.drew
   have HBd:=Lh (below_keep hBd HB.out)
   have hC:=gat_keep HC.out hBd
   have hD:=gat_keep HD.out hBd
   have ha:=(HA.out.keep hBd)
   have hb:=(HA2.out.keep hBd)
   obtain ⟨A,rfl,s0,s1,s2,s3,s4,⟨pv,s5,hs6⟩,-⟩:=ha.get hlt
   obtain ⟨B,rfl,t0,t1,t2,t3,t4,⟨pv2,t5,ht6⟩,-⟩:=hb.get hlt2
   obtain ⟨x,hx⟩:∃ x,a[i]=x:=⟨_,rfl⟩
   obtain ⟨y,hy⟩:∃ y,b[i]=y:=⟨_,rfl⟩
   rw [hx] at s0 s1 s2 s3 s4 hs6
   rw [hy] at t0 t1 t2 t3 t4 ht6
   obtain ⟨po,pc,rfl,-,-,-⟩:=id hs6
   obtain ⟨qo,qc,rfl,-,-,-⟩:=id ht6
   have HX:Hid (NdV wr.drew (.agg #[.string (bb x.nm),.string (bb x.lb),.int .i64 x.w,.int .i64 x.h,.int .i64 x.cl,.slice po x.ps.length pc]) x):=Lh ⟨_,rfl,hs6⟩
   have HY:Hid (NdV wr.drew (.agg #[.string (bb y.nm),.string (bb y.lb),.int .i64 y.w,.int .i64 y.h,.int .i64 y.cl,.slice qo y.ps.length qc]) y):=Lh ⟨_,rfl,ht6⟩
   have i0:(0:Int)≤(i:Int):=by omega
   have i1:(i:Int) < (a.length:Int):=by omega
   have i2:(i:Int) < (b.length:Int):=by omega
   have HXY:Hid ((x=y→a.take (i+1)=b.take (i+1))∧(x≠y→a≠b)):=Lh ⟨fun e=>take_eq hlt hlt2 htk (by rw [hx,hy,e]),fun e=>take_ne hlt hlt2 (by rw [hx,hy];exact e)⟩
   clear htk hx hy ha hb hs6 ht6
   go_wp2_with fail
   refine wp_region_still_tail 10 (by kernel_rfl) (by kernel_rfl) ?_
   change wpStill _ _ wr.drew (fun a'=>wpList _ _ _ _ a' wr.drew) _ _
   clear c2 c3 c4 d2 d3 d4
   have HBD:=Lh hBd
   clear hBd
   generalize wr.drew=wd at *
   obtain ⟨-,-,c2,-,-⟩:=hC
   obtain ⟨-,-,d2,-,-⟩:=hD
   simp only [List.take_succ_cons,List.take_zero,List.drop_succ_cons,List.drop_zero]
   repeat still_step
   refine wpStill_nil ?_
   clear s0 s1 s2 s3 s4 s5 t0 t1 t2 t3 t4 t5 c2 d2
   obtain ⟨q,hq⟩:∃ q,decide (x=y)=q:=⟨_,rfl⟩
   have HQ:=Lh hq
   clear hq
   go_wp2_with fail
   refine (gsamenode_of _ _ x y q wd HX HY HQ).mono ?_
   rintro e w3 ⟨rfl,hb3⟩
   have HB3:=Lh (below_keep hb3 HBD.out)
   clear hb3
   cases q
   ·have hfe:=HR.out
    rw [decide_eq_false (fun e=>HXY.out.2 (of_decide_eq_false HQ.out) e.1)] at hfe
    subst hfe
    go_wp2
    go_ret
    exact ⟨rfl,below_keep HB3.out HB.out⟩
   ·have HT:=Lh (HXY.out.1 (of_decide_eq_true HQ.out))
    go_wp2
    go_roundw
    case rel=>exact ⟨i+1,by go_num,by omega,HT.out,HB3.out⟩
    case measure=>simp [intOf];omega
  ·have HR2:Hid (decide (es=fs∧cs=hs)=R):=Lh (by have:=HR.out;rw [← this];simp [take_all HL.out (by omega) htk])
   have HBr:=Lh hB
   clear htk hB HR
   go_wp2_with fail
   clear c2 c3 c4 d2 d3 d4
   go_loopw [6] (fun iv wr=>∃ i:Nat,iv=.int .i64 i∧i≤es.length∧es.take i=fs.take i∧Below W2.heap.size W2 wr) (fun iv _=>es.length - (intOf iv).toNat)
   case atStart=>exact ⟨0,rfl,Nat.zero_le _,rfl,HBr.out⟩
   case round =>
    obtain ⟨i,rfl,hi,htk,hB⟩:=hrel
    rename World=>wq
    have HB2:=Lh (below_keep hB HB.out)
    obtain ⟨-,-,-,c3,c4⟩:=gat_keep HC.out hB
    obtain ⟨-,-,-,d3,d4⟩:=gat_keep HD.out hB
    by_cases hlt:i < es.length
    ·have hlt2:i < fs.length:=by have:=HL2.out;omega
     obtain ⟨A,rfl,s0,s1,s2,s3,s4,s5,s6,-⟩:=(HE.out.keep hB).get hlt
     obtain ⟨B,rfl,t0,t1,t2,t3,t4,t5,t6,-⟩:=(HE2.out.keep hB).get hlt2
     obtain ⟨x,hx⟩:∃ x,es[i]=x:=⟨_,rfl⟩
     obtain ⟨y,hy⟩:∃ y,fs[i]=y:=⟨_,rfl⟩
     rw [hx] at s0 s1 s2 s3 s4 s5 s6
     rw [hy] at t0 t1 t2 t3 t4 t5 t6
     have i0:(0:Int)≤(i:Int):=by omega
     have i1:(i:Int) < (es.length:Int):=by omega
     have i2:(i:Int) < (fs.length:Int):=by omega
     by_cases hxy:x=y
     ·have hneq:=neq_ed x y false (Lh (by simp [hxy]))
      have HT:=Lh (take_eq hlt hlt2 htk (by rw [hx,hy,hxy]))
      clear htk hx hy hxy
      go_wp2_with fail
      go_quiet (fail)
      have HB3:=Lh (below_keep (drew_n wq nq) hB)
      generalize wq.drewN nq=w3 at HB3 ⊢
      go_wp2
      go_roundw
      case rel=>exact ⟨i+1,by go_num,by omega,HT.out,HB3.out⟩
      case measure=>simp [intOf];omega
     ·have hneq:=neq_ed x y true (Lh (by simp [hxy]))
      have hfe:=HR2.out
      rw [decide_eq_false (fun e=>take_ne hlt hlt2 (by rw [hx,hy];exact hxy) e.1)] at hfe
      subst hfe
      clear htk hx hy hxy
      go_wp2_with fail
      go_quiet (fail)
      have HB3:=Lh (below_keep (drew_n wq nq) HB2.out)
      generalize wq.drewN nq=w3 at HB3 ⊢
      go_wp2
      go_ret
      exact ⟨rfl,HB3.out⟩
    ·have HR3:Hid (decide (cs=hs)=R):=Lh (by have:=HR2.out;rw [← this];simp [take_all HL2.out (by omega) htk])
     have HBr:=Lh hB
     clear htk hB HR2
     go_wp2_with fail
     clear c3 c4 d3 d4
     go_loopw [7] (fun iv wr=>∃ i:Nat,iv=.int .i64 i∧i≤cs.length∧cs.take i=hs.take i∧Below W2.heap.size W2 wr) (fun iv _=>cs.length - (intOf iv).toNat)
     case atStart=>exact ⟨0,rfl,Nat.zero_le _,rfl,HBr.out⟩
     case round =>
      obtain ⟨i,rfl,hi,htk,hB⟩:=hrel
      rename World=>wq
      have HB2:=Lh (below_keep hB HB.out)
      obtain ⟨-,-,-,c3,c4⟩:=gat_keep HC.out hB
      obtain ⟨-,-,-,d3,d4⟩:=gat_keep HD.out hB
      by_cases hlt:i < cs.length
      ·have hlt2:i < hs.length:=by have:=HL3.out;omega
       obtain ⟨A,rfl,s0,s1,-⟩:=(HK.out.keep hB).get hlt
       obtain ⟨B,rfl,t0,t1,-⟩:=(HK2.out.keep hB).get hlt2
       obtain ⟨x,hx⟩:∃ x,cs[i]=x:=⟨_,rfl⟩
       obtain ⟨y,hy⟩:∃ y,hs[i]=y:=⟨_,rfl⟩
       rw [hx] at s0 s1
       rw [hy] at t0 t1
       have i0:(0:Int)≤(i:Int):=by omega
       have i1:(i:Int) < (cs.length:Int):=by omega
       have i2:(i:Int) < (hs.length:Int):=by omega
       by_cases hxy:x=y
       ·have hneq:=neq_cl x y false (Lh (by simp [hxy]))
        have HT:=Lh (take_eq hlt hlt2 htk (by rw [hx,hy,hxy]))
        clear htk hx hy hxy
        go_wp2_with fail
        go_quiet (fail)
        have HB3:=Lh (below_keep (drew_n wq nq) hB)
        generalize wq.drewN nq=w3 at HB3 ⊢
        go_wp2
        go_roundw
        case rel=>exact ⟨i+1,by go_num,by omega,HT.out,HB3.out⟩
        case measure=>simp [intOf];omega
       ·have hneq:=neq_cl x y true (Lh (by simp [hxy]))
        have hfe:=HR3.out
        rw [decide_eq_false (fun e=>take_ne hlt hlt2 (by rw [hx,hy];exact hxy) e)] at hfe
        subst hfe
        clear htk hx hy hxy
        go_wp2_with fail
        go_quiet (fail)
        have HB3:=Lh (below_keep (drew_n wq nq) HB2.out)
        generalize wq.drewN nq=w3 at HB3 ⊢
        go_wp2
        go_ret
        exact ⟨rfl,HB3.out⟩
      ·have hfe:=HR3.out
       rw [decide_eq_true (take_all HL3.out (by omega) htk)] at hfe
       subst hfe
       clear htk
       go_wp2
       go_ret
       exact ⟨rfl,HB2.out⟩
end Go.Proofs.YtcdoicgbjoikkaaGreatDoor.gra
