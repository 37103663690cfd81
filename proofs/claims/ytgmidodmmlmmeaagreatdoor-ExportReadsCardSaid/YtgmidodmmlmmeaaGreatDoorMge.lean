/-
  What Valid of the landed graph returns. Condition: a graph in memory.
  What Members, Depth and Common of the landed graph return. Condition: a graph in memory.
  What Members of the landed graph returns. Condition: a graph in memory.
-/
import Derived.Test.YtgmidodmmlmmeaaGreatDoorMgd
namespace Go.Proofs.YtgmidodmmlmmeaaGreatDoor.gra
open Go.RowKit lex
set_option maxRecDepth 100000 in
set_option maxHeartbeats 16000000 in
theorem cvalid_of (v:Value)(g:Gr)(R:Int)(w:World)(h:Hid (GrV w v g))(hr:Hid (validE g=R)) :
    Calls Tryz.prog 25 #[v] w fun e w'=>e=.returned (.int .i64 R)∧Below w.heap.size w w':=by
 have hg:=h.out
 obtain ⟨nv,ev,cv,rfl,hnl,hns,hes,hcs⟩:=h.out
 obtain ⟨no,nc,rfl,-,hm1,-⟩:=id hns
 obtain ⟨eo,ec,rfl,-,hm2,-⟩:=id hes
 obtain ⟨co,cc,rfl,-,hm3,-⟩:=id hcs
 have hYs:(bb g.nm).size≤maxLen:=by rw [← size_list];exact hnl
 have hfe:=hr.out
 unfold validE at hfe
 have HG:=Lh (gat_new w (bb g.nm) g.dir (.slice no g.ns.length nc) (.slice eo g.es.length ec) (.slice co g.cs.length cc) 26)
 have HB:=Lh (al1 w (.cells #[.string (bb g.nm),.bool g.dir,.slice no g.ns.length nc,.slice eo g.es.length ec,.slice co g.cs.length cc] 26))
 clear hns hes hcs hm1 hm2 hm3 hnl h hr
 by_cases a0:64 < g.ns.length
 ·rw [if_pos (Or.inl a0)] at hfe
  subst hfe
  have l0:(64:Int) < (g.ns.length:Int):=by omega
  clear a0
  go_enter Tryz.func25,Tryz.ntmps25
  go_wp2
  go_ret
  exact ⟨rfl,HB.out⟩
 by_cases a1:256 < g.es.length
 ·rw [if_pos (Or.inr (Or.inl a1))] at hfe
  subst hfe
  have l0:¬ (64:Int) < (g.ns.length:Int):=by omega
  have l1:(256:Int) < (g.es.length:Int):=by omega
  clear a0 a1
  go_enter Tryz.func25,Tryz.ntmps25
  go_wp2
  go_ret
  exact ⟨rfl,HB.out⟩
 by_cases a2:16 < g.cs.length
 ·rw [if_pos (Or.inr (Or.inr a2))] at hfe
  subst hfe
  have l0:¬ (64:Int) < (g.ns.length:Int):=by omega
  have l1:¬ (256:Int) < (g.es.length:Int):=by omega
  have l2:(16:Int) < (g.cs.length:Int):=by omega
  clear a0 a1 a2
  go_enter Tryz.func25,Tryz.ntmps25
  go_wp2
  go_ret
  exact ⟨rfl,HB.out⟩
 rw [if_neg (by omega)] at hfe
 have l0:¬ (64:Int) < (g.ns.length:Int):=by omega
 have l1:¬ (256:Int) < (g.es.length:Int):=by omega
 have l2:¬ (16:Int) < (g.cs.length:Int):=by omega
 have m0:g.ns.length≤64:=by omega
 have m1:g.es.length≤256:=by omega
 have m2:g.cs.length≤16:=by omega
 clear a0 a1 a2
 obtain ⟨nm,hnm⟩:∃ b,isNm g.nm=b:=⟨_,rfl⟩
 have HNM:Hid (isNm (bb g.nm).data.toList=nm):=Lh hnm
 rw [hnm] at hfe
 clear hnm
 go_enter Tryz.func25,Tryz.ntmps25
 go_wp2_with fail
 refine (isname_of _ _ _ hYs HNM).mono ?_
 rintro e w1 ⟨rfl,hw1⟩
 have HB1:=Lh (below_keep hw1 HB.out)
 have HG1:=Lh (gat_keep HG.out hw1)
 clear HB HG hw1
 rename Hid (Below w.heap.size w w1)=>HB
 rename Hid (gat w1 w.heap.size _ _ _ _ _)=>HG
 clear l0 l1 l2 HNM hYs
 cases nm
 ·rw [if_pos rfl] at hfe
  subst hfe
  go_wp2
  go_ret
  exact ⟨rfl,HB.out⟩
 rw [if_neg (by decide)] at hfe
 obtain ⟨N,hN⟩:∃ N,firstE (nodeE g) [] g.ns=N:=⟨_,rfl⟩
 obtain ⟨C,hC⟩:∃ C,firstE (clusterE g) [] g.cs=C:=⟨_,rfl⟩
 obtain ⟨E,hE⟩:∃ E,firstE (fun _ x=>edgeE g x) [] g.es=E:=⟨_,rfl⟩
 rw [hN,hC,hE] at hfe
 have HNE:Hid (firstE (nodeE g) (g.ns.take 0) (g.ns.drop 0)=N):=Lh hN
 have HCE:Hid (firstE (clusterE g) (g.cs.take 0) (g.cs.drop 0)=C):=Lh hC
 have HEE:Hid (firstE (fun _ x=>edgeE g x) (g.es.take 0) (g.es.drop 0)=E):=Lh hE
 have HFE:=Lh hfe
 clear hN hC hE hfe
 obtain ⟨g0,g1,g2,g3,g4⟩:=HG.out
 go_wp2_with fail
 clear g0 g1 g2 g3 g4
 go_loopw [35] (fun iv wr=>∃ i:Nat,iv=.int .i64 i∧i≤g.ns.length∧firstE (nodeE g) (g.ns.take i) (g.ns.drop i)=N∧Below w1.heap.size w1 wr) (fun iv _=>g.ns.length - (intOf iv).toNat)
 case atStart=>exact ⟨0,rfl,Nat.zero_le _,HNE.out,Below.refl _ _⟩
 case round =>
  obtain ⟨i,rfl,hi,hne,hB2⟩:=hrel
  rename World=>wr
  clear HNE
  have HBw:=Lh (below_keep hB2 HB.out)
  have HGQ:=Lh (gat_keep HG.out hB2)
  have HGR:=Lh (hg.keep HBw.out)
  have HB2:=Lh hB2
  obtain ⟨g0,g1,g2,g3,g4⟩:=HGQ.out
  clear hB2
  by_cases hlt:i < g.ns.length
  ·rw [firstE_at hlt] at hne
   obtain ⟨X,hX⟩:∃ X,nodeE g (g.ns.take i) g.ns[i]=X:=⟨_,rfl⟩
   have HX:=Lh hX
   rw [hX] at hne
   have i1:(i:Int) < (g.ns.length:Int):=by omega
   have HNE:=Lh hne
   clear hX hne
   go_wp2_with fail
   refine (node_of _ g i X wr HGR hlt HX).mono ?_
   rintro e w4 ⟨rfl,hb4⟩
   have HB4:=Lh (below_keep hb4 HBw.out)
   have HB5:=Lh (below_keep hb4 HB2.out)
   clear hb4
   have hne:=HNE.out
   by_cases x0:X=0
   ·have b0:(X != 0)=false:=by rw [x0];rfl
    rw [if_neg (by rw [x0];decide)] at hne
    have HN2:=Lh hne
    clear hne x0 HNE
    go_wp2
    go_roundw
    case rel=>exact ⟨i+1,by go_num,by omega,HN2.out,HB5.out⟩
    case measure=>simp [intOf];omega
   ·have b0:(X != 0)=true:=by rw [bne_iff_ne];exact x0
    rw [if_pos x0] at hne
    have hfe:=HFE.out
    rw [← hne,if_pos x0] at hfe
    subst hfe
    clear hne x0 HNE
    go_wp2
    go_ret
    exact ⟨rfl,HB4.out⟩
  ·rw [firstE_end (by omega)] at hne
   subst hne
   have i2:¬ (i:Int) < (g.ns.length:Int):=by omega
   have hfe:=HFE.out
   rw [if_neg (by decide)] at hfe
   have HFE2:=Lh hfe
   clear hfe HFE
   go_wp2_with fail
   clear g0 g1 g2 g3 g4
   go_loopw [48] (fun iv wq=>∃ j:Nat,iv=.int .i64 j∧j≤g.cs.length∧firstE (clusterE g) (g.cs.take j) (g.cs.drop j)=C∧Below w1.heap.size w1 wq∧Wf (g.cs.take j)) (fun iv _=>g.cs.length - (intOf iv).toNat)
   case atStart=>exact ⟨0,rfl,Nat.zero_le _,HCE.out,HB2.out,fun i x hx=>by simp at hx⟩
   case round =>
    clear HCE HGQ HGR HBw HB2
    obtain ⟨j,rfl,hj,hce,hB2,hwf⟩:=hrel
    rename World=>wq
    have HBw:=Lh (below_keep hB2 HB.out)
    have HGQ:=Lh (gat_keep HG.out hB2)
    have HGR:=Lh (hg.keep HBw.out)
    have HB2:=Lh hB2
    have HWF:=Lh hwf
    obtain ⟨g0,g1,g2,g3,g4⟩:=HGQ.out
    clear hB2 hwf
    by_cases hlt2:j < g.cs.length
    ·rw [firstE_at hlt2] at hce
     obtain ⟨X,hX⟩:∃ X,clusterE g (g.cs.take j) g.cs[j]=X:=⟨_,rfl⟩
     have HX:=Lh hX
     rw [hX] at hce
     have j1:(j:Int) < (g.cs.length:Int):=by omega
     have HCE:=Lh hce
     clear hX hce
     go_wp2_with fail
     refine (cluster_of _ g j X wq HGR hlt2 HWF HX).mono ?_
     rintro e w4 ⟨rfl,hb4⟩
     have HB4:=Lh (below_keep hb4 HBw.out)
     have HB5:=Lh (below_keep hb4 HB2.out)
     clear hb4
     have hce:=HCE.out
     by_cases x0:X=0
     ·have b0:(X != 0)=false:=by rw [x0];rfl
      rw [if_neg (by rw [x0];decide)] at hce
      have HC2:=Lh hce
      have hok:=cluster_ok (HX.out.trans x0)
      rw [List.length_take,Nat.min_eq_left hj] at hok
      have HW2:=Lh (wf_next hlt2 HWF.out hok.1 hok.2)
      clear hce x0 HCE hok
      go_wp2
      go_roundw
      case rel=>exact ⟨j+1,by go_num,by omega,HC2.out,HB5.out,HW2.out⟩
      case measure=>simp [intOf];omega
     ·have b0:(X != 0)=true:=by rw [bne_iff_ne];exact x0
      rw [if_pos x0] at hce
      have hfe:=HFE2.out
      rw [← hce,if_pos x0] at hfe
      subst hfe
      clear hce x0 HCE
      go_wp2
      go_ret
      exact ⟨rfl,HB4.out⟩
    ·rw [firstE_end (by omega)] at hce
     subst hce
     have j2:¬ (j:Int) < (g.cs.length:Int):=by omega
     have hfe:=HFE2.out
     rw [if_neg (by decide)] at hfe
     have HFE3:=Lh hfe
     clear hfe HFE2
     go_wp2_with fail
     clear g0 g1 g2 g3 g4
     go_loopw [61] (fun iv wp=>∃ k:Nat,iv=.int .i64 k∧k≤g.es.length∧firstE (fun _ x=>edgeE g x) (g.es.take k) (g.es.drop k)=E∧Below w1.heap.size w1 wp) (fun iv _=>g.es.length - (intOf iv).toNat)
     case atStart=>exact ⟨0,rfl,Nat.zero_le _,HEE.out,HB2.out⟩
     case round =>
      clear HEE HGQ HGR HBw HB2
      obtain ⟨k,rfl,hk,hee,hB2⟩:=hrel
      rename World=>wp
      have HBw:=Lh (below_keep hB2 HB.out)
      have HGQ:=Lh (gat_keep HG.out hB2)
      have hgr:=hg.keep HBw.out
      have HB2:=Lh hB2
      obtain ⟨g0,g1,g2,g3,g4⟩:=HGQ.out
      clear hB2
      by_cases hlt3:k < g.es.length
      ·rw [firstE_at hlt3] at hee
       obtain ⟨nv',ev',cv',e0,_,_,hes,_⟩:=id hgr
       cases e0
       have hget:=hes.get hlt3
       obtain ⟨X,hX⟩:∃ X,edgeE g g.es[k]=X:=⟨_,rfl⟩
       rw [hX] at hee
       obtain ⟨x,hx⟩:∃ x,g.es[k]=x:=⟨_,rfl⟩
       rw [hx] at hget hX
       obtain ⟨fr,tw,fp,tp,lb,wt,ln⟩:=x
       obtain ⟨A,rfl,q0,q1,q2,q3,q4,q5,q6,z4,-⟩:=hget
       simp only at q0 q1 q2 q3 q4 q5 q6 z4
       obtain ⟨Z,hZ⟩:∃ Z,bb lb=Z:=⟨_,rfl⟩
       rw [hZ] at q4
       have hZ2:Z.data.toList=lb:=by rw [← hZ]
       have hZs:Z.size≤maxLen:=by rw [← size_list,hZ2];exact z4
       have HX:Hid (edgeE g ⟨fr,tw,fp,tp,Z.data.toList,wt,ln⟩=X):=Lh (by rw [hZ2];exact hX)
       have k0:(0:Int)≤(k:Int):=by omega
       have k1:(k:Int) < (g.es.length:Int):=by omega
       have hgr2:=hgr
       have HGR:=Lh hgr
       have HEE:=Lh hee
       have HGRa:=Lh (hgr2.keep (al1 wp (.cells #[.int .i64 fr,.int .i64 tw,.int .i64 fp,.int .i64 tp,.string Z,.int .i64 wt,.int .i64 ln] 61)))
       have hsz:w.heap.size < wp.heap.size:=World.block_lt_of_cell? wp _ g0
       clear hX hee hZ hZ2 z4 hes hgr hgr2 hx HGR
       go_wp2_with fail
       refine (edge_of _ g fr tw fp tp Z wt ln X _ HGRa hZs HX).mono ?_
       rintro e w6 ⟨rfl,hw6⟩
       have HB4:=Lh (below_keep (below_keep hw6 (al1 wp _)) HBw.out)
       have HB5:=Lh (below_keep (below_keep hw6 (al1 wp _)) HB2.out)
       have hee:=HEE.out
       clear hw6 q0 q1 q2 q3 q4 q5 q6 g0 g1 g2 g3 g4
       by_cases x0:X=0
       ·have b0:(X != 0)=false:=by rw [x0];rfl
        rw [if_neg (by rw [x0];decide)] at hee
        have HE2:=Lh hee
        clear hee x0 HEE
        go_wp2
        go_roundw
        case rel=>exact ⟨k+1,by go_num,by omega,HE2.out,HB5.out⟩
        case measure=>simp [intOf];omega
       ·have b0:(X != 0)=true:=by rw [bne_iff_ne];exact x0
        rw [if_pos x0] at hee
        have hfe:=HFE3.out
        rw [← hee] at hfe
        subst hfe
        clear hee x0 HEE
        go_wp2
        go_ret
        exact ⟨rfl,HB4.out⟩
      ·rw [firstE_end (by omega)] at hee
       subst hee
       have k2:¬ (k:Int) < (g.es.length:Int):=by omega
       obtain rfl:=HFE3.out
       go_wp2
       go_ret
       exact ⟨rfl,HBw.out⟩
theorem Irow.lower {w:World}{B B':Nat}{v:Value}{l:List Int}(h:Irow w B' v l)(hB:B≤B'):Irow w B v l:=⟨h.1,h.2.imp id fun ⟨g,cap,cur,e,h1,h2⟩=>⟨g,cap,cur,e,Nat.le_trans hB h1,h2⟩⟩
def InsT (L:List Int)(w:World)(e:Ending)(w':World):Prop:=∃ v,e=.returned v∧Irow w' w.heap.size v L∧Below w.heap.size w w'
set_option maxRecDepth 100000 in
set_option maxHeartbeats 8000000 in
theorem cMembersT_of (v:Value)(g:Gr)(c:Int)(R:List Int)(w:World)(h:Hid (GrV w v g))(hr:Hid (memV g c=R)) :
    Calls Tryz.prog 65 #[v,.int .i64 c] w (InsT R w):=by
 have hg:=h.out
 obtain ⟨nv,ev,cv,rfl,hnl,hns,hes,hcs⟩:=h.out
 obtain ⟨no,nc,rfl,-,hm1,-⟩:=id hns
 obtain ⟨eo,ec,rfl,-,hm2,-⟩:=id hes
 obtain ⟨co,cc,rfl,-,hm3,-⟩:=id hcs
 have hfe:=hr.out
 unfold memV at hfe
 have HG:=Lh (gat_new w (bb g.nm) g.dir (.slice no g.ns.length nc) (.slice eo g.es.length ec) (.slice co g.cs.length cc) 26)
 have HB:=Lh (al1 w (.cells #[.string (bb g.nm),.bool g.dir,.slice no g.ns.length nc,.slice eo g.es.length ec,.slice co g.cs.length cc] 26))
 have HGR:=Lh (hg.keep HB.out)
 have HNS:=Lh hns
 clear hns hes hcs hm1 hm2 hm3 hnl h hr
 obtain ⟨V,hV⟩:∃ V,validE g=V:=⟨_,rfl⟩
 have HV:=Lh hV
 obtain ⟨b1,hb1⟩:∃ b,decide (-1≤c∧c < (g.cs.length:Int))=b:=⟨_,rfl⟩
 have H1:=Lh hb1
 rw [hV] at hfe
 clear hV hb1
 go_enter Tryz.func65,Tryz.ntmps65
 go_wp2_with fail
 refine (isclu_of _ g c b1 _ HGR H1).mono ?_
 rintro e w1 ⟨rfl,hb1⟩
 have HB1:=Lh (below_keep hb1 HB.out)
 have HG1:=Lh (gat_keep HG.out hb1)
 have HGR1:=Lh (hg.keep HB1.out)
 obtain ⟨g0,g1,g2,g3,g4⟩:=HG1.out
 clear hb1 HGR
 cases b1
 ·have h1:=of_decide_eq_false H1.out
  rw [if_pos (Or.inr (by omega))] at hfe
  subst hfe
  clear h1
  go_wp2
  go_ret
  exact ⟨_,rfl,own_nil _ _ _ _,HB1.out⟩
 have h1:=of_decide_eq_true H1.out
 go_wp2_with fail
 refine (cvalid_of _ g V _ HGR1 HV).mono ?_
 rintro e w2 ⟨rfl,hb2⟩
 have HB2:=Lh (below_keep hb2 HB1.out)
 have HG2:=Lh (gat_keep HG1.out hb2)
 clear g0 g1 g2 g3 g4 hb2 HGR1
 obtain ⟨g0,g1,g2,g3,g4⟩:=HG2.out
 by_cases v0:V=0
 case neg =>
  have b0:(V != 0)=true:=by rw [bne_iff_ne];exact v0
  rw [if_pos (Or.inl v0)] at hfe
  subst hfe
  clear v0
  go_wp2
  go_ret
  exact ⟨_,rfl,own_nil _ _ _ _,HB2.out⟩
 have b0:(V != 0)=false:=by rw [v0];rfl
 rw [if_neg (by omega)] at hfe
 have hvw:=valid_wf g (HV.out.trans v0)
 have h64:=valid_ns (HV.out.trans v0)
 have HWF:=Lh hvw.1
 have HCR:=Lh hvw.2
 have HC1:=Lh h1
 have HR:Hid (memsK g c g.ns.length=R):=Lh hfe
 clear v0 hfe HV hvw h1
 go_wp2_with fail
 clear g0 g1 g2 g3 g4 b0 HG HG1
 go_loopw [5,20] (fun ov iv wr=>∃ (k:Nat) (C:List Int),iv=.int .i64 k∧k≤g.ns.length∧memsK g c k=C∧Irow wr w2.heap.size ov C∧Below w2.heap.size w2 wr) (fun _ iv _=>g.ns.length - (intOf iv).toNat)
 case atStart=>exact ⟨0,[],rfl,Nat.zero_le _,rfl,own_nil _ _ _ _,Below.refl _ _⟩
 case round =>
  obtain ⟨k,C,rfl,hk,hC,hrow,hB3⟩:=hrel
  rename World=>wr
  have HBw:=Lh (below_keep hB3 HB2.out)
  have HGQ:=Lh (gat_keep HG2.out hB3)
  have HB3:=Lh hB3
  have HROW:=Lh hrow
  have HC:=Lh hC
  have hCl:C.length≤1000000:=by
   have:=memsK_len g c k
   rw [hC] at this
   omega
  clear hB3 hrow hC
  by_cases hlt:k < g.ns.length
  ·have hget:=(HNS.out.keep HBw.out).get hlt
   have hcl:clOf g k=g.ns[k].cl:=by unfold clOf;rw [List.getElem?_eq_getElem hlt]
   obtain ⟨x,hx⟩:∃ x,g.ns[k]=x:=⟨_,rfl⟩
   rw [hx] at hget hcl
   obtain ⟨xn,xl,xw,xh,xc,xp⟩:=x
   obtain ⟨A,rfl,q0,q1,q2,q3,q4,⟨pv,q5,hps⟩,-⟩:=hget
   simp only at q0 q1 q2 q3 q4 q5 hps hcl
   obtain ⟨po,pc,rfl,-,-,-⟩:=id hps
   have hcr:=HCR.out k hlt
   rw [hcl] at hcr
   have hex:=isCC_some HWF.out (c+xc+3).toNat c xc HC1.out.1 hcr.1 (by have:=HC1.out.1;omega)
   obtain ⟨Q,hQ⟩:=hex
   have hqh:decide (Q=c)=has g c k:=isCC_has HWF.out HC1.out.1 (by rw [hcl];exact hQ)
   have HQ:=Lh hQ
   have HXR:=Lh hcr
   obtain ⟨p,hp⟩:∃ p,has g c k=p:=⟨_,rfl⟩
   have HP:=Lh hp
   have hz:(Q == c)=p:=by rw [← hp,← hqh,Bool.eq_iff_iff];simp
   have i0:(0:Int)≤(k:Int):=by omega
   have i1:(k:Int) < (g.ns.length:Int):=by omega
   obtain ⟨g0,g1,g2,g3,g4⟩:=HGQ.out
   have hsz:w.heap.size < wr.heap.size:=World.block_lt_of_cell? wr _ g0
   have HBa:=Lh (below_keep (al1 wr (.cells #[.string (bb xn),.string (bb xl),.int .i64 xw,.int .i64 xh,.int .i64 xc,.slice po xp.length pc] 59)) HB3.out)
   have HGRa:=Lh (hg.keep (below_keep (al1 wr (.cells #[.string (bb xn),.string (bb xl),.int .i64 xw,.int .i64 xh,.int .i64 xc,.slice po xp.length pc] 59)) HBw.out))
   have HROWa:Hid (Irow (wr.alloc (.cells #[.string (bb xn),.string (bb xl),.int .i64 xw,.int .i64 xh,.int .i64 xc,.slice po xp.length pc] 59)) w2.heap.size _ C):=Lh (own_keep HROW.out (al1 ..))
   clear hp hps hx hcl hcr hQ hqh
   go_wp2_with fail
   refine (ccomm_of _ g c xc Q _ HGRa HWF HC1 HXR HQ).mono ?_
   rintro e w4 ⟨rfl,hb4⟩
   have hB4:=below_keep hb4 HBa.out
   have HB4:=Lh hB4
   have HROW4:Hid (Irow w4 w2.heap.size _ C):=Lh (own_keep HROWa.out hb4)
   have hsz4:=hB4.size
   clear hb4 hB4 g0 g1 g2 g3 g4 q0 q1 q2 q3 q4 q5 hsz
   cases p
   ·have HN:=Lh (memsK_no HP.out)
    go_wp2
    go_roundw
    case rel=>exact ⟨k+1,C,by go_num,by omega,by rw [HN.out,HC.out],HROW4.out,HB4.out⟩
    case measure=>simp [intOf];omega
   ·have HN:=Lh (memsK_yes HP.out)
    go_wp2_with (at_builtin;refine app_in rfl (.tmp 32) (.tmp 34) rfl w2.heap.size _ C (k:Int) _ rfl rfl rfl HROW4 hCl (by omega) ?_;intro ao5 cap5 w5 hrow5 hgrow5;have hB5:=HB4.out.grown hgrow5 (by omega) (fun q hq=>(World.ownsRow.lt HROW4.out q hq).1);clear hgrow5)
    go_roundw
    case rel=>exact ⟨k+1,C ++ [(k:Int)],by go_num,by omega,by rw [HN.out,HC.out],hrow5,hB5⟩
    case measure=>simp [intOf];omega
  ·obtain rfl:k=g.ns.length:=by omega
   obtain rfl:C=R:=by rw [← HC.out,HR.out]
   go_wp2
   go_ret
   exact ⟨_,rfl,Irow.lower HROW.out HB2.out.size,HBw.out⟩
end Go.Proofs.YtgmidodmmlmmeaaGreatDoor.gra
