/-
  Contracts and plain facts of the layers below; conditions as each theorem states them.
-/
import Derived.Test.YtgmidodmmlmmeaaGreatDoorMgc
set_option maxHeartbeats 16000000
set_option maxRecDepth 100000
namespace Go.Proofs.YtgmidodmmlmmeaaGreatDoor.gra
open Go.RowKit lex _root_.Go.Proofs.Tryz
theorem yi2 {W w:World}(h:Below W.heap.size W w):Below W.heap.size W w.drew:=h.drew
theorem ype {W w:World}{o:Obj}(h:Below W.heap.size W w):Below W.heap.size W (w.alloc o):=ya (al1 ..) h
theorem cb_set {W w:World}{g:Nat}{o:Nat}{v:Value}(hg:W.heap.size<=g)(h:Below W.heap.size W w):Below W.heap.size W (w.setCell ⟨g,o,none⟩ v):=h.setCell hg _
theorem yrS {W w:World}{p0 p1 p2:Addr}{u0 u1 u2:Value}(a0:W.cell? p0=some u0)(a1:W.cell? p1=some u1)(a2:W.cell? p2=some u2)(h:Below W.heap.size W w):Below W.heap.size W w/\w.cell? p0=some u0/\w.cell? p1=some u1/\w.cell? p2=some u2 :=
 ⟨h,yb h a0,yb h a1,yb h a2⟩
theorem ydY (v:Value)(g:Gr)(i:Nat)(R:Int)(w:World)(h:Hid (GrV w v g))(hi:i<g.cs.length)(hw:Hid (Wf (g.cs.take i)))(hr:Hid (clusterE g (g.cs.take i) g.cs[i]=R)) :
    Calls Tryz.prog 62 #[v,.int .i64 i] w fun e w'=>e=.returned (.int .i64 R)/\Below w.heap.size w w':=by
 have hmf:∀ (fn:Fn) (first cap:Array Value) (w:World),(Instr.makeFunc fn first cap).run Tryz.prog w=.ok (.func fn first cap) w:=fun _ _ _ _=>rfl
 have hg:=h.out;obtain⟨nv,ev,cv,rfl,hnl,hns,hes,hcs⟩:=h.out;obtain⟨no,nc,rfl,-,-,-⟩:=id hns;obtain⟨eo,ec,rfl,-,-,-⟩:=id hes;obtain⟨co,cc,rfl,hm0,hm1,-⟩:=id hcs;unfold maxLen at hm1;have hlm:g.cs.length<=9223372036854775807:=by omega
 obtain⟨x,hx⟩:∃ x,g.cs[i]=x:=⟨_,rfl⟩
 have hget:=(hcs.keep (al1 w (.cells #[.string (bb g.nm),.bool g.dir,.slice no g.ns.length nc,.slice eo g.es.length ec,.slice co g.cs.length cc] 26))).get hi;have hfe:=hr.out;rw[hx] at hget hfe;obtain⟨A,rfl,q0,q1,z0,-⟩:=hget;obtain⟨xn,u⟩:=x;have HXI:Hid (g.cs[i].2=u):=Lh (by rw[hx]);have HTK:Hid (g.cs.take i++[(xn,u)]=g.cs.take (i+1)):=Lh (by rw[List.take_succ_eq_append_getElem hi,hx]);simp only at q0 q1 z0 hfe;obtain⟨Y,hY⟩:∃ Y,bb xn=Y:=⟨_,rfl⟩
 rw[hY] at q0;have hY2:Y.data.toList=xn:=by rw[<- hY]
 have hYs:Y.size<=maxLen:=by rw[<- yp,hY2];exact z0
 have i0:(0:Int)<=(i:Int):=by omega
 have i1:(i:Int)<(g.cs.length:Int):=by omega
 obtain⟨W1,hW1⟩:∃ W1,w.alloc (.cells #[.string (bb g.nm),.bool g.dir,.slice no g.ns.length nc,.slice eo g.es.length ec,.slice (some A) g.cs.length cc] 26)=W1:=⟨_,rfl⟩
 have HW1:=Lh hW1;have hB:=al1 w (.cells #[.string (bb g.nm),.bool g.dir,.slice no g.ns.length nc,.slice eo g.es.length ec,.slice (some A) g.cs.length cc] 26);have hG:=ybh w (bb g.nm) g.dir (.slice no g.ns.length nc) (.slice eo g.es.length ec) (.slice (some A) g.cs.length cc) 26;rw[hW1] at hB hG q0 q1;have hs1:W1.heap.size=w.heap.size+1:=by rw[<- hW1];simp
 have HB:=Lh hB;have HG:=Lh hG;have HCS:=Lh (hcs.keep hB);clear hW1 hB hG hY z0 hx hns hes hcs hnl h hr;go_enter func62,ntmps62;go_wp2_with fail
 rw[HW1.out];obtain⟨g0,g1,g2,g3,g4⟩:=HG.out
 go_region_held3 (fun w'=>Below W1.heap.size W1 w'/\w'.cell? ⟨w.heap.size,4,none⟩=some (.slice (some A) g.cs.length cc)/\w'.cell? (A.add (i*2))=some (.string Y)/\w'.cell? ⟨(A.add (i*2)).block,(A.add (i*2)).off+1,none⟩=some (.int .i64 u))
  (first | assumption | (refine yrS g4 q0 q1 ?_;repeat (first | (with_reducible exact Below.refl _ _) | (with_reducible refine yi2 ?_) | (with_reducible refine ype ?_) | (with_reducible refine cb_set (by simp) ?_))))
  (fail)
 have HB2:Hid (Below w.heap.size w (W1.alloc (.cells #[.string Y] 9)).drew):=Lh ((ya (al1 ..) HB.out).drew);have HG2:Hid (gat (W1.alloc (.cells #[.string Y] 9)).drew w.heap.size (bb g.nm) g.dir (.slice no g.ns.length nc) (.slice eo g.es.length ec) (.slice (some A) g.cs.length cc)):=Lh (yx HG.out (yi2 (al1 ..)));have HY2:Hid ((W1.alloc (.cells #[.string Y] 9)).drew.cell? ⟨w.heap.size+1,0,none⟩=some (.string Y)):=Lh (by rw[<- hs1];show (W1.alloc (.cells #[.string Y] 9)).cell? _=_;go_simp);have HCS2:=Lh (HCS.out.keep (yi2 (al1 W1 (.cells #[.string Y] 9))));have HGR2:=Lh (hg.keep HB2.out)
 go_split_ands
 clear q0 q1 g0 g1 g2 g3 g4 HB HG HCS;generalize (W1.alloc (.cells #[.string Y] 9)).drew=W2 at *;clear HW1 hs1;obtain⟨b1,hb1⟩:∃ b,yK Y.data.toList=b:=⟨_,rfl⟩
 obtain⟨b2,hb2⟩:∃ b,(g.cs.take i).any (fun p=>p.1==Y.data.toList)=b:=⟨_,rfl⟩
 obtain⟨b3,hb3⟩:∃ b,g.ns.any (fun y=>y.nm==Y.data.toList)=b:=⟨_,rfl⟩
 obtain⟨F,hF⟩:∃ F,ykH g Y.data.toList=F:=⟨_,rfl⟩
 have hF3:(F != -1)=b3:=by
  have h1:=yhG (s:=Y.data.toList) g.ns 0;have h2:=ygH g.ns Y.data.toList 0;have h3:findG g.ns Y.data.toList 0=F:=hF;rw[h3,hb3] at h1;rw[h3] at h2;rw[Bool.eq_iff_iff,bne_iff_ne,<- h1];omega
 have H1:=Lh hb1;have H2:=Lh hb2;have HF:=Lh hF;have HF3:=Lh hF3;unfold clusterE at hfe;simp only at hfe;rw[<- hY2,hb1,hb2,hb3] at hfe;rw[<- hY2] at HTK;have HE:=Lh hfe;have y0:=HY2.out;clear hfe hb1 hb2 hb3 hF hF3 hY2;go_wp2_with fail
 refine(yS Y b1 _ hYs H1).mono ?_;rintro e w3 ⟨rfl,hw3⟩;have HB3:=Lh (ya hw3 HB2.out);have HG3:=Lh (yx HG2.out hw3);have HY3:=Lh (ye hw3 HY2.out);have HCS3:=Lh (HCS2.out.keep hw3);clear y0 hw3 HGR2;cases b1
 ·obtain rfl:5=R:=by rw[<- HE.out];rfl
  go_wp2;go_ret;exact⟨rfl,HB3.out⟩
 have HFR:=Lh (HCS3.out.front (Nat.le_of_lt hi));obtain⟨g0,g1,g2,g3,g4⟩:=HG3.out;have y0:=HY3.out;have i2:(i:Int)<=(cc:Int):=by omega
 have hcm:cc<=9223372036854775807:=by omega
 go_wp2_with fail
 refine(ymA _ _ (w.heap.size+1) Y b2 w3 HFR HY3 H2).mono ?_;rintro e w4 ⟨rfl,hw4⟩;have HB4:=Lh (ya hw4 HB3.out);have HG4:=Lh (yx HG3.out hw4);have HY4:=Lh (ye hw4 HY3.out);have HGR4:=Lh (hg.keep HB4.out);clear y0 g0 g1 g2 g3 g4 hw4 HCS3 HFR i2 hcm;cases b2
 case true =>
  obtain rfl:6=R:=by rw[<- HE.out];rfl
  go_wp2;go_ret;exact⟨rfl,HB4.out⟩
 obtain⟨g0,g1,g2,g3,g4⟩:=HG4.out;have y0:=HY4.out;go_wp2_with fail
 refine(yj9 _ g Y F _ HGR4 HF).mono ?_;rintro e w5 ⟨rfl,hw5⟩;have HB5:=Lh (ya hw5 HB4.out);have HG5:=Lh (yx HG4.out hw5);have HGR5:=Lh (hg.keep HB5.out);clear y0 g0 g1 g2 g3 g4 hw5 HGR4;have zf:=HF3.out;cases b3
 case true =>
  obtain rfl:6=R:=by rw[<- HE.out];rfl
  go_wp2;go_ret;exact⟨rfl,HB5.out⟩
 have hE:=HE.out;simp only[Bool.true_eq_false,if_false,Bool.false_eq_true] at hE;have hpl:(g.cs.take i).length=i:=by rw[List.length_take];omega
 rw[hpl] at hE;have e1:IntKind.i64.wrap ((i:Int)-1)=(i:Int)-1:=IntWalk.i64_in _ (by omega);obtain⟨b4,hb4⟩:∃ b,decide (-1<=u/\u<=(i:Int)-1)=b:=⟨_,rfl⟩
 have H4:=Lh hb4;have HE2:=Lh hE;clear hE HE hb4;go_wp2_with fail
 refine(ybq (-1) ((i:Int)-1) u b4 _ H4).mono ?_;rintro e w6 ⟨rfl,rfl⟩;clear zf;cases b4
 ·have h4:=of_decide_eq_false H4.out
  obtain rfl:3=R:=by rw[<- HE2.out,if_pos (by omega)]
  clear h4;go_wp2;go_ret;exact⟨rfl,HB5.out⟩
 have h4:=of_decide_eq_true H4.out;have hE:=HE2.out;rw[if_neg (by omega)] at hE;have hx2:g.cs[i].2=u:=HXI.out;have HWN:=Lh (ygK hi hw.out (by rw[hx2];exact h4.1) (by rw[hx2];omega));obtain⟨D,hD⟩:∃ D,dep (g.cs.take (i+1)) (i:Int)=D:=⟨_,rfl⟩
 have HD:=Lh hD;rw[HTK.out,hD] at hE;obtain⟨g0,g1,g2,g3,g4⟩:=HG5.out;have HE3:=Lh hE;clear hE HE2 h4 hD hx2;go_wp2_with fail
 refine(ymy _ g (i+1) (i:Int) D _ HGR5 hi HWN (by omega) (by omega) HD).mono ?_;rintro e w7 ⟨rfl,hw7⟩;have HB7:=Lh (ya hw7 HB5.out);clear hw7 g0 g1 g2 g3 g4
 by_cases h6:6<D
 ·obtain rfl:2=R:=by rw[<- HE3.out,if_pos h6]
  go_wp2;go_ret;exact⟨rfl,HB7.out⟩
 ·obtain rfl:0=R:=by rw[<- HE3.out,if_neg h6]
  go_wp2;go_ret;exact⟨rfl,HB7.out⟩
theorem cvalid_of (v:Value)(g:Gr)(R:Int)(w:World)(h:Hid (GrV w v g))(hr:Hid (validE g=R)) :
    Calls Tryz.prog 25 #[v] w fun e w'=>e=.returned (.int .i64 R)/\Below w.heap.size w w':=by
 have hg:=h.out;obtain⟨nv,ev,cv,rfl,hnl,hns,hes,hcs⟩:=h.out;obtain⟨no,nc,rfl,-,hm1,-⟩:=id hns;obtain⟨eo,ec,rfl,-,hm2,-⟩:=id hes;obtain⟨co,cc,rfl,-,hm3,-⟩:=id hcs;have hYs:(bb g.nm).size<=maxLen:=by rw[<- yp];exact hnl
 have hfe:=hr.out;unfold validE at hfe;have HG:=Lh (ybh w (bb g.nm) g.dir (.slice no g.ns.length nc) (.slice eo g.es.length ec) (.slice co g.cs.length cc) 26);have HB:=Lh (al1 w (.cells #[.string (bb g.nm),.bool g.dir,.slice no g.ns.length nc,.slice eo g.es.length ec,.slice co g.cs.length cc] 26));clear hns hes hcs hm1 hm2 hm3 hnl h hr
 by_cases a0:64<g.ns.length
 ·rw[if_pos (Or.inl a0)] at hfe
  subst hfe;have l0:(64:Int)<(g.ns.length:Int):=by omega
  clear a0;go_enter func25,ntmps25;go_wp2;go_ret;exact⟨rfl,HB.out⟩
 by_cases a1:256<g.es.length
 ·rw[if_pos (Or.inr (Or.inl a1))] at hfe
  subst hfe;have l0:¬ (64:Int)<(g.ns.length:Int):=by omega
  have l1:(256:Int)<(g.es.length:Int):=by omega
  clear a0 a1;go_enter func25,ntmps25;go_wp2;go_ret;exact⟨rfl,HB.out⟩
 by_cases a2:16<g.cs.length
 ·rw[if_pos (Or.inr (Or.inr a2))] at hfe
  subst hfe;have l0:¬ (64:Int)<(g.ns.length:Int):=by omega
  have l1:¬ (256:Int)<(g.es.length:Int):=by omega
  have l2:(16:Int)<(g.cs.length:Int):=by omega
  clear a0 a1 a2;go_enter func25,ntmps25;go_wp2;go_ret;exact⟨rfl,HB.out⟩
 rw[if_neg (by omega)] at hfe;have l0:¬ (64:Int)<(g.ns.length:Int):=by omega
 have l1:¬ (256:Int)<(g.es.length:Int):=by omega
 have l2:¬ (16:Int)<(g.cs.length:Int):=by omega
 have m0:g.ns.length<=64:=by omega
 have m1:g.es.length<=256:=by omega
 have m2:g.cs.length<=16:=by omega
 clear a0 a1 a2;obtain⟨nm,hnm⟩:∃ b,yK g.nm=b:=⟨_,rfl⟩
 have HNM:Hid (yK (bb g.nm).data.toList=nm):=Lh hnm;rw[hnm] at hfe;clear hnm;go_enter func25,ntmps25;go_wp2_with fail
 refine(yS _ _ _ hYs HNM).mono ?_;rintro e w1 ⟨rfl,hw1⟩;have HB1:=Lh (ya hw1 HB.out);have HG1:=Lh (yx HG.out hw1);clear HB HG hw1
 rename Hid (Below w.heap.size w w1)=>HB
 rename Hid (gat w1 w.heap.size _ _ _ _ _)=>HG
 clear l0 l1 l2 HNM hYs;cases nm
 ·rw[if_pos rfl] at hfe
  subst hfe;go_wp2;go_ret;exact⟨rfl,HB.out⟩
 rw[if_neg (by decide)] at hfe;obtain⟨N,hN⟩:∃ N,firstE (nodeE g) [] g.ns=N:=⟨_,rfl⟩
 obtain⟨C,hC⟩:∃ C,firstE (clusterE g) [] g.cs=C:=⟨_,rfl⟩
 obtain⟨E,hE⟩:∃ E,firstE (fun _ x=>edgeE g x) [] g.es=E:=⟨_,rfl⟩
 rw[hN,hC,hE] at hfe;have HNE:Hid (firstE (nodeE g) (g.ns.take 0) (g.ns.drop 0)=N):=Lh hN;have HCE:Hid (firstE (clusterE g) (g.cs.take 0) (g.cs.drop 0)=C):=Lh hC;have HEE:Hid (firstE (fun _ x=>edgeE g x) (g.es.take 0) (g.es.drop 0)=E):=Lh hE;have HFE:=Lh hfe;clear hN hC hE hfe;obtain⟨g0,g1,g2,g3,g4⟩:=HG.out;go_wp2_with fail
 clear g0 g1 g2 g3 g4
 go_loopw [35] (fun iv wr=>∃ i:Nat,iv=.int .i64 i/\i<=g.ns.length/\firstE (nodeE g) (g.ns.take i) (g.ns.drop i)=N/\Below w1.heap.size w1 wr) (fun iv _=>g.ns.length-(intOf iv).toNat)
 case atStart=>exact⟨0,rfl,Nat.zero_le _,HNE.out,Below.refl _ _⟩
 case round =>
  obtain⟨i,rfl,hi,hne,hB2⟩:=hrel
  rename World=>wr
  clear HNE;have HBw:=Lh (ya hB2 HB.out);have HGQ:=Lh (yx HG.out hB2);have HGR:=Lh (hg.keep HBw.out);have HB2:=Lh hB2;obtain⟨g0,g1,g2,g3,g4⟩:=HGQ.out;clear hB2
  by_cases hlt:i<g.ns.length
  ·rw[ybo hlt] at hne
   obtain⟨X,hX⟩:∃ X,nodeE g (g.ns.take i) g.ns[i]=X:=⟨_,rfl⟩
   have HX:=Lh hX;rw[hX] at hne;have i1:(i:Int)<(g.ns.length:Int):=by omega
   have HNE:=Lh hne;clear hX hne;go_wp2_with fail
   refine(yhg _ g i X wr HGR hlt HX).mono ?_;rintro e w4 ⟨rfl,hb4⟩;have HB4:=Lh (ya hb4 HBw.out);have HB5:=Lh (ya hb4 HB2.out);clear hb4;have hne:=HNE.out
   by_cases x0:X=0
   ·have b0:(X != 0)=false:=by rw[x0];rfl
    rw[if_neg (by rw[x0];decide)] at hne;have HN2:=Lh hne;clear hne x0 HNE;go_wp2
    go_roundw
    case rel=>exact⟨i+1,by go_num,by omega,HN2.out,HB5.out⟩
    case measure=>simp[intOf];omega
   ·have b0:(X != 0)=true:=by rw[bne_iff_ne];exact x0
    rw[if_pos x0] at hne;have hfe:=HFE.out;rw[<- hne,if_pos x0] at hfe;subst hfe;clear hne x0 HNE;go_wp2;go_ret;exact⟨rfl,HB4.out⟩
  ·rw[ya4 (by omega)] at hne
   subst hne;have i2:¬ (i:Int)<(g.ns.length:Int):=by omega
   have hfe:=HFE.out;rw[if_neg (by decide)] at hfe;have HFE2:=Lh hfe;clear hfe HFE;go_wp2_with fail
   clear g0 g1 g2 g3 g4
   go_loopw [48] (fun iv wq=>∃ j:Nat,iv=.int .i64 j/\j<=g.cs.length/\firstE (clusterE g) (g.cs.take j) (g.cs.drop j)=C/\Below w1.heap.size w1 wq/\Wf (g.cs.take j)) (fun iv _=>g.cs.length-(intOf iv).toNat)
   case atStart=>exact⟨0,rfl,Nat.zero_le _,HCE.out,HB2.out,fun i x hx=>by simp at hx⟩
   case round =>
    clear HCE HGQ HGR HBw HB2;obtain⟨j,rfl,hj,hce,hB2,hwf⟩:=hrel
    rename World=>wq
    have HBw:=Lh (ya hB2 HB.out);have HGQ:=Lh (yx HG.out hB2);have HGR:=Lh (hg.keep HBw.out);have HB2:=Lh hB2;have HWF:=Lh hwf;obtain⟨g0,g1,g2,g3,g4⟩:=HGQ.out;clear hB2 hwf
    by_cases hlt2:j<g.cs.length
    ·rw[ybo hlt2] at hce
     obtain⟨X,hX⟩:∃ X,clusterE g (g.cs.take j) g.cs[j]=X:=⟨_,rfl⟩
     have HX:=Lh hX;rw[hX] at hce;have j1:(j:Int)<(g.cs.length:Int):=by omega
     have HCE:=Lh hce;clear hX hce;go_wp2_with fail
     refine(ydY _ g j X wq HGR hlt2 HWF HX).mono ?_;rintro e w4 ⟨rfl,hb4⟩;have HB4:=Lh (ya hb4 HBw.out);have HB5:=Lh (ya hb4 HB2.out);clear hb4;have hce:=HCE.out
     by_cases x0:X=0
     ·have b0:(X != 0)=false:=by rw[x0];rfl
      rw[if_neg (by rw[x0];decide)] at hce;have HC2:=Lh hce;have hok:=ygm (HX.out.trans x0);rw[List.length_take,Nat.min_eq_left hj] at hok;have HW2:=Lh (ygK hlt2 HWF.out hok.1 hok.2);clear hce x0 HCE hok;go_wp2
      go_roundw
      case rel=>exact⟨j+1,by go_num,by omega,HC2.out,HB5.out,HW2.out⟩
      case measure=>simp[intOf];omega
     ·have b0:(X != 0)=true:=by rw[bne_iff_ne];exact x0
      rw[if_pos x0] at hce;have hfe:=HFE2.out;rw[<- hce,if_pos x0] at hfe;subst hfe;clear hce x0 HCE;go_wp2;go_ret;exact⟨rfl,HB4.out⟩
    ·rw[ya4 (by omega)] at hce
     subst hce;have j2:¬ (j:Int)<(g.cs.length:Int):=by omega
     have hfe:=HFE2.out;rw[if_neg (by decide)] at hfe;have HFE3:=Lh hfe;clear hfe HFE2;go_wp2_with fail
     clear g0 g1 g2 g3 g4
     go_loopw [61] (fun iv wp=>∃ k:Nat,iv=.int .i64 k/\k<=g.es.length/\firstE (fun _ x=>edgeE g x) (g.es.take k) (g.es.drop k)=E/\Below w1.heap.size w1 wp) (fun iv _=>g.es.length-(intOf iv).toNat)
     case atStart=>exact⟨0,rfl,Nat.zero_le _,HEE.out,HB2.out⟩
     case round =>
      clear HEE HGQ HGR HBw HB2;obtain⟨k,rfl,hk,hee,hB2⟩:=hrel
      rename World=>wp
      have HBw:=Lh (ya hB2 HB.out);have HGQ:=Lh (yx HG.out hB2);have hgr:=hg.keep HBw.out;have HB2:=Lh hB2;obtain⟨g0,g1,g2,g3,g4⟩:=HGQ.out;clear hB2
      by_cases hlt3:k<g.es.length
      ·rw[ybo hlt3] at hee
       obtain⟨nv',ev',cv',e0,_,_,hes,_⟩:=id hgr;cases e0
       have hget:=hes.get hlt3;obtain⟨X,hX⟩:∃ X,edgeE g g.es[k]=X:=⟨_,rfl⟩
       rw[hX] at hee;obtain⟨x,hx⟩:∃ x,g.es[k]=x:=⟨_,rfl⟩
       rw[hx] at hget hX;obtain⟨fr,tw,fp,tp,lb,wt,ln⟩:=x;obtain⟨A,rfl,q0,q1,q2,q3,q4,q5,q6,z4,-⟩:=hget;simp only at q0 q1 q2 q3 q4 q5 q6 z4;obtain⟨Z,hZ⟩:∃ Z,bb lb=Z:=⟨_,rfl⟩
       rw[hZ] at q4;have hZ2:Z.data.toList=lb:=by rw[<- hZ]
       have hZs:Z.size<=maxLen:=by rw[<- yp,hZ2];exact z4
       have HX:Hid (edgeE g ⟨fr,tw,fp,tp,Z.data.toList,wt,ln⟩=X):=Lh (by rw[hZ2];exact hX);have k0:(0:Int)<=(k:Int):=by omega
       have k1:(k:Int)<(g.es.length:Int):=by omega
       have hgr2:=hgr;have HGR:=Lh hgr;have HEE:=Lh hee;have HGRa:=Lh (hgr2.keep (al1 wp (.cells #[.int .i64 fr,.int .i64 tw,.int .i64 fp,.int .i64 tp,.string Z,.int .i64 wt,.int .i64 ln] 61)));have hsz:w.heap.size<wp.heap.size:=World.block_lt_of_cell? wp _ g0;clear hX hee hZ hZ2 z4 hes hgr hgr2 hx HGR;go_wp2_with fail
       refine(yrR _ g fr tw fp tp Z wt ln X _ HGRa hZs HX).mono ?_;rintro e w6 ⟨rfl,hw6⟩;have HB4:=Lh (ya (ya hw6 (al1 wp _)) HBw.out);have HB5:=Lh (ya (ya hw6 (al1 wp _)) HB2.out);have hee:=HEE.out;clear hw6 q0 q1 q2 q3 q4 q5 q6 g0 g1 g2 g3 g4
       by_cases x0:X=0
       ·have b0:(X != 0)=false:=by rw[x0];rfl
        rw[if_neg (by rw[x0];decide)] at hee;have HE2:=Lh hee;clear hee x0 HEE;go_wp2
        go_roundw
        case rel=>exact⟨k+1,by go_num,by omega,HE2.out,HB5.out⟩
        case measure=>simp[intOf];omega
       ·have b0:(X != 0)=true:=by rw[bne_iff_ne];exact x0
        rw[if_pos x0] at hee;have hfe:=HFE3.out;rw[<- hee] at hfe;subst hfe;clear hee x0 HEE;go_wp2;go_ret;exact⟨rfl,HB4.out⟩
      ·rw[ya4 (by omega)] at hee
       subst hee;have k2:¬ (k:Int)<(g.es.length:Int):=by omega
       obtain rfl:=HFE3.out;go_wp2;go_ret;exact⟨rfl,HBw.out⟩
end Go.Proofs.YtgmidodmmlmmeaaGreatDoor.gra
namespace Go.Proofs.YtgmidodmmlmmeaaGreatDoor.gra
open Go.RowKit lex
end Go.Proofs.YtgmidodmmlmmeaaGreatDoor.gra
namespace Go.Proofs.YtgmidodmmlmmeaaGreatDoor.gra
open Go.RowKit lex _root_.Go.Proofs.Tryz
theorem Irow.lower {w:World}{B B':Nat}{v:Value}{l:List Int}(h:Irow w B' v l)(hB:B<=B'):Irow w B v l:=⟨h.1,h.2.imp id fun⟨g,cap,cur,e,h1,h2⟩=>⟨g,cap,cur,e,Nat.le_trans hB h1,h2⟩⟩
def InsT (L:List Int)(w:World)(e:Ending)(w':World):Prop:=∃ v,e=.returned v/\Irow w' w.heap.size v L/\Below w.heap.size w w'
theorem cMembersT_of (v:Value)(g:Gr)(c:Int)(R:List Int)(w:World)(h:Hid (GrV w v g))(hr:Hid (memV g c=R)) :
    Calls Tryz.prog 65 #[v,.int .i64 c] w (InsT R w):=by
 have hg:=h.out;obtain⟨nv,ev,cv,rfl,hnl,hns,hes,hcs⟩:=h.out;obtain⟨no,nc,rfl,-,hm1,-⟩:=id hns;obtain⟨eo,ec,rfl,-,hm2,-⟩:=id hes;obtain⟨co,cc,rfl,-,hm3,-⟩:=id hcs;have hfe:=hr.out;unfold memV at hfe;have HG:=Lh (ybh w (bb g.nm) g.dir (.slice no g.ns.length nc) (.slice eo g.es.length ec) (.slice co g.cs.length cc) 26);have HB:=Lh (al1 w (.cells #[.string (bb g.nm),.bool g.dir,.slice no g.ns.length nc,.slice eo g.es.length ec,.slice co g.cs.length cc] 26));have HGR:=Lh (hg.keep HB.out);have HNS:=Lh hns;clear hns hes hcs hm1 hm2 hm3 hnl h hr;obtain⟨V,hV⟩:∃ V,validE g=V:=⟨_,rfl⟩
 have HV:=Lh hV;obtain⟨b1,hb1⟩:∃ b,decide (-1<=c/\c<(g.cs.length:Int))=b:=⟨_,rfl⟩
 have H1:=Lh hb1;rw[hV] at hfe;clear hV hb1;go_enter func65,ntmps65;go_wp2_with fail
 refine(yj7 _ g c b1 _ HGR H1).mono ?_;rintro e w1 ⟨rfl,hb1⟩;have HB1:=Lh (ya hb1 HB.out);have HG1:=Lh (yx HG.out hb1);have HGR1:=Lh (hg.keep HB1.out);obtain⟨g0,g1,g2,g3,g4⟩:=HG1.out;clear hb1 HGR;cases b1
 ·have h1:=of_decide_eq_false H1.out
  rw[if_pos (Or.inr (by omega))] at hfe;subst hfe;clear h1;go_wp2;go_ret;exact⟨_,rfl,ygL _ _ _ _,HB1.out⟩
 have h1:=of_decide_eq_true H1.out;go_wp2_with fail
 refine(cvalid_of _ g V _ HGR1 HV).mono ?_;rintro e w2 ⟨rfl,hb2⟩;have HB2:=Lh (ya hb2 HB1.out);have HG2:=Lh (yx HG1.out hb2);clear g0 g1 g2 g3 g4 hb2 HGR1;obtain⟨g0,g1,g2,g3,g4⟩:=HG2.out
 by_cases v0:V=0
 case neg =>
  have b0:(V != 0)=true:=by rw[bne_iff_ne];exact v0
  rw[if_pos (Or.inl v0)] at hfe;subst hfe;clear v0;go_wp2;go_ret;exact⟨_,rfl,ygL _ _ _ _,HB2.out⟩
 have b0:(V != 0)=false:=by rw[v0];rfl
 rw[if_neg (by omega)] at hfe;have hvw:=yjr g (HV.out.trans v0);have h64:=yj3 (HV.out.trans v0);have HWF:=Lh hvw.1;have HCR:=Lh hvw.2;have HC1:=Lh h1;have HR:Hid (memsK g c g.ns.length=R):=Lh hfe;clear v0 hfe HV hvw h1;go_wp2_with fail
 clear g0 g1 g2 g3 g4 b0 HG HG1
 go_loopw [5,20] (fun ov iv wr=>∃ (k:Nat) (C:List Int),iv=.int .i64 k/\k<=g.ns.length/\memsK g c k=C/\Irow wr w2.heap.size ov C/\Below w2.heap.size w2 wr) (fun _ iv _=>g.ns.length-(intOf iv).toNat)
 case atStart=>exact⟨0,[],rfl,Nat.zero_le _,rfl,ygL _ _ _ _,Below.refl _ _⟩
 case round =>
  obtain⟨k,C,rfl,hk,hC,hrow,hB3⟩:=hrel
  rename World=>wr
  have HBw:=Lh (ya hB3 HB2.out);have HGQ:=Lh (yx HG2.out hB3);have HB3:=Lh hB3;have HROW:=Lh hrow;have HC:=Lh hC
  have hCl:C.length<=1000000:=by
   have:=yif g c k;rw[hC] at this;omega
  clear hB3 hrow hC
  by_cases hlt:k<g.ns.length
  ·have hget:=(HNS.out.keep HBw.out).get hlt
   have hcl:clOf g k=g.ns[k].cl:=by unfold clOf;rw[List.getElem?_eq_getElem hlt]
   obtain⟨x,hx⟩:∃ x,g.ns[k]=x:=⟨_,rfl⟩
   rw[hx] at hget hcl;obtain⟨xn,xl,xw,xh,xc,xp⟩:=x;obtain⟨A,rfl,q0,q1,q2,q3,q4,⟨pv,q5,hps⟩,-⟩:=hget;simp only at q0 q1 q2 q3 q4 q5 hps hcl;obtain⟨po,pc,rfl,-,-,-⟩:=id hps;have hcr:=HCR.out k hlt;rw[hcl] at hcr;have hex:=yfq HWF.out (c+xc+3).toNat c xc HC1.out.1 hcr.1 (by have:=HC1.out.1;omega);obtain⟨Q,hQ⟩:=hex;have hqh:decide (Q=c)=has g c k:=yo8 HWF.out HC1.out.1 (by rw[hcl];exact hQ);have HQ:=Lh hQ;have HXR:=Lh hcr;obtain⟨p,hp⟩:∃ p,has g c k=p:=⟨_,rfl⟩
   have HP:=Lh hp;have hz:(Q==c)=p:=by rw[<- hp,<- hqh,Bool.eq_iff_iff];simp
   have i0:(0:Int)<=(k:Int):=by omega
   have i1:(k:Int)<(g.ns.length:Int):=by omega
   obtain⟨g0,g1,g2,g3,g4⟩:=HGQ.out;have hsz:w.heap.size<wr.heap.size:=World.block_lt_of_cell? wr _ g0;have HBa:=Lh (ya (al1 wr (.cells #[.string (bb xn),.string (bb xl),.int .i64 xw,.int .i64 xh,.int .i64 xc,.slice po xp.length pc] 59)) HB3.out);have HGRa:=Lh (hg.keep (ya (al1 wr (.cells #[.string (bb xn),.string (bb xl),.int .i64 xw,.int .i64 xh,.int .i64 xc,.slice po xp.length pc] 59)) HBw.out));have HROWa:Hid (Irow (wr.alloc (.cells #[.string (bb xn),.string (bb xl),.int .i64 xw,.int .i64 xh,.int .i64 xc,.slice po xp.length pc] 59)) w2.heap.size _ C):=Lh (own_keep HROW.out (al1 ..));clear hp hps hx hcl hcr hQ hqh;go_wp2_with fail
   refine(yo9 _ g c xc Q _ HGRa HWF HC1 HXR HQ).mono ?_;rintro e w4 ⟨rfl,hb4⟩;have hB4:=ya hb4 HBa.out;have HB4:=Lh hB4;have HROW4:Hid (Irow w4 w2.heap.size _ C):=Lh (own_keep HROWa.out hb4);have hsz4:=hB4.size;clear hb4 hB4 g0 g1 g2 g3 g4 q0 q1 q2 q3 q4 q5 hsz;cases p
   ·have HN:=Lh (yj2 HP.out)
    go_wp2
    go_roundw
    case rel=>exact⟨k+1,C,by go_num,by omega,by rw[HN.out,HC.out],HROW4.out,HB4.out⟩
    case measure=>simp[intOf];omega
   ·have HN:=Lh (yie HP.out)
    go_wp2_with (at_builtin;refine yqo rfl (.tmp 32) (.tmp 34) rfl w2.heap.size _ C (k:Int) _ rfl rfl rfl HROW4 hCl (by omega) ?_;intro ao5 cap5 w5 hrow5 hgrow5;have hB5:=HB4.out.grown hgrow5 (by omega) (fun q hq=>(World.ownsRow.lt HROW4.out q hq).1);clear hgrow5)
    go_roundw
    case rel=>exact⟨k+1,C++[(k:Int)],by go_num,by omega,by rw[HN.out,HC.out],hrow5,hB5⟩
    case measure=>simp[intOf];omega
  ·obtain rfl:k=g.ns.length:=by omega
   obtain rfl:C=R:=by rw[<- HC.out,HR.out]
   go_wp2;go_ret;exact⟨_,rfl,Irow.lower HROW.out HB2.out.size,HBw.out⟩
theorem gsame_of (v v2:Value)(g h:Gr)(R:Bool)(w:World)(h1:Hid (GrV w v g))(h2:Hid (GrV w v2 h))(hr:Hid (decide (g=h)=R)) :
    Calls Tryz.prog 18 #[v,v2] w fun e w'=>e=.returned (.bool R)/\Below w.heap.size w w':=by
 have hmx:Tryz.prog.follows .mixedOrders=true:=by kernel_rfl
 obtain⟨nv,ev,cv,rfl,-,ha,he,hcl⟩:=h1.out;obtain⟨nv2,ev2,cv2,rfl,-,hb,hf,hcl2⟩:=h2.out;have hfe:=hr.out;clear h1 h2 hr;obtain⟨n0,d,a,es,cs⟩:=g;obtain⟨n1,d1,b,fs,hs⟩:=h;simp only at ha hb he hf hcl hcl2;simp only[Gr.mk.injEq] at hfe;obtain⟨ao,ac,rfl,hc1,hm1,-⟩:=id ha;obtain⟨bo,bc,rfl,-,-,-⟩:=id hb;obtain⟨eo,ec,rfl,hc2,hm2,-⟩:=id he;obtain⟨fo,fc,rfl,-,-,-⟩:=id hf;obtain⟨co,cc,rfl,hc3,hm3,-⟩:=id hcl;obtain⟨ho,hc,rfl,-,-,-⟩:=id hcl2;unfold maxLen at hm1 hm2 hm3;have hla:a.length<=9223372036854775807:=by omega
 have hle:es.length<=9223372036854775807:=by omega
 have hlc:cs.length<=9223372036854775807:=by omega
 obtain⟨X,hX⟩:∃ X,bb n0=X:=⟨_,rfl⟩
 obtain⟨Y,hY⟩:∃ Y,bb n1=Y:=⟨_,rfl⟩
 have hXY:n0=n1↔X.toList=Y.toList:=by rw[<- hX,<- hY,ByteArray.toList_eq,ByteArray.toList_eq]
 simp only[hX,hY];simp only[hXY] at hfe;have HB:=Lh (al2 w (.cells #[.string X,.bool d,.slice ao a.length ac,.slice eo es.length ec,.slice co cs.length cc] 26) (.cells #[.string Y,.bool d1,.slice bo b.length bc,.slice fo fs.length fc,.slice ho hs.length hc] 26));have HC:=Lh (yih (.cells #[.string Y,.bool d1,.slice bo b.length bc,.slice fo fs.length fc,.slice ho hs.length hc] 26) (ybh w X d (.slice ao a.length ac) (.slice eo es.length ec) (.slice co cs.length cc) 26));have hd:=ybh (w.alloc (.cells #[.string X,.bool d,.slice ao a.length ac,.slice eo es.length ec,.slice co cs.length cc] 26)) Y d1 (.slice bo b.length bc) (.slice fo fs.length fc) (.slice ho hs.length hc) 26;rw[World.size_alloc] at hd;have HD:=Lh hd;have HA:=Lh (ha.keep HB.out);have HA2:=Lh (hb.keep HB.out);have HE:=Lh (he.keep HB.out);have HE2:=Lh (hf.keep HB.out);have HK:=Lh (hcl.keep HB.out);have HK2:=Lh (hcl2.keep HB.out);have hga1:=ypc;have hga2:=ypb;obtain⟨c0,c1,c2,c3,c4⟩:=HC.out;obtain⟨d0,d1',d2,d3,d4⟩:=HD.out;clear hc1 hm1 hc2 hm2 hc3 hm3 ha hb he hf hcl hcl2 hd hX hY hXY
 by_cases k0:X.toList=Y.toList
 case neg =>
  have z0:(X.toList==Y.toList)=false:=by rw[beq_eq_false_iff_ne];exact k0
  have y0:(X.toList != Y.toList)=true:=by rw[bne_iff_ne];exact k0
  rw[decide_eq_false (fun e=>k0 (e.1))] at hfe;subst hfe;clear k0;go_enter func18,ntmps18;go_wp2;go_ret;exact⟨rfl,HB.out⟩
 have z0:(X.toList==Y.toList)=true:=by rw[beq_iff_eq];exact k0
 have y0:(X.toList != Y.toList)=false:=by rw[bne_eq_false_iff_eq];exact k0
 by_cases k1:d=d1
 case neg =>
  rw[decide_eq_false (fun e=>k1 (e.2.1))] at hfe;subst hfe;clear k0;cases d <;> cases d1 <;> first | exact absurd rfl k1 | skip
  all_goals
   clear k1;go_enter func18,ntmps18;go_wp2;go_ret;exact⟨rfl,HB.out⟩
 subst k1;have y1:(d != d)=false:=by simp
 by_cases k2:a.length=b.length
 case neg =>
  have y2:((a.length:Int) != (b.length:Int))=true:=by rw[bne_iff_ne];omega
  rw[decide_eq_false (fun e=>k2 (congrArg List.length e.2.2.1))] at hfe;subst hfe;clear k0 k2;go_enter func18,ntmps18;go_wp2;go_ret;exact⟨rfl,HB.out⟩
 have y2:((a.length:Int) != (b.length:Int))=false:=by rw[k2];simp
 by_cases k3:es.length=fs.length
 case neg =>
  have y3:((es.length:Int) != (fs.length:Int))=true:=by rw[bne_iff_ne];omega
  rw[decide_eq_false (fun e=>k3 (congrArg List.length e.2.2.2.1))] at hfe;subst hfe;clear k0 k2 k3;go_enter func18,ntmps18;go_wp2;go_ret;exact⟨rfl,HB.out⟩
 have y3:((es.length:Int) != (fs.length:Int))=false:=by rw[k3];simp
 by_cases k4:cs.length=hs.length
 case neg =>
  have y4:((cs.length:Int) != (hs.length:Int))=true:=by rw[bne_iff_ne];omega
  rw[decide_eq_false (fun e=>k4 (congrArg List.length e.2.2.2.2))] at hfe;subst hfe;clear k0 k2 k3 k4;go_enter func18,ntmps18;go_wp2;go_ret;exact⟨rfl,HB.out⟩
 have y4:((cs.length:Int) != (hs.length:Int))=false:=by rw[k4];simp
 have HL:=Lh k2;have HL2:=Lh k3;have HL3:=Lh k4;have HR:Hid (decide (a=b/\es=fs/\cs=hs)=R):=Lh (by rw[<- hfe];simp[k0]);obtain⟨W2,hW2⟩:∃ W2,(w.alloc (.cells #[.string X,.bool d,.slice ao a.length ac,.slice eo es.length ec,.slice co cs.length cc] 26)).alloc (.cells #[.string Y,.bool d,.slice bo b.length bc,.slice fo fs.length fc,.slice ho hs.length hc] 26)=W2:=⟨_,rfl⟩
 have HW2:=Lh hW2;clear hW2 hfe k0 k2 k3 k4;go_enter func18,ntmps18;go_wp2_with fail
 rw[HW2.out] at HB HC HD HA HA2 HE HE2 HK HK2 |-;clear c0 c1 c2 c3 c4 d0 d1' d2 d3 d4 z0 y0 y1 y2 y3 y4
 go_loopw [5] (fun iv wr=>∃ i:Nat,iv=.int .i64 i/\i<=a.length/\a.take i=b.take i/\Below W2.heap.size W2 wr) (fun iv _=>a.length-(intOf iv).toNat)
 case atStart=>exact⟨0,rfl,Nat.zero_le _,rfl,Below.refl _ _⟩
 case round =>
  obtain⟨i,rfl,hi,htk,hB⟩:=hrel
  rename World=>wr
  obtain⟨-,-,c2,c3,c4⟩:=yx HC.out hB;obtain⟨-,-,d2,d3,d4⟩:=yx HD.out hB
  by_cases hlt:i<a.length
  ·have hlt2:i<b.length:=by have:=HL.out;omega
   have hBd:=hB.drew;have HBd:=Lh (ya hBd HB.out);have hC:=yx HC.out hBd;have hD:=yx HD.out hBd;have ha:=(HA.out.keep hBd);have hb:=(HA2.out.keep hBd);obtain⟨A,rfl,s0,s1,s2,s3,s4,⟨pv,s5,hs6⟩,-⟩:=ha.get hlt;obtain⟨B,rfl,t0,t1,t2,t3,t4,⟨pv2,t5,ht6⟩,-⟩:=hb.get hlt2;obtain⟨x,hx⟩:∃ x,a[i]=x:=⟨_,rfl⟩
   obtain⟨y,hy⟩:∃ y,b[i]=y:=⟨_,rfl⟩
   rw[hx] at s0 s1 s2 s3 s4 hs6;rw[hy] at t0 t1 t2 t3 t4 ht6;obtain⟨po,pc,rfl,-,-,-⟩:=id hs6;obtain⟨qo,qc,rfl,-,-,-⟩:=id ht6;have HX:Hid (NdV wr.drew (.agg #[.string (bb x.nm),.string (bb x.lb),.int .i64 x.w,.int .i64 x.h,.int .i64 x.cl,.slice po x.ps.length pc]) x):=Lh ⟨_,rfl,hs6⟩;have HY:Hid (NdV wr.drew (.agg #[.string (bb y.nm),.string (bb y.lb),.int .i64 y.w,.int .i64 y.h,.int .i64 y.cl,.slice qo y.ps.length qc]) y):=Lh ⟨_,rfl,ht6⟩;have i0:(0:Int)<=(i:Int):=by omega
   have i1:(i:Int)<(a.length:Int):=by omega
   have i2:(i:Int)<(b.length:Int):=by omega
   have HXY:Hid ((x=y->a.take (i+1)=b.take (i+1))/\(x≠y->a≠b)):=Lh ⟨fun e=>yhd hlt hlt2 htk (by rw[hx,hy,e]),fun e=>yfj hlt hlt2 (by rw[hx,hy];exact e)⟩;clear htk hx hy ha hb hs6 ht6;go_wp2_with fail
   refine wp_region_still_tail 10 (by kernel_rfl) (by kernel_rfl) ?_
   change wpStill _ _ wr.drew (fun a'=>wpList _ _ _ _ a' wr.drew) _ _
   clear c2 c3 c4 d2 d3 d4;have HBD:=Lh hBd;clear hBd;generalize wr.drew=wd at *;obtain⟨-,-,c2,-,-⟩:=hC;obtain⟨-,-,d2,-,-⟩:=hD;simp only[List.take_succ_cons,List.take_zero,List.drop_succ_cons,List.drop_zero]
   repeat still_step
   refine wpStill_nil ?_;clear s0 s1 s2 s3 s4 s5 t0 t1 t2 t3 t4 t5 c2 d2;obtain⟨q,hq⟩:∃ q,decide (x=y)=q:=⟨_,rfl⟩
   have HQ:=Lh hq;clear hq;go_wp2_with fail
   refine(yii _ _ x y q wd HX HY HQ).mono ?_;rintro e w3 ⟨rfl,hb3⟩;have HB3:=Lh (ya hb3 HBD.out);clear hb3;cases q
   ·have hfe:=HR.out
    rw[decide_eq_false (fun e=>HXY.out.2 (of_decide_eq_false HQ.out) e.1)] at hfe;subst hfe;go_wp2;go_ret;exact⟨rfl,ya HB3.out HB.out⟩
   ·have HT:=Lh (HXY.out.1 (of_decide_eq_true HQ.out))
    go_wp2
    go_roundw
    case rel=>exact⟨i+1,by go_num,by omega,HT.out,HB3.out⟩
    case measure=>simp[intOf];omega
  ·have HR2:Hid (decide (es=fs/\cs=hs)=R):=Lh (by have:=HR.out;rw[<- this];simp[ydE HL.out (by omega) htk])
   have HBr:=Lh hB;clear htk hB HR;go_wp2_with fail
   clear c2 c3 c4 d2 d3 d4
   go_loopw [6] (fun iv wr=>∃ i:Nat,iv=.int .i64 i/\i<=es.length/\es.take i=fs.take i/\Below W2.heap.size W2 wr) (fun iv _=>es.length-(intOf iv).toNat)
   case atStart=>exact⟨0,rfl,Nat.zero_le _,rfl,HBr.out⟩
   case round =>
    obtain⟨i,rfl,hi,htk,hB⟩:=hrel
    rename World=>wq
    have HB2:=Lh (ya hB HB.out);obtain⟨-,-,-,c3,c4⟩:=yx HC.out hB;obtain⟨-,-,-,d3,d4⟩:=yx HD.out hB
    by_cases hlt:i<es.length
    ·have hlt2:i<fs.length:=by have:=HL2.out;omega
     obtain⟨A,rfl,s0,s1,s2,s3,s4,s5,s6,-⟩:=(HE.out.keep hB).get hlt;obtain⟨B,rfl,t0,t1,t2,t3,t4,t5,t6,-⟩:=(HE2.out.keep hB).get hlt2;obtain⟨x,hx⟩:∃ x,es[i]=x:=⟨_,rfl⟩
     obtain⟨y,hy⟩:∃ y,fs[i]=y:=⟨_,rfl⟩
     rw[hx] at s0 s1 s2 s3 s4 s5 s6;rw[hy] at t0 t1 t2 t3 t4 t5 t6;have i0:(0:Int)<=(i:Int):=by omega
     have i1:(i:Int)<(es.length:Int):=by omega
     have i2:(i:Int)<(fs.length:Int):=by omega
     by_cases hxy:x=y
     ·have hneq:=yqF x y false (Lh (by simp[hxy]))
      have HT:=Lh (yhd hlt hlt2 htk (by rw[hx,hy,hxy]));clear htk hx hy hxy;go_wp2_with fail
      go_quiet (fail)
      have HB3:=Lh (ya (yF wq nq) hB);generalize wq.drewN nq=w3 at HB3 |-;go_wp2
      go_roundw
      case rel=>exact⟨i+1,by go_num,by omega,HT.out,HB3.out⟩
      case measure=>simp[intOf];omega
     ·have hneq:=yqF x y true (Lh (by simp[hxy]))
      have hfe:=HR2.out;rw[decide_eq_false (fun e=>yfj hlt hlt2 (by rw[hx,hy];exact hxy) e.1)] at hfe;subst hfe;clear htk hx hy hxy;go_wp2_with fail
      go_quiet (fail)
      have HB3:=Lh (ya (yF wq nq) HB2.out);generalize wq.drewN nq=w3 at HB3 |-;go_wp2;go_ret;exact⟨rfl,HB3.out⟩
    ·have HR3:Hid (decide (cs=hs)=R):=Lh (by have:=HR2.out;rw[<- this];simp[ydE HL2.out (by omega) htk])
     have HBr:=Lh hB;clear htk hB HR2;go_wp2_with fail
     clear c3 c4 d3 d4
     go_loopw [7] (fun iv wr=>∃ i:Nat,iv=.int .i64 i/\i<=cs.length/\cs.take i=hs.take i/\Below W2.heap.size W2 wr) (fun iv _=>cs.length-(intOf iv).toNat)
     case atStart=>exact⟨0,rfl,Nat.zero_le _,rfl,HBr.out⟩
     case round =>
      obtain⟨i,rfl,hi,htk,hB⟩:=hrel
      rename World=>wq
      have HB2:=Lh (ya hB HB.out);obtain⟨-,-,-,c3,c4⟩:=yx HC.out hB;obtain⟨-,-,-,d3,d4⟩:=yx HD.out hB
      by_cases hlt:i<cs.length
      ·have hlt2:i<hs.length:=by have:=HL3.out;omega
       obtain⟨A,rfl,s0,s1,-⟩:=(HK.out.keep hB).get hlt;obtain⟨B,rfl,t0,t1,-⟩:=(HK2.out.keep hB).get hlt2;obtain⟨x,hx⟩:∃ x,cs[i]=x:=⟨_,rfl⟩
       obtain⟨y,hy⟩:∃ y,hs[i]=y:=⟨_,rfl⟩
       rw[hx] at s0 s1;rw[hy] at t0 t1;have i0:(0:Int)<=(i:Int):=by omega
       have i1:(i:Int)<(cs.length:Int):=by omega
       have i2:(i:Int)<(hs.length:Int):=by omega
       by_cases hxy:x=y
       ·have hneq:=yqE x y false (Lh (by simp[hxy]))
        have HT:=Lh (yhd hlt hlt2 htk (by rw[hx,hy,hxy]));clear htk hx hy hxy;go_wp2_with fail
        go_quiet (fail)
        have HB3:=Lh (ya (yF wq nq) hB);generalize wq.drewN nq=w3 at HB3 |-;go_wp2
        go_roundw
        case rel=>exact⟨i+1,by go_num,by omega,HT.out,HB3.out⟩
        case measure=>simp[intOf];omega
       ·have hneq:=yqE x y true (Lh (by simp[hxy]))
        have hfe:=HR3.out;rw[decide_eq_false (fun e=>yfj hlt hlt2 (by rw[hx,hy];exact hxy) e)] at hfe;subst hfe;clear htk hx hy hxy;go_wp2_with fail
        go_quiet (fail)
        have HB3:=Lh (ya (yF wq nq) HB2.out);generalize wq.drewN nq=w3 at HB3 |-;go_wp2;go_ret;exact⟨rfl,HB3.out⟩
      ·have hfe:=HR3.out
       rw[decide_eq_true (ydE HL3.out (by omega) htk)] at hfe;subst hfe;clear htk;go_wp2;go_ret;exact⟨rfl,HB2.out⟩
end Go.Proofs.YtgmidodmmlmmeaaGreatDoor.gra
