/-
  Contracts and plain facts of the layers below; conditions as each theorem states them.
-/
import Derived.Test.YtgmidodmmlmmeaaGreatDoorMga
set_option maxHeartbeats 16000000
set_option maxRecDepth 100000
namespace Go.Proofs.YtgmidodmmlmmeaaGreatDoor.gra
open Go.RowKit lex _root_.Go.Proofs.Tryz
def xat (w:World)(b:Nat)(p q:Int)(z:ByteArray)(r s:Int):Prop:=w.cell? ⟨b,2,none⟩=some (.int .i64 p)/\w.cell? ⟨b,3,none⟩=some (.int .i64 q)/\w.cell? ⟨b,4,none⟩=some (.string z)/\w.cell? ⟨b,5,none⟩=some (.int .i64 r)/\w.cell? ⟨b,6,none⟩=some (.int .i64 s)
theorem yrJ (w:World)(m n p q:Int)(z:ByteArray)(r s:Int)(t:TypeId):xat (w.alloc (.cells #[.int .i64 m,.int .i64 n,.int .i64 p,.int .i64 q,.string z,.int .i64 r,.int .i64 s] t)) w.heap.size p q z r s:=by
 refine⟨?_,?_,?_,?_,?_⟩ <;> go_simp
theorem yo0 {w1 w2:World}{b:Nat}{p q:Int}{z:ByteArray}{r s:Int}(h:xat w1 b p q z r s)(h2:Below w1.heap.size w1 w2):xat w2 b p q z r s :=
 ⟨ye h2 h.1,ye h2 h.2.1,ye h2 h.2.2.1,ye h2 h.2.2.2.1,ye h2 h.2.2.2.2⟩
theorem yo1 (v:Value)(g:Gr)(fr tw fp tp:Int)(Z:ByteArray)(wt ln R:Int)(w:World)(h:Hid (GrV w v g))(hZs:Z.size<=maxLen)(hr:Hid (edgeE g ⟨fr,tw,fp,tp,Z.data.toList,wt,ln⟩=R)) :
    Calls Tryz.prog 80 #[v,.agg #[.int .i64 fr,.int .i64 tw,.int .i64 fp,.int .i64 tp,.string Z,.int .i64 wt,.int .i64 ln]] w fun e w'=>e=.returned (.int .i64 R)/\Below w.heap.size w w':=by
 obtain⟨nv,ev,cv,rfl,hnl,hns,he,hc⟩:=h.out;obtain⟨ao,cap,rfl,hc',hm,_⟩:=id hns;unfold maxLen at hm;have hlm:g.ns.length<=9223372036854775807:=by omega
 have hfe:=hr.out;unfold edgeE at hfe;simp only[yp] at hfe;clear he hnl hc' hm hc h hr;have HG0:=yx (ybh w (bb g.nm) g.dir (.slice ao g.ns.length cap) ev cv 26) (al1 _ (.cells #[.int .i64 fr,.int .i64 tw,.int .i64 fp,.int .i64 tp,.string Z,.int .i64 wt,.int .i64 ln] 61));have HX0:=yrJ (w.alloc (.cells #[.string (bb g.nm),.bool g.dir,.slice ao g.ns.length cap,ev,cv] 26)) fr tw fp tp Z wt ln 61;have HB0:=ya (al1 (w.alloc (.cells #[.string (bb g.nm),.bool g.dir,.slice ao g.ns.length cap,ev,cv] 26)) (.cells #[.int .i64 fr,.int .i64 tw,.int .i64 fp,.int .i64 tp,.string Z,.int .i64 wt,.int .i64 ln] 61)) (al1 w _);rw[show (w.alloc (.cells #[.string (bb g.nm),.bool g.dir,.slice ao g.ns.length cap,ev,cv] 26)).heap.size=w.heap.size+1 by simp] at HX0;have HN:=Lh (hns.keep HB0);have HG:=Lh HG0;have HX:=Lh HX0;have HB:=Lh HB0;clear HG0 HX0 HB0 hns
 by_cases a0:fr<0
 ·rw[if_pos (Or.inl a0)] at hfe
  subst hfe;go_enter func80,ntmps80;go_wp2;go_ret;exact⟨rfl,HB.out⟩
 by_cases a1:(g.ns.length:Int)<=fr
 ·rw[if_pos (Or.inr (Or.inl a1))] at hfe
  subst hfe;go_enter func80,ntmps80;go_wp2;go_ret;exact⟨rfl,HB.out⟩
 by_cases a2:tw<0
 ·rw[if_pos (Or.inr (Or.inr (Or.inl a2)))] at hfe
  subst hfe;go_enter func80,ntmps80;go_wp2;go_ret;exact⟨rfl,HB.out⟩
 by_cases a3:(g.ns.length:Int)<=tw
 ·rw[if_pos (Or.inr (Or.inr (Or.inr a3)))] at hfe
  subst hfe;go_enter func80,ntmps80;go_wp2;go_ret;exact⟨rfl,HB.out⟩
 rw[if_neg (by omega)] at hfe;obtain⟨f,rfl⟩:∃ f:Nat,fr=(f:Int):=⟨fr.toNat,by omega⟩
 obtain⟨t,rfl⟩:∃ t:Nat,tw=(t:Int):=⟨tw.toNat,by omega⟩
 have hf:f<g.ns.length:=by omega
 have ht:t<g.ns.length:=by omega
 simp only[Int.toNat_natCast,List.getElem?_eq_getElem hf,List.getElem?_eq_getElem ht] at hfe;obtain⟨A,rfl,-,-,-,-,-,⟨pv,q5,hps⟩,-⟩:=HN.out.get hf;obtain⟨A2,e2,-,-,-,-,-,⟨pv2,s5,hps2⟩,-⟩:=HN.out.get ht;cases e2
 obtain⟨po,pc,rfl,-,-,-⟩:=id hps;obtain⟨po2,pc2,rfl,-,-,-⟩:=id hps2;obtain⟨L1,hL1⟩:∃ L,g.ns[f].ps.length=L:=⟨_,rfl⟩
 obtain⟨L2,hL2⟩:∃ L,g.ns[t].ps.length=L:=⟨_,rfl⟩
 rw[hL1] at q5 hfe;rw[hL2] at s5 hfe;have f0:(0:Int)<=(f:Int):=by omega
 have f1:(f:Int)<(g.ns.length:Int):=by omega
 have t0:(0:Int)<=(t:Int):=by omega
 have t1:(t:Int)<(g.ns.length:Int):=by omega
 clear hL1 hL2 hps hps2 HN;go_enter func80,ntmps80;go_wp2_with fail
 by_cases b0:fp < -1
 ·rw[if_pos (Or.inl b0)] at hfe
  subst hfe
  go_quiet (fail)
  have HB3:=Lh (ya (yF _ nq) HB.out);generalize World.drewN _ nq=w3 at HB3 |-;go_wp2;go_ret;exact⟨rfl,HB3.out⟩
 by_cases b1:(L1:Int)<=fp
 ·rw[if_pos (Or.inr (Or.inl b1))] at hfe
  subst hfe
  go_quiet (fail)
  have HB3:=Lh (ya (yF _ nq) HB.out);generalize World.drewN _ nq=w3 at HB3 |-;go_wp2;go_ret;exact⟨rfl,HB3.out⟩
 by_cases b2:tp < -1
 ·rw[if_pos (Or.inr (Or.inr (Or.inl b2)))] at hfe
  subst hfe
  go_quiet (fail)
  have HB3:=Lh (ya (yF _ nq) HB.out);generalize World.drewN _ nq=w3 at HB3 |-;go_wp2;go_ret;exact⟨rfl,HB3.out⟩
 by_cases b3:(L2:Int)<=tp
 ·rw[if_pos (Or.inr (Or.inr (Or.inr b3)))] at hfe
  subst hfe
  go_quiet (fail)
  have HB3:=Lh (ya (yF _ nq) HB.out);generalize World.drewN _ nq=w3 at HB3 |-;go_wp2;go_ret;exact⟨rfl,HB3.out⟩
 rw[if_neg (by omega)] at hfe
 go_quiet (fail)
 have HB3:=Lh (ya (yF _ nq) HB.out);have HX3:=Lh (yo0 HX.out (yF _ nq));generalize World.drewN _ nq=w3 at HB3 HX3 |-;obtain⟨-,-,x4,x5,x6⟩:=HX3.out
 by_cases l0:32<Z.size
 ·rw[if_pos l0] at hfe
  subst hfe;have l1:(32:Int)<(Z.size:Int):=by omega
  clear l0;go_wp2;go_ret;exact⟨rfl,HB3.out⟩
 rw[if_neg l0] at hfe;have l1:¬ (32:Int)<(Z.size:Int):=by omega
 clear l0;obtain⟨pb,hpb⟩:∃ b,plainB Z.data.toList=b:=⟨_,rfl⟩
 have HPB:=Lh hpb;rw[hpb] at hfe;clear hpb;go_wp2_with fail
 refine(yeY _ _ _ hZs HPB).mono ?_;rintro e w5 ⟨rfl,rfl⟩;cases pb
 ·rw[if_pos (Or.inl rfl)] at hfe
  subst hfe;go_wp2;go_ret;exact⟨rfl,HB3.out⟩
 by_cases r0:wt<1
 ·rw[if_pos (Or.inr (Or.inl r0))] at hfe
  subst hfe;go_wp2;go_ret;exact⟨rfl,HB3.out⟩
 by_cases r1:1000<wt
 ·rw[if_pos (Or.inr (Or.inr (Or.inl r1)))] at hfe
  subst hfe;go_wp2;go_ret;exact⟨rfl,HB3.out⟩
 by_cases r2:ln<1
 ·rw[if_pos (Or.inr (Or.inr (Or.inr (Or.inl r2))))] at hfe
  subst hfe;go_wp2;go_ret;exact⟨rfl,HB3.out⟩
 by_cases r3:64<ln
 ·rw[if_pos (Or.inr (Or.inr (Or.inr (Or.inr r3))))] at hfe
  subst hfe;go_wp2;go_ret;exact⟨rfl,HB3.out⟩
 rw[if_neg (by simp;omega)] at hfe;subst hfe;go_wp2;go_ret;exact⟨rfl,HB3.out⟩
theorem ygm {g:Gr}{pre:List Cl}{x:Cl}(h:clusterE g pre x=0):-1<=x.2/\x.2<(pre.length:Int):=by
 unfold clusterE at h
 repeat' (split at h;exact absurd h (by decide))
 rename_i hh _
 omega
abbrev eat (w w':World)(b:Nat)(x:ByteArray)(d:Bool)(nv ev cv:Value)(B:Addr)(p q r s:Int)(z:ByteArray)(m n:Int):Prop :=
 Below w.heap.size w w'/\w'.cell? ⟨b,0,none⟩=some (.string x)/\w'.cell? ⟨b,1,none⟩=some (.bool d)/\w'.cell? ⟨b,2,none⟩=some nv/\w'.cell? ⟨b,3,none⟩=some ev/\w'.cell? ⟨b,4,none⟩=some cv /\
 w'.cell? B=some (.int .i64 p)/\w'.cell? ⟨B.block,B.off+1,none⟩=some (.int .i64 q)/\w'.cell? ⟨B.block,B.off+2,none⟩=some (.int .i64 r)/\w'.cell? ⟨B.block,B.off+3,none⟩=some (.int .i64 s) /\
 w'.cell? ⟨B.block,B.off+4,none⟩=some (.string z)/\w'.cell? ⟨B.block,B.off+5,none⟩=some (.int .i64 m)/\w'.cell? ⟨B.block,B.off+6,none⟩=some (.int .i64 n)
theorem yj1 {w w1 w2:World}{b:Nat}{x:ByteArray}{d:Bool}{nv ev cv:Value}{B:Addr}{p q r s:Int}{z:ByteArray}{m n:Int}(h:eat w w1 b x d nv ev cv B p q r s z m n)(h2:Below w1.heap.size w1 w2):eat w w2 b x d nv ev cv B p q r s z m n:=by
 obtain⟨h0,a0,a1,a2,a3,a4,b0,b1,b2,b3,b4,b5,b6⟩:=h;exact⟨ya h2 h0,ye h2 a0,ye h2 a1,ye h2 a2,ye h2 a3,ye h2 a4,yb h2 b0,ye h2 b1,ye h2 b2,ye h2 b3,ye h2 b4,ye h2 b5,ye h2 b6⟩
theorem yo2 {w w1:World}{b:Nat}{x:ByteArray}{d:Bool}{nv ev cv:Value}{B:Addr}{p q r s:Int}{z:ByteArray}{m n:Int}(h:eat w w1 b x d nv ev cv B p q r s z m n):eat w w1.drew b x d nv ev cv B p q r s z m n:=yj1 h (Below.refl _ _).drew
theorem gvalid_of (v:Value)(g:Gr)(R:Int)(w:World)(h:Hid (GrV w v g))(hr:Hid (validE g=R)) :
    Calls Tryz.prog 33 #[v] w fun e w'=>e=.returned (.int .i64 R)/\Below w.heap.size w w':=by
 have hg:=h.out;obtain⟨nv,ev,cv,rfl,hnl,hns,hes,hcs⟩:=h.out;obtain⟨no,nc,rfl,-,hm1,-⟩:=id hns;obtain⟨eo,ec,rfl,-,hm2,-⟩:=id hes;obtain⟨co,cc,rfl,-,hm3,-⟩:=id hcs;have hYs:(bb g.nm).size<=maxLen:=by rw[<- yp];exact hnl
 have hfe:=hr.out;unfold validE at hfe;have HG:=Lh (ybh w (bb g.nm) g.dir (.slice no g.ns.length nc) (.slice eo g.es.length ec) (.slice co g.cs.length cc) 26);have HB:=Lh (al1 w (.cells #[.string (bb g.nm),.bool g.dir,.slice no g.ns.length nc,.slice eo g.es.length ec,.slice co g.cs.length cc] 26));clear hns hes hcs hm1 hm2 hm3 hnl h hr
 by_cases a0:64<g.ns.length
 ·rw[if_pos (Or.inl a0)] at hfe
  subst hfe;have l0:(64:Int)<(g.ns.length:Int):=by omega
  clear a0;go_enter func33,ntmps33;go_wp2;go_ret;exact⟨rfl,HB.out⟩
 by_cases a1:256<g.es.length
 ·rw[if_pos (Or.inr (Or.inl a1))] at hfe
  subst hfe;have l0:¬ (64:Int)<(g.ns.length:Int):=by omega
  have l1:(256:Int)<(g.es.length:Int):=by omega
  clear a0 a1;go_enter func33,ntmps33;go_wp2;go_ret;exact⟨rfl,HB.out⟩
 by_cases a2:16<g.cs.length
 ·rw[if_pos (Or.inr (Or.inr a2))] at hfe
  subst hfe;have l0:¬ (64:Int)<(g.ns.length:Int):=by omega
  have l1:¬ (256:Int)<(g.es.length:Int):=by omega
  have l2:(16:Int)<(g.cs.length:Int):=by omega
  clear a0 a1 a2;go_enter func33,ntmps33;go_wp2;go_ret;exact⟨rfl,HB.out⟩
 rw[if_neg (by omega)] at hfe;have l0:¬ (64:Int)<(g.ns.length:Int):=by omega
 have l1:¬ (256:Int)<(g.es.length:Int):=by omega
 have l2:¬ (16:Int)<(g.cs.length:Int):=by omega
 have m0:g.ns.length<=64:=by omega
 have m1:g.es.length<=256:=by omega
 have m2:g.cs.length<=16:=by omega
 clear a0 a1 a2;obtain⟨nm,hnm⟩:∃ b,yK g.nm=b:=⟨_,rfl⟩
 have HNM:Hid (yK (bb g.nm).data.toList=nm):=Lh hnm;rw[hnm] at hfe;clear hnm;go_enter func33,ntmps33;go_wp2_with fail
 refine(ybk _ _ _ hYs HNM).mono ?_;rintro e w1 ⟨rfl,rfl⟩;generalize (w.alloc (.cells #[.string (bb g.nm),.bool g.dir,.slice no g.ns.length nc,.slice eo g.es.length ec,.slice co g.cs.length cc] 26))=w1 at HG HB |-;clear l0 l1 l2 HNM hYs;cases nm
 ·rw[if_pos rfl] at hfe
  subst hfe;go_wp2;go_ret;exact⟨rfl,HB.out⟩
 rw[if_neg (by decide)] at hfe;obtain⟨N,hN⟩:∃ N,firstE (nodeE g) [] g.ns=N:=⟨_,rfl⟩
 obtain⟨C,hC⟩:∃ C,firstE (clusterE g) [] g.cs=C:=⟨_,rfl⟩
 obtain⟨E,hE⟩:∃ E,firstE (fun _ x=>edgeE g x) [] g.es=E:=⟨_,rfl⟩
 rw[hN,hC,hE] at hfe;have HNE:Hid (firstE (nodeE g) (g.ns.take 0) (g.ns.drop 0)=N):=Lh hN;have HCE:Hid (firstE (clusterE g) (g.cs.take 0) (g.cs.drop 0)=C):=Lh hC;have HEE:Hid (firstE (fun _ x=>edgeE g x) (g.es.take 0) (g.es.drop 0)=E):=Lh hE;have HFE:=Lh hfe;clear hN hC hE hfe;obtain⟨g0,g1,g2,g3,g4⟩:=HG.out;go_wp2_with fail
 clear g0 g1 g2 g3 g4
 go_loopw [3] (fun iv wr=>∃ i:Nat,iv=.int .i64 i/\i<=g.ns.length/\firstE (nodeE g) (g.ns.take i) (g.ns.drop i)=N/\Below w1.heap.size w1 wr) (fun iv _=>g.ns.length-(intOf iv).toNat)
 case atStart=>exact⟨0,rfl,Nat.zero_le _,HNE.out,Below.refl _ _⟩
 case round =>
  obtain⟨i,rfl,hi,hne,hB2⟩:=hrel
  rename World=>wr
  clear HNE;have HBw:=Lh (ya hB2 HB.out);have HGQ:=Lh (yx HG.out hB2);have HGR:=Lh (hg.keep HBw.out);have HB2:=Lh hB2;obtain⟨g0,g1,g2,g3,g4⟩:=HGQ.out;clear hB2
  by_cases hlt:i<g.ns.length
  ·rw[ybo hlt] at hne
   obtain⟨X,hX⟩:∃ X,nodeE g (g.ns.take i) g.ns[i]=X:=⟨_,rfl⟩
   have HX:=Lh hX;rw[hX] at hne;have i1:(i:Int)<(g.ns.length:Int):=by omega
   have HNE:=Lh hne;clear hX hne;go_wp2_with fail
   refine(yoZ _ g i X wr HGR hlt HX).mono ?_;rintro e w4 ⟨rfl,hb4⟩;have HB4:=Lh (ya hb4 HBw.out);have HB5:=Lh (ya hb4 HB2.out);clear hb4;have hne:=HNE.out
   by_cases x0:X=0
   ·have b0:(X != 0)=false:=by rw[x0];rfl
    rw[if_neg (by rw[x0];decide)] at hne;have HN2:=Lh hne;clear hne x0 HNE;go_wp2
    go_roundw
    case rel=>exact⟨i+1,by go_num,by omega,HN2.out,HB5.out⟩
    case measure=>simp[intOf];omega
   ·have b0:(X != 0)=true:=by rw[bne_iff_ne];exact x0
    rw[if_pos x0] at hne;have hfe:=HFE.out;rw[<- hne,if_pos x0] at hfe;subst hfe;clear hne x0 HNE;go_wp2;go_ret;exact⟨rfl,HB4.out⟩
  ·rw[ya4 (by omega)] at hne
   subst hne;have i2:¬ (i:Int)<(g.ns.length:Int):=by omega
   have hfe:=HFE.out;rw[if_neg (by decide)] at hfe;have HFE2:=Lh hfe;clear hfe HFE;go_wp2_with fail
   clear g0 g1 g2 g3 g4
   go_loopw [5] (fun iv wq=>∃ j:Nat,iv=.int .i64 j/\j<=g.cs.length/\firstE (clusterE g) (g.cs.take j) (g.cs.drop j)=C/\Below w1.heap.size w1 wq/\Wf (g.cs.take j)) (fun iv _=>g.cs.length-(intOf iv).toNat)
   case atStart=>exact⟨0,rfl,Nat.zero_le _,HCE.out,HB2.out,fun i x hx=>by simp at hx⟩
   case round =>
    clear HCE HGQ HGR HBw HB2;obtain⟨j,rfl,hj,hce,hB2,hwf⟩:=hrel
    rename World=>wq
    have HBw:=Lh (ya hB2 HB.out);have HGQ:=Lh (yx HG.out hB2);have HGR:=Lh (hg.keep HBw.out);have HB2:=Lh hB2;have HWF:=Lh hwf;obtain⟨g0,g1,g2,g3,g4⟩:=HGQ.out;clear hB2 hwf
    by_cases hlt2:j<g.cs.length
    ·rw[ybo hlt2] at hce
     obtain⟨X,hX⟩:∃ X,clusterE g (g.cs.take j) g.cs[j]=X:=⟨_,rfl⟩
     have HX:=Lh hX;rw[hX] at hce;have j1:(j:Int)<(g.cs.length:Int):=by omega
     have HCE:=Lh hce;clear hX hce;go_wp2_with fail
     refine(yiO _ g j X wq HGR hlt2 HWF HX).mono ?_;rintro e w4 ⟨rfl,hb4⟩;have HB4:=Lh (ya hb4 HBw.out);have HB5:=Lh (ya hb4 HB2.out);clear hb4;have hce:=HCE.out
     by_cases x0:X=0
     ·have b0:(X != 0)=false:=by rw[x0];rfl
      rw[if_neg (by rw[x0];decide)] at hce;have HC2:=Lh hce;have hok:=ygm (HX.out.trans x0);rw[List.length_take,Nat.min_eq_left hj] at hok;have HW2:=Lh (ygK hlt2 HWF.out hok.1 hok.2);clear hce x0 HCE hok;go_wp2
      go_roundw
      case rel=>exact⟨j+1,by go_num,by omega,HC2.out,HB5.out,HW2.out⟩
      case measure=>simp[intOf];omega
     ·have b0:(X != 0)=true:=by rw[bne_iff_ne];exact x0
      rw[if_pos x0] at hce;have hfe:=HFE2.out;rw[<- hce,if_pos x0] at hfe;subst hfe;clear hce x0 HCE;go_wp2;go_ret;exact⟨rfl,HB4.out⟩
    ·rw[ya4 (by omega)] at hce
     subst hce;have j2:¬ (j:Int)<(g.cs.length:Int):=by omega
     have hfe:=HFE2.out;rw[if_neg (by decide)] at hfe;have HFE3:=Lh hfe;clear hfe HFE2;go_wp2_with fail
     clear g0 g1 g2 g3 g4
     go_loopw [7] (fun iv wp=>∃ k:Nat,iv=.int .i64 k/\k<=g.es.length/\firstE (fun _ x=>edgeE g x) (g.es.take k) (g.es.drop k)=E/\Below w1.heap.size w1 wp) (fun iv _=>g.es.length-(intOf iv).toNat)
     case atStart=>exact⟨0,rfl,Nat.zero_le _,HEE.out,HB2.out⟩
     case round =>
      clear HEE HGQ HGR HBw HB2;obtain⟨k,rfl,hk,hee,hB2⟩:=hrel
      rename World=>wp
      have HBw:=Lh (ya hB2 HB.out);have HGQ:=Lh (yx HG.out hB2);have hgr:=hg.keep HBw.out;have HB2:=Lh hB2;obtain⟨g0,g1,g2,g3,g4⟩:=HGQ.out;clear hB2
      by_cases hlt3:k<g.es.length
      ·rw[ybo hlt3] at hee
       obtain⟨nv',ev',cv',e0,_,_,hes,_⟩:=id hgr;cases e0
       have hget:=hes.get hlt3;obtain⟨X,hX⟩:∃ X,edgeE g g.es[k]=X:=⟨_,rfl⟩
       rw[hX] at hee;obtain⟨x,hx⟩:∃ x,g.es[k]=x:=⟨_,rfl⟩
       rw[hx] at hget hX;obtain⟨fr,tw,fp,tp,lb,wt,ln⟩:=x;obtain⟨A,rfl,q0,q1,q2,q3,q4,q5,q6,z4,-⟩:=hget;simp only at q0 q1 q2 q3 q4 q5 q6 z4;obtain⟨Z,hZ⟩:∃ Z,bb lb=Z:=⟨_,rfl⟩
       rw[hZ] at q4;have hZ2:Z.data.toList=lb:=by rw[<- hZ]
       have hZs:Z.size<=maxLen:=by rw[<- yp,hZ2];exact z4
       have HX:Hid (edgeE g ⟨fr,tw,fp,tp,Z.data.toList,wt,ln⟩=X):=Lh (by rw[hZ2];exact hX);have k0:(0:Int)<=(k:Int):=by omega
       have k1:(k:Int)<(g.es.length:Int):=by omega
       have HGR:=Lh hgr;have HEE:=Lh hee;have hP0:eat wp wp w.heap.size (bb g.nm) g.dir (.slice no g.ns.length nc) (.slice (some A) g.es.length ec) (.slice co g.cs.length cc) (A.add (k*7)) fr tw fp tp Z wt ln:=⟨Below.refl _ _,g0,g1,g2,g3,g4,q0,q1,q2,q3,q4,q5,q6⟩;clear hX hee hZ hZ2 z4 hes hgr hx;go_wp2_with fail
       go_region_held3 (fun w'=>Below wp.heap.size wp w'/\w'.cell? ⟨w.heap.size,0,none⟩=some (.string (bb g.nm))/\w'.cell? ⟨w.heap.size,1,none⟩=some (.bool g.dir)/\w'.cell? ⟨w.heap.size,2,none⟩=some (.slice no g.ns.length nc)/\w'.cell? ⟨w.heap.size,3,none⟩=some (.slice (some A) g.es.length ec)/\w'.cell? ⟨w.heap.size,4,none⟩=some (.slice co g.cs.length cc) /\
           w'.cell? (A.add (k*7))=some (.int .i64 fr)/\w'.cell? ⟨(A.add (k*7)).block,(A.add (k*7)).off+1,none⟩=some (.int .i64 tw)/\w'.cell? ⟨(A.add (k*7)).block,(A.add (k*7)).off+2,none⟩=some (.int .i64 fp)/\w'.cell? ⟨(A.add (k*7)).block,(A.add (k*7)).off+3,none⟩=some (.int .i64 tp) /\
           w'.cell? ⟨(A.add (k*7)).block,(A.add (k*7)).off+4,none⟩=some (.string Z)/\w'.cell? ⟨(A.add (k*7)).block,(A.add (k*7)).off+5,none⟩=some (.int .i64 wt)/\w'.cell? ⟨(A.add (k*7)).block,(A.add (k*7)).off+6,none⟩=some (.int .i64 ln))
        (first | assumption | (with_reducible refine yo2 ?_;assumption))
        (first
        | (go_at_call 80;refine(yo1 _ g fr tw fp tp Z wt ln X _ (Lh (HGR.out.keep (And.left (by assumption:eat wp _ _ _ _ _ _ _ _ _ _ _ _ _ _ _)))) hZs HX).mono ?_;rintro e w6 ⟨rfl,hb6⟩;have hP:=yj1 (by assumption) hb6))
       all_goals
        have HB4:=Lh (ya hP.1 HBw.out);have HB5:=Lh (ya hP.1 HB2.out);have hee:=HEE.out;clear hP0 hP q0 q1 q2 q3 q4 q5 q6 g0 g1 g2 g3 g4
        by_cases x0:X=0
        ·have b0:(X != 0)=false:=by rw[x0];rfl
         rw[if_neg (by rw[x0];decide)] at hee;have HE2:=Lh hee;clear hee x0 HEE;go_wp2
         go_roundw
         case rel=>exact⟨k+1,by go_num,by omega,HE2.out,HB5.out⟩
         case measure=>simp[intOf];omega
        ·have b0:(X != 0)=true:=by rw[bne_iff_ne];exact x0
         rw[if_pos x0] at hee;have hfe:=HFE3.out;rw[<- hee] at hfe;subst hfe;clear hee x0 HEE;go_wp2;go_ret;exact⟨rfl,HB4.out⟩
      ·rw[ya4 (by omega)] at hee
       subst hee;have k2:¬ (k:Int)<(g.es.length:Int):=by omega
       obtain rfl:=HFE3.out;go_wp2;go_ret;exact⟨rfl,HBw.out⟩
end Go.Proofs.YtgmidodmmlmmeaaGreatDoor.gra
namespace Go.Proofs.YtgmidodmmlmmeaaGreatDoor.gra
open Go.RowKit lex
end Go.Proofs.YtgmidodmmlmmeaaGreatDoor.gra
namespace Go.Proofs.YtgmidodmmlmmeaaGreatDoor.gra
open Go.RowKit lex _root_.Go.Proofs.Tryz
def memsK (g:Gr)(c:Int)(k:Nat):List Int:=((List.range k).filter (has g c)).map fun n:Nat=>(n:Int)
def memV (g:Gr)(c:Int):List Int:=if validE g≠0\/c < -1\/(g.cs.length:Int)<=c then [] else memsK g c g.ns.length
theorem yj2 {g:Gr}{c:Int}{k:Nat}(h:has g c k=false):memsK g c (k+1)=memsK g c k:=by
 unfold memsK;rw[List.range_succ,List.filter_append];simp[h]
theorem yie {g:Gr}{c:Int}{k:Nat}(h:has g c k=true):memsK g c (k+1)=memsK g c k++[(k:Int)]:=by
 unfold memsK;rw[List.range_succ,List.filter_append];simp[h]
theorem yif (g:Gr)(c:Int)(k:Nat):(memsK g c k).length<=k:=by
 unfold memsK;rw[List.length_map];exact Nat.le_trans (List.length_filter_le _ _) (by simp)
theorem yj3 {g:Gr}(h:validE g=0):g.ns.length<=64:=by
 unfold validE at h
 split at h
 ·exact absurd h (by decide)
 ·omega
def yth (L:List Int)(w:World)(e:Ending)(w':World):Prop:=∃ v,e=.returned v/\Ins w' v L/\Below w.heap.size w w'
theorem Ins.nil (w:World):Ins w (.slice none 0 0) []:=Rw.nil 1 inAt w
theorem gMembers_of (v:Value)(g:Gr)(c:Int)(R:List Int)(w:World)(h:Hid (GrV w v g))(hr:Hid (memV g c=R)) :
    Calls Tryz.prog 23 #[v,.int .i64 c] w (yth R w):=by
 have hg:=h.out;obtain⟨nv,ev,cv,rfl,hnl,hns,hes,hcs⟩:=h.out;obtain⟨no,nc,rfl,-,hm1,-⟩:=id hns;obtain⟨eo,ec,rfl,-,hm2,-⟩:=id hes;obtain⟨co,cc,rfl,-,hm3,-⟩:=id hcs;have hfe:=hr.out;unfold memV at hfe;have HG:=Lh (ybh w (bb g.nm) g.dir (.slice no g.ns.length nc) (.slice eo g.es.length ec) (.slice co g.cs.length cc) 26);have HB:=Lh (al1 w (.cells #[.string (bb g.nm),.bool g.dir,.slice no g.ns.length nc,.slice eo g.es.length ec,.slice co g.cs.length cc] 26));have HGR:=Lh (hg.keep HB.out);clear hns hes hcs hm1 hm2 hm3 hnl h hr;obtain⟨V,hV⟩:∃ V,validE g=V:=⟨_,rfl⟩
 have HV:=Lh hV;rw[hV] at hfe;clear hV;go_enter func23,ntmps23;go_wp2_with fail
 refine(gvalid_of _ g V _ HGR HV).mono ?_;rintro e w1 ⟨rfl,hb1⟩;have HB1:=Lh (ya hb1 HB.out);have HG1:=Lh (yx HG.out hb1);have HGR1:=Lh (hg.keep HB1.out);obtain⟨g0,g1,g2,g3,g4⟩:=HG1.out;clear hb1 HGR
 by_cases v0:V=0
 case neg =>
  have b0:(V != 0)=true:=by rw[bne_iff_ne];exact v0
  rw[if_pos (Or.inl v0)] at hfe;subst hfe;clear v0;go_wp2;go_ret;exact⟨_,rfl,Ins.nil _,HB1.out⟩
 have b0:(V != 0)=false:=by rw[v0];rfl
 by_cases c0:c < -1
 ·rw[if_pos (Or.inr (Or.inl c0))] at hfe
  subst hfe;clear v0;go_wp2;go_ret;exact⟨_,rfl,Ins.nil _,HB1.out⟩
 by_cases c1:(g.cs.length:Int)<=c
 ·rw[if_pos (Or.inr (Or.inr c1))] at hfe
  subst hfe;clear v0;go_wp2;go_ret;exact⟨_,rfl,Ins.nil _,HB1.out⟩
 rw[if_neg (by omega)] at hfe;have hvw:=yjr g (HV.out.trans v0);have h64:=yj3 (HV.out.trans v0);have HWF:=Lh hvw.1;have HCR:=Lh hvw.2;have HR:Hid (memsK g c g.ns.length=R):=Lh hfe;have d0:decide (c < -1)=false:=by rw[decide_eq_false_iff_not];omega
 have d1:decide ((g.cs.length:Int)<=c)=false:=by rw[decide_eq_false_iff_not];omega
 clear v0 hfe HV hvw c0 c1;go_wp2_with fail
 clear g0 g1 g2 g3 g4 b0 HG HGR1 d0 d1
 go_loopw [5,6] (fun ov iv wr=>∃ (k:Nat) (C:List Int),iv=.int .i64 k/\k<=g.ns.length/\memsK g c k=C/\Irow wr w1.heap.size ov C/\Below w1.heap.size w1 wr) (fun _ iv _=>g.ns.length-(intOf iv).toNat)
 case atStart=>exact⟨0,[],rfl,Nat.zero_le _,rfl,ygL _ _ _ _,Below.refl _ _⟩
 case round =>
  obtain⟨k,C,rfl,hk,hC,hrow,hB2⟩:=hrel
  rename World=>wr
  have HBw:=Lh (ya hB2 HB1.out);have HGQ:=Lh (yx HG1.out hB2);have HGR:=Lh (hg.keep HBw.out);have HB2:=Lh hB2;have HROW:=Lh hrow;have HC:=Lh hC
  have hCl:C.length<=1000000:=by
   have:=yif g c k;rw[hC] at this;omega
  obtain⟨g0,g1,g2,g3,g4⟩:=HGQ.out;clear hB2 hrow hC
  by_cases hlt:k<g.ns.length
  ·obtain⟨p,hp⟩:∃ p,has g c k=p:=⟨_,rfl⟩
   have HP:=Lh hp;have HXR:=Lh (HCR.out k hlt);clear hp;go_wp2_with fail
   refine(yq1 _ g c k p wr HGR hlt HWF HXR HP).mono ?_;rintro e w2 ⟨rfl,hb2⟩;have hB3:=ya hb2 HB2.out;have HB3:=Lh hB3;have HROW2:Hid (Irow w2 w1.heap.size _ C):=Lh (own_keep HROW.out hb2);have hsz:=hB3.size;clear hb2 hB3;cases p
   ·have HN:=Lh (yj2 HP.out)
    go_wp2
    go_roundw
    case rel=>exact⟨k+1,C,by go_num,by omega,by rw[HN.out,HC.out],HROW2.out,HB3.out⟩
    case measure=>simp[intOf];omega
   ·have HN:=Lh (yie HP.out)
    go_wp2_with (at_builtin;refine yqo rfl (.tmp 32) (.tmp 34) rfl w1.heap.size _ C (k:Int) _ rfl rfl rfl HROW2 hCl (by omega) ?_;intro ao4 cap4 w4 hrow4 hgrow4;have hB4:=HB3.out.grown hgrow4 (by omega) (fun q hq=>(World.ownsRow.lt HROW2.out q hq).1);clear hgrow4)
    go_roundw
    case rel=>exact⟨k+1,C++[(k:Int)],by go_num,by omega,by rw[HN.out,HC.out],hrow4,hB4⟩
    case measure=>simp[intOf];omega
  ·obtain rfl:k=g.ns.length:=by omega
   obtain rfl:C=R:=by rw[<- HC.out,HR.out]
   go_wp2;go_ret;exact⟨_,rfl,Irow.ins HROW.out,HBw.out⟩
end Go.Proofs.YtgmidodmmlmmeaaGreatDoor.gra
namespace Go.Proofs.YtgmidodmmlmmeaaGreatDoor.gra
open lex
def yj6 (cs:List Cl)(c d R:Int):Prop:=-1<=R/\∀ e,e∈ch cs R↔e∈ch cs c/\e∈ch cs d
theorem yfp {cs:List Cl}(h:Wf cs){c d R:Int}(hd:-1<=d)(hc:d<c):yj6 cs c d R↔yj6 cs (up cs c) d R:=by
 have hn:c ∉ ch cs d:=fun hm=>by have:=yqm h hm;omega
 unfold yj6;rw[ch_cons h c (by omega)];refine and_congr_right fun _=>forall_congr' fun e=>?_
 rw[List.mem_cons]
 constructor
 ·intro q
  rw[q]
  constructor
  ·rintro⟨rfl | h1,h2⟩
   ·exact absurd h2 hn
   ·exact⟨h1,h2⟩
  ·rintro⟨h1,h2⟩;exact⟨Or.inr h1,h2⟩
 ·intro q
  rw[q]
  constructor
  ·rintro⟨h1,h2⟩;exact⟨Or.inr h1,h2⟩
  ·rintro⟨rfl | h1,h2⟩
   ·exact absurd h2 hn
   ·exact⟨h1,h2⟩
theorem yig {cs:List Cl}{c d R:Int}:yj6 cs c d R↔yj6 cs d c R:=by
 unfold yj6;refine and_congr_right fun _=>forall_congr' fun e=>?_
 rw[and_comm (a:=e∈ch cs c)]
theorem ygn {cs:List Cl}(h:Wf cs){c d R:Int}(hc:-1<=c)(hd:c<d):yj6 cs c d R↔yj6 cs c (up cs d) R:=by
 rw[yig,yfp h hc hd,yig]
theorem yqC {cs:List Cl}(h:Wf cs){r s:Int}(hr:-1<=r)(hs:-1<=s)(he:∀ e,e∈ch cs r↔e∈ch cs s):r=s:=by
 have key:∀ {r s:Int},-1<=r->-1<=s->(∀ e,e∈ch cs r↔e∈ch cs s)->r<=s:=by
  intro r s h1 h2 h3
  by_cases h0:0<=r
  ·exact yqm h ((h3 r).1 (yjq h r h0))
  ·omega
 have h1:=key hr hs he;have h2:=key hs hr (fun e=>(he e).symm);omega
theorem yrN {cs:List Cl}(h:Wf cs){c R:Int}(hc:-1<=c)(hR:yj6 cs c c R):c=R :=
 (yqC h hR.1 hc (fun _=>by rw[hR.2];exact⟨fun q=>q.1,fun q=>⟨q,q⟩⟩)).symm
theorem ymw (cs:List Cl){c:Int}(hc:-1<=c):yj6 cs c c c:=⟨hc,fun _=>⟨fun q=>⟨q,q⟩,fun q=>q.1⟩⟩
theorem yfq {cs:List Cl}(h:Wf cs):∀ (n:Nat) (c d:Int),-1<=c->-1<=d->c+d+2<(n:Int)->∃ R,yj6 cs c d R
 | 0,c,d,h0,h1,h2=>by omega
 | n+1,c,d,h0,h1,h2=>by
  by_cases he:c=d
  ·subst he;exact⟨c,ymw cs h0⟩
  ·by_cases hlt:d<c
   ·have hu:=up_neg cs h c (by omega)
    obtain⟨R,hR⟩:=yfq h n (up cs c) d hu.1 h1 (by omega);exact⟨R,(yfp h h1 hlt).2 hR⟩
   ·have hu:=up_neg cs h d (by omega)
    obtain⟨R,hR⟩:=yfq h n c (up cs d) h0 hu.1 (by omega);exact⟨R,(ygn h h0 (by omega)).2 hR⟩
theorem yo8 {g:Gr}(h:Wf g.cs){c R:Int}{v:Nat}(hc:-1<=c)(hR:yj6 g.cs c (clOf g v) R):decide (R=c)=has g c v:=by
 rw[Bool.eq_iff_iff,decide_eq_true_eq,yqU]
 constructor
 ·rintro rfl
  by_cases h0:0<=R
  ·exact Or.inr ((hR.2 R).1 (yjq h R h0)).2
  ·exact Or.inl (by omega)
 ·intro hh
  refine yqC h hR.1 hc fun e=>?_
  rw[hR.2 e]
  constructor
  ·exact fun q=>q.1
  ·intro q
   refine⟨q,?_⟩
   rcases hh with rfl | hh
   ·rw[ch_neg g.cs (-1) (by omega)] at q;exact nomatch q
   ·exact ylq h q hh
end Go.Proofs.YtgmidodmmlmmeaaGreatDoor.gra
namespace Go.Proofs.YtgmidodmmlmmeaaGreatDoor.gra
open Go.RowKit lex _root_.Go.Proofs.Tryz
theorem ybq (l m n:Int)(b:Bool)(w:World)(h:Hid (decide (l<=n/\n<=m)=b)) :
    Calls Tryz.prog 124 #[.int .i64 l,.int .i64 m,.int .i64 n] w fun e w'=>e=.returned (.bool b)/\w=w':=by
 have hb:=h.out
 by_cases h1:l<=n
 ·by_cases h2:n<=m
  ·obtain rfl:true=b:=by rw[<- hb];simp[h1,h2]
   clear hb h;go_enter func124,ntmps124;go_wp2;go_ret;exact⟨rfl,rfl⟩
  ·obtain rfl:false=b:=by rw[<- hb];simp[h2]
   clear hb h;go_enter func124,ntmps124;go_wp2;go_ret;exact⟨rfl,rfl⟩
 ·obtain rfl:false=b:=by rw[<- hb];simp[h1]
  clear hb h;go_enter func124,ntmps124;go_wp2;go_ret;exact⟨rfl,rfl⟩
theorem ymx (v:Value)(g:Gr)(n:Int)(b:Bool)(w:World)(h:Hid (GrV w v g))(hb:Hid (decide (0<=n/\n<(g.ns.length:Int))=b)) :
    Calls Tryz.prog 188 #[v,.int .i64 n] w fun e w'=>e=.returned (.bool b)/\Below w.heap.size w w':=by
 obtain⟨nv,ev,cv,rfl,-,hns,-,-⟩:=h.out;have hB:=al1 w (.cells #[.string (bb g.nm),.bool g.dir,nv,ev,cv] 26);obtain⟨ao,cap,rfl,hc,hm,_⟩:=id hns;unfold maxLen at hm;have e1:IntKind.i64.wrap ((g.ns.length:Int)-1)=(g.ns.length:Int)-1:=IntWalk.i64_in _ (by omega);have HQ:Hid (decide (0<=n/\n<=(g.ns.length:Int)-1)=b):=Lh (by rw[<- hb.out,decide_eq_decide];omega);clear hns hc hm h hb;go_enter func188,ntmps188;go_wp2_with fail
 refine(ybq 0 ((g.ns.length:Int)-1) n b _ HQ).mono ?_;rintro e w1 ⟨rfl,rfl⟩;go_wp2;go_ret;exact⟨rfl,hB⟩
theorem yj7 (v:Value)(g:Gr)(n:Int)(b:Bool)(w:World)(h:Hid (GrV w v g))(hb:Hid (decide (-1<=n/\n<(g.cs.length:Int))=b)) :
    Calls Tryz.prog 125 #[v,.int .i64 n] w fun e w'=>e=.returned (.bool b)/\Below w.heap.size w w':=by
 obtain⟨nv,ev,cv,rfl,-,-,-,hcs⟩:=h.out;have hB:=al1 w (.cells #[.string (bb g.nm),.bool g.dir,nv,ev,cv] 26);obtain⟨ao,cap,rfl,hc,hm,_⟩:=id hcs;unfold maxLen at hm;have e1:IntKind.i64.wrap ((g.cs.length:Int)-1)=(g.cs.length:Int)-1:=IntWalk.i64_in _ (by omega);have HQ:Hid (decide (-1<=n/\n<=(g.cs.length:Int)-1)=b):=Lh (by rw[<- hb.out,decide_eq_decide];omega);clear hcs hc hm h hb;go_enter func125,ntmps125;go_wp2_with fail
 refine(ybq (-1) ((g.cs.length:Int)-1) n b _ HQ).mono ?_;rintro e w1 ⟨rfl,rfl⟩;go_wp2;go_ret;exact⟨rfl,hB⟩
theorem ymy (v:Value)(g:Gr)(n:Nat)(c R:Int)(w:World)(h:Hid (GrV w v g))(hn:n<=g.cs.length)(hw:Hid (Wf (g.cs.take n)))(hc0:-1<=c)(hc1:c<(n:Int))(hr:Hid (dep (g.cs.take n) c=R)) :
    Calls Tryz.prog 129 #[v,.int .i64 c] w fun e w'=>e=.returned (.int .i64 R)/\Below w.heap.size w w':=by
 obtain⟨nv,ev,cv,rfl,hnl,hns,he,hc⟩:=h.out;have hB:=al1 w (.cells #[.string (bb g.nm),.bool g.dir,nv,ev,cv] 26);have HC:=Lh (hc.keep hB);clear hns he hc h hnl;obtain⟨ao,cap,rfl,hc,hm,_⟩:=id HC.out;unfold maxLen at hm;have hlm:g.cs.length<=9223372036854775807:=by omega
 have hln:(g.cs.take n).length=n:=by rw[List.length_take];omega
 clear hc hm
 have hR0:R<=(n:Int):=by
  have:=yeQ hw.out n c hc1 hc0;have:=hr.out;omega
 go_enter func129,ntmps129;go_wp2_with fail
 go_loop [1,5] (fun kv mv=>∃ (k m:Int),kv=.int .i64 k/\mv=.int .i64 m/\-1<=k/\k<(n:Int)/\0<=m/\m+dep (g.cs.take n) k=R) (fun kv _=>(intOf kv+1).toNat)
 case atStart=>exact⟨c,0,rfl,rfl,hc0,hc1,by omega,by rw[hr.out];omega⟩
 case round =>
  obtain⟨k,m,rfl,rfl,hk0,hk1,hm0,hfe⟩:=hrel;clear hr
  by_cases hlt:k<0
  ·rw[ygI _ _ hlt] at hfe
   obtain rfl:m=R:=by omega
   obtain rfl:k=-1:=by omega
   clear hfe;go_wp2;go_ret;exact⟨rfl,hB⟩
  ·obtain⟨i,rfl⟩:∃ i:Nat,k=(i:Int):=⟨k.toNat,by omega⟩
   have hi:i<g.cs.length:=by omega
   obtain⟨A,rfl,-,q1,-⟩:=HC.out.get hi;obtain⟨u,hu⟩:∃ u,g.cs[i].2=u:=⟨_,rfl⟩
   rw[hu] at q1;have hup:up (g.cs.take n) (i:Int)=u:=by rw[up_at (by omega),List.getElem_take,hu]
   have hun:=up_neg _ hw.out (i:Int) (by omega);rw[ylo hw.out _ (by omega),hup] at hfe;rw[hup] at hun;have hd:=yfY (g.cs.take n) u;have i0:(0:Int)<=(i:Int):=by omega
   have i1:(i:Int)<(g.cs.length:Int):=by omega
   have HF:=Lh hfe;have hm9:m<9223372036854775807:=by omega
   have z1:((i:Int) != -1)=true:=by rw[bne_iff_ne];omega
   clear hu hup hfe hd;go_wp2
   go_round
   case rel=>exact⟨u,m+1,rfl,by go_num,hun.1,by omega,by omega,by have:=HF.out;omega⟩
   case measure=>simp[intOf];omega
theorem yo9 (v:Value)(g:Gr)(c d R:Int)(w:World)(h:Hid (GrV w v g))(hw:Hid (Wf g.cs))(hc:Hid (-1<=c/\c<(g.cs.length:Int)))(hd:Hid (-1<=d/\d<(g.cs.length:Int)))(hr:Hid (yj6 g.cs c d R)) :
    Calls Tryz.prog 131 #[v,.int .i64 c,.int .i64 d] w fun e w'=>e=.returned (.int .i64 R)/\Below w.heap.size w w':=by
 obtain⟨nv,ev,cv,rfl,hnl,hns,he,hcs⟩:=h.out;have hB:=al1 w (.cells #[.string (bb g.nm),.bool g.dir,nv,ev,cv] 26);have HC:=Lh (hcs.keep hB);clear hns he hcs h hnl;obtain⟨ao,cap,rfl,hc1,hm,_⟩:=id HC.out;unfold maxLen at hm;have hlm:g.cs.length<=9223372036854775807:=by omega
 clear hc1 hm;go_enter func131,ntmps131;go_wp2_with fail
 go_loop [1,2] (fun kv mv=>∃ (k m:Int),kv=.int .i64 k/\mv=.int .i64 m/\-1<=k/\k<(g.cs.length:Int)/\-1<=m/\m<(g.cs.length:Int)/\yj6 g.cs k m R) (fun kv mv=>(intOf kv+intOf mv+2).toNat)
 case atStart=>exact⟨c,d,rfl,rfl,hc.out.1,hc.out.2,hd.out.1,hd.out.2,hr.out⟩
 case round =>
  obtain⟨k,m,rfl,rfl,hk0,hk1,hm0,hm1,hcc⟩:=hrel;have HCC:=Lh hcc;clear hr hcc
  by_cases heq:k=m
  ·subst heq
   obtain rfl:=yrN hw.out hk0 HCC.out;have z1:(k != k)=false:=by simp
   go_wp2;go_ret;exact⟨rfl,hB⟩
  ·have z1:(k != m)=true:=by rw[bne_iff_ne];exact heq
   by_cases hlt:m<k
   ·obtain⟨i,rfl⟩:∃ i:Nat,k=(i:Int):=⟨k.toNat,by omega⟩
    have hi:i<g.cs.length:=by omega
    obtain⟨A,rfl,-,q1,-⟩:=HC.out.get hi;obtain⟨u,hu⟩:∃ u,g.cs[i].2=u:=⟨_,rfl⟩
    rw[hu] at q1;have hup:up g.cs (i:Int)=u:=by rw[up_at hi,hu]
    have hun:=up_neg _ hw.out (i:Int) (by omega);have hnx:=(yfp hw.out hm0 hlt).1 HCC.out;rw[hup] at hun hnx;have HN:=Lh hnx;have i0:(0:Int)<=(i:Int):=by omega
    have i1:(i:Int)<(g.cs.length:Int):=by omega
    clear hu hup hnx heq;go_wp2
    go_round
    case rel=>exact⟨u,m,rfl,rfl,hun.1,by omega,hm0,hm1,HN.out⟩
    case measure=>simp[intOf];omega
   ·obtain⟨i,rfl⟩:∃ i:Nat,m=(i:Int):=⟨m.toNat,by omega⟩
    have hi:i<g.cs.length:=by omega
    obtain⟨A,rfl,-,q1,-⟩:=HC.out.get hi;obtain⟨u,hu⟩:∃ u,g.cs[i].2=u:=⟨_,rfl⟩
    rw[hu] at q1;have hup:up g.cs (i:Int)=u:=by rw[up_at hi,hu]
    have hun:=up_neg _ hw.out (i:Int) (by omega);have hnx:=(ygn hw.out hk0 (by omega)).1 HCC.out;rw[hup] at hun hnx;have HN:=Lh hnx;have i0:(0:Int)<=(i:Int):=by omega
    have i1:(i:Int)<(g.cs.length:Int):=by omega
    clear hu hup hnx heq;go_wp2
    go_round
    case rel=>exact⟨k,u,rfl,rfl,hk0,hk1,hun.1,by omega,HN.out⟩
    case measure=>simp[intOf];omega
end Go.Proofs.YtgmidodmmlmmeaaGreatDoor.gra
namespace Go.Proofs.YtgmidodmmlmmeaaGreatDoor.gra
open Go.RowKit lex
theorem yih {w:World}{b:Nat}{x:ByteArray}{d:Bool}{nv ev cv:Value}(o:Obj)(h:gat w b x d nv ev cv):gat (w.alloc o) b x d nv ev cv:=yx h (al1 ..)
end Go.Proofs.YtgmidodmmlmmeaaGreatDoor.gra
namespace Go.Proofs.YtgmidodmmlmmeaaGreatDoor.gra
open Go.RowKit lex _root_.Go.Proofs.Tryz
theorem ypa:Tryz.prog.eqGuardType Tryz.prog.depth 192=false:=by kernel_rfl
theorem yqD (u v:Pt)(dq:Bool)(h:Hid (decide (u≠v)=dq))(w:World):(binOp .neq 192 (.agg #[.string (bb u.1),.int .i64 u.2]) (.agg #[.string (bb v.1),.int .i64 v.2])).run Tryz.prog w=.ok (.bool dq) w:=by
 have hu:Tryz.prog.underlying 192=some (.struct (Tryz.prog.fieldsOf 192)):=by kernel_rfl
 have hp:Tryz.prog.stoodInHeld 192=false:=by kernel_rfl
 obtain⟨a0,a1⟩:=u;obtain⟨c0,c1⟩:=v;rw[run_neq_struct,run_equalIn_agg w 9999 _ _ _ hu hp,<- h.out]
 by_cases h1:a0=c0 <;> by_cases h2:a1=c1 <;> simp[go_sem,Op.eqFields,Program.fieldsOf,underlying192,underlying9,underlying3,ByteArray.toList_eq,h1,h2]
theorem ypb:Tryz.prog.eqGuardType Tryz.prog.depth 63=false:=by kernel_rfl
theorem yqE (u v:Pt)(dq:Bool)(h:Hid (decide (u≠v)=dq))(w:World):(binOp .neq 63 (.agg #[.string (bb u.1),.int .i64 u.2]) (.agg #[.string (bb v.1),.int .i64 v.2])).run Tryz.prog w=.ok (.bool dq) w:=by
 have hu:Tryz.prog.underlying 63=some (.struct (Tryz.prog.fieldsOf 63)):=by kernel_rfl
 have hp:Tryz.prog.stoodInHeld 63=false:=by kernel_rfl
 obtain⟨a0,a1⟩:=u;obtain⟨c0,c1⟩:=v;rw[run_neq_struct,run_equalIn_agg w 9999 _ _ _ hu hp,<- h.out]
 by_cases h1:a0=c0 <;> by_cases h2:a1=c1 <;> simp[go_sem,Op.eqFields,Program.fieldsOf,underlying63,underlying9,underlying3,ByteArray.toList_eq,h1,h2]
theorem ypc:Tryz.prog.eqGuardType Tryz.prog.depth 61=false:=by kernel_rfl
theorem yqF (u v:Ed)(dq:Bool)(h:Hid (decide (u≠v)=dq))(w:World):(binOp .neq 61 (.agg #[.int .i64 u.fr,.int .i64 u.to,.int .i64 u.fp,.int .i64 u.tp,.string (bb u.lb),.int .i64 u.wt,.int .i64 u.ln]) (.agg #[.int .i64 v.fr,.int .i64 v.to,.int .i64 v.fp,.int .i64 v.tp,.string (bb v.lb),.int .i64 v.wt,.int .i64 v.ln])).run Tryz.prog w=.ok (.bool dq) w:=by
 have hu:Tryz.prog.underlying 61=some (.struct (Tryz.prog.fieldsOf 61)):=by kernel_rfl
 have hp:Tryz.prog.stoodInHeld 61=false:=by kernel_rfl
 obtain⟨a0,a1,a2,a3,a4,a5,a6⟩:=u;obtain⟨c0,c1,c2,c3,c4,c5,c6⟩:=v;simp only[Ed.mk.injEq,ne_eq] at h;rw[run_neq_struct,run_equalIn_agg w 9999 _ _ _ hu hp,<- h.out]
 by_cases h0:a0=c0
 case neg=>simp[go_sem,Op.eqFields,Program.fieldsOf,underlying61,underlying9,underlying3,ByteArray.toList_eq,h0]
 subst h0
 by_cases h1:a1=c1
 case neg=>simp[go_sem,Op.eqFields,Program.fieldsOf,underlying61,underlying9,underlying3,ByteArray.toList_eq,h1]
 subst h1
 by_cases h2:a2=c2
 case neg=>simp[go_sem,Op.eqFields,Program.fieldsOf,underlying61,underlying9,underlying3,ByteArray.toList_eq,h2]
 subst h2
 by_cases h3:a3=c3
 case neg=>simp[go_sem,Op.eqFields,Program.fieldsOf,underlying61,underlying9,underlying3,ByteArray.toList_eq,h3]
 subst h3
 by_cases h4:a4=c4
 case neg=>simp[go_sem,Op.eqFields,Program.fieldsOf,underlying61,underlying9,underlying3,ByteArray.toList_eq,h4]
 subst h4
 by_cases h5:a5=c5
 case neg=>simp[go_sem,Op.eqFields,Program.fieldsOf,underlying61,underlying9,underlying3,ByteArray.toList_eq,h5]
 subst h5
 by_cases h6:a6=c6
 case neg=>simp[go_sem,Op.eqFields,Program.fieldsOf,underlying61,underlying9,underlying3,ByteArray.toList_eq,h6]
 subst h6;simp[go_sem,Op.eqFields,Program.fieldsOf,underlying61,underlying9,underlying3]
theorem yhd {α:Type}{a b:List α}{k:Nat}(ha:k<a.length)(hb:k<b.length)(h:a.take k=b.take k)(he:a[k]=b[k]):a.take (k+1)=b.take (k+1):=by
 rw[List.take_succ_eq_append_getElem ha,List.take_succ_eq_append_getElem hb,h,he]
theorem yfj {α:Type}{a b:List α}{k:Nat}(ha:k<a.length)(hb:k<b.length)(he:a[k]≠b[k]):a≠b:=fun e=>he (by subst e;rfl)
theorem ydE {α:Type}{a b:List α}{k:Nat}(hl:a.length=b.length)(hk:a.length<=k)(h:a.take k=b.take k):a=b:=by
 rw[List.take_of_length_le hk,List.take_of_length_le (by omega)] at h;exact h
end Go.Proofs.YtgmidodmmlmmeaaGreatDoor.gra
