/-
  What labelError, portError, isEnd and edgeError of the landed graph return. Conditions: a text's length; lists and a graph in memory.
  What isEnd and edgeError of the landed graph return. Condition: a graph in memory.
-/
import Derived.Test.YtgmidodmmlmmeaaGreatDoorMgb
import Derived.Test.YtgmidodmmlmmeaaGreatDoorMxc
namespace Go.Proofs.YtgmidodmmlmmeaaGreatDoor.gra
open Go.RowKit lex
def labE (l:List UInt8):Int:=if 32 < l.length then 2 else if plainB l=false then 7 else 0
theorem lab_quo (l:List UInt8):labE l=if (quoE l).2=0∨(quoE l).2=2 then (quoE l).2 else 7:=by
 unfold labE quoE plainB
 by_cases h1:32 < l.length
 ·rw [if_pos h1,if_pos h1];rfl
 ·rw [if_neg h1,if_neg h1]
  cases h2:l.all isPl <;> simp
set_option maxHeartbeats 1000000 in
theorem label_of (s:ByteArray)(R:Int)(w:World)(hs:s.size≤maxLen)(h:Hid (labE s.data.toList=R)) :
    Calls Tryz.prog 123 #[.string s] w fun e w'=>e=.returned (.int .i64 R)∧Below w.heap.size w w':=by
 obtain ⟨q,e0,hq⟩:∃ q e0,quoE s.data.toList=(q,e0):=⟨_,_,rfl⟩
 have HQ:=Lh hq
 have HE:Hid ((if e0=0∨e0=2 then e0 else 7)=R):=Lh (by have:=h.out;rw [lab_quo,hq] at this;exact this)
 clear hq h
 by_cases h0:e0=0
 ·subst h0
  have HR:Hid (0=R):=Lh (by rw [← HE.out];rfl)
  go_enter Tryz.func123,Tryz.ntmps123
  go_wp2_with fail
  refine (quote_any s q 0 w hs HQ).mono ?_
  rintro e w1 ⟨rfl,hb1⟩
  go_wp2
  go_ret
  exact ⟨ret_int HR.out,hb1⟩
 ·by_cases h2:e0=2
  ·subst h2
   have HR:Hid (2=R):=Lh (by rw [← HE.out];rfl)
   go_enter Tryz.func123,Tryz.ntmps123
   go_wp2_with fail
   refine (quote_any s q 2 w hs HQ).mono ?_
   rintro e w1 ⟨rfl,hb1⟩
   go_wp2
   go_ret
   exact ⟨ret_int HR.out,hb1⟩
  ·have HR:Hid (7=R):=Lh (by rw [← HE.out,if_neg (by omega)])
   have z0:(e0 == 0)=false:=by rw [beq_eq_false_iff_ne];exact h0
   have z2:(e0 == 2)=false:=by rw [beq_eq_false_iff_ne];exact h2
   clear HE
   go_enter Tryz.func123,Tryz.ntmps123
   go_wp2_with fail
   refine (quote_any s q e0 w hs HQ).mono ?_
   rintro e w1 ⟨rfl,hb1⟩
   go_wp2
   go_ret
   exact ⟨ret_int HR.out,hb1⟩
theorem Rw.front {α:Type}{c:Nat}{P:World→Addr→α→Prop}{w:World}{ao:Option Addr}{n cap:Nat}{l:List α}(h:Rw c P w (.slice ao n cap) l){k:Nat}(hk:k≤l.length):Rw c P w (.slice ao k cap) (l.take k):=by
 obtain ⟨ao',cap',e,hc,hm,hA⟩:=h
 cases e
 refine ⟨ao,cap,by rw [List.length_take,Nat.min_eq_left hk],by rw [List.length_take];omega,hm,fun hn=>?_⟩
 rw [List.length_take] at hn
 obtain ⟨A,rfl,h2⟩:=hA (by omega)
 refine ⟨A,rfl,fun i hi=>?_⟩
 rw [List.length_take] at hi
 rw [List.getElem_take]
 exact h2 i (by omega)
set_option maxRecDepth 100000 in
set_option maxHeartbeats 4000000 in
theorem port_of (v:Value)(l:List Pt)(i:Nat)(R:Int)(w:World)(h:Hid (Pts w v l))(hi:i < l.length)(hr:Hid (portE (l.take i) l[i]=R)) :
    Calls Tryz.prog 126 #[v,.int .i64 i] w fun e w'=>e=.returned (.int .i64 R)∧Below w.heap.size w w':=by
 have hmf:∀ (fn:Fn) (first cap:Array Value) (w:World),(Instr.makeFunc fn first cap).run Tryz.prog w=.ok (.func fn first cap) w:=fun _ _ _ _=>rfl
 obtain ⟨ao,cap,rfl,hc1,hm1,-⟩:=id h.out
 unfold maxLen at hm1
 have hlm:cap≤9223372036854775807:=by omega
 obtain ⟨A,rfl,q0,q1,qs,-⟩:=h.out.get hi
 obtain ⟨p,hp⟩:∃ p,l[i]=p:=⟨_,rfl⟩
 have hfe:=hr.out
 rw [hp] at q0 q1 qs hfe
 obtain ⟨n,d⟩:=p
 simp only at q0 q1 qs
 obtain ⟨X,hX⟩:∃ X,bb n=X:=⟨_,rfl⟩
 have hX2:X.data.toList=n:=by rw [← hX]
 have hXs:X.size≤maxLen:=by rw [← hX];exact qs
 rw [hX] at q0
 have HFR:=Lh (h.out.front (Nat.le_of_lt hi))
 have i0:(0:Int)≤(i:Int):=by omega
 have i1:(i:Int) < (l.length:Int):=by omega
 have i2:(i:Int)≤(cap:Int):=by omega
 obtain ⟨b1,hb1⟩:∃ b,isNm X.data.toList=b:=⟨_,rfl⟩
 obtain ⟨b2,hb2⟩:∃ b,(l.take i).any (fun p=>p.1 == X.data.toList)=b:=⟨_,rfl⟩
 have HN:=Lh hb1
 have HA:=Lh hb2
 unfold portE at hfe
 simp only at hfe
 rw [← hX2,hb1,hb2] at hfe
 have HE:=Lh hfe
 have HB:=Lh (al1 w (.cells #[.string X,.int .i64 d] 192))
 clear hX hX2 qs hp hfe hb1 hb2 hm1 hc1 hr
 go_enter Tryz.func126,Tryz.ntmps126
 go_wp2_with fail
 refine (isname_of X b1 _ hXs HN).mono ?_
 rintro e w1 ⟨rfl,hw1⟩
 have HB1:=Lh (below_keep hw1 HB.out)
 have HC1:Hid (w1.cell? ⟨w.heap.size,0,none⟩=some (.string X)∧w1.cell? ⟨w.heap.size,1,none⟩=some (.int .i64 d)):=Lh ⟨cell_keep hw1 (by go_simp),cell_keep hw1 (by go_simp)⟩
 clear q0 q1 hw1
 cases b1
 ·obtain rfl:5=R:=by rw [← HE.out];rfl
  go_wp2
  go_ret
  exact ⟨rfl,HB1.out⟩
 have HFR1:=Lh (HFR.out.keep (P:=ptAt) (fun h hb=>ptAt.keep h hb) HB1.out)
 obtain ⟨c0,c1⟩:=HC1.out
 go_wp2_with fail
 refine (pocon_of _ _ w.heap.size X b2 w1 HFR1 (Lh HC1.out.1) HA).mono ?_
 rintro e w2 ⟨rfl,hw2⟩
 have HB2:=Lh (below_keep hw2 HB1.out)
 have k1:=cell_keep hw2 HC1.out.2
 clear c0 c1 hw2
 cases b2
 case true =>
  obtain rfl:6=R:=by rw [← HE.out];rfl
  go_wp2
  go_ret
  exact ⟨rfl,HB2.out⟩
 have hd:=HE.out
 simp only [Bool.false_eq_true,if_false,reduceCtorEq] at hd
 by_cases h4:d < 0∨3 < d
 ·rw [if_pos h4] at hd
  subst hd
  have z0:(d == 0)=false:=by rw [beq_eq_false_iff_ne];omega
  have z1:(d == 1)=false:=by rw [beq_eq_false_iff_ne];omega
  have z2:(d == 2)=false:=by rw [beq_eq_false_iff_ne];omega
  have z3:(d == 3)=false:=by rw [beq_eq_false_iff_ne];omega
  clear h4
  go_wp2
  go_ret
  exact ⟨rfl,HB2.out⟩
 ·rw [if_neg h4] at hd
  subst hd
  by_cases d0:d=0
  ·subst d0
   go_wp2
   go_ret
   exact ⟨rfl,HB2.out⟩
  by_cases d1:d=1
  ·subst d1
   go_wp2
   go_ret
   exact ⟨rfl,HB2.out⟩
  by_cases d2:d=2
  ·subst d2
   go_wp2
   go_ret
   exact ⟨rfl,HB2.out⟩
  obtain rfl:d=3:=by omega
  go_wp2
  go_ret
  exact ⟨rfl,HB2.out⟩
def psL (g:Gr)(n:Int):Nat:=match g.ns[n.toNat]? with | some n=>n.ps.length | none=>0
def endB (g:Gr)(n p:Int):Bool:=decide (0≤n∧n < (g.ns.length:Int)) && decide (-1≤p∧p < (psL g n:Int))
theorem edge_conv (g:Gr)(x:Ed):edgeE g x=if (endB g x.fr x.fp && endB g x.to x.tp)=false then 3 else if labE x.lb≠0 then labE x.lb else if (decide (1≤x.wt∧x.wt≤1000) && decide (1≤x.ln∧x.ln≤64))=false then 7 else 0:=by
 have e:edgeE g x=if x.fr < 0∨(g.ns.length:Int)≤x.fr∨x.to < 0∨(g.ns.length:Int)≤x.to then 3 else if x.fp < -1∨(psL g x.fr:Int)≤x.fp∨x.tp < -1∨(psL g x.to:Int)≤x.tp then 3
     else if 32 < x.lb.length then 2 else if plainB x.lb=false∨x.wt < 1∨1000 < x.wt∨x.ln < 1∨64 < x.ln then 7 else 0:=rfl
 rw [e]
 unfold endB
 simp only [Bool.and_eq_false_iff,decide_eq_false_iff_not]
 by_cases A:x.fr < 0∨(g.ns.length:Int)≤x.fr∨x.to < 0∨(g.ns.length:Int)≤x.to
 ·rw [if_pos A,if_pos (by omega)]
 rw [if_neg A]
 by_cases B:x.fp < -1∨(psL g x.fr:Int)≤x.fp∨x.tp < -1∨(psL g x.to:Int)≤x.tp
 ·rw [if_pos B,if_pos (by omega)]
 rw [if_neg B,if_neg (show ¬ ((¬(0≤x.fr∧x.fr < (g.ns.length:Int))∨¬(-1≤x.fp∧x.fp < (psL g x.fr:Int)))∨¬(0≤x.to∧x.to < (g.ns.length:Int))∨¬(-1≤x.tp∧x.tp < (psL g x.to:Int))) from by omega)]
 unfold labE
 by_cases C:32 < x.lb.length
 ·rw [if_pos C,if_pos C];rfl
 rw [if_neg C,if_neg C]
 cases hp:plainB x.lb
 ·simp
 ·by_cases D:¬(1≤x.wt∧x.wt≤1000)∨¬(1≤x.ln∧x.ln≤64)
  ·rw [if_pos (Or.inr (by omega)),if_neg (by simp),if_pos D]
  ·rw [if_neg (fun h=>h.elim (fun q=>Bool.noConfusion q) (fun q=>D (by omega))),if_neg (by simp),if_neg D]
set_option maxRecDepth 100000 in
set_option maxHeartbeats 4000000 in
theorem isend_of (v:Value)(g:Gr)(n p:Int)(b:Bool)(w:World)(h:Hid (GrV w v g))(hb:Hid (endB g n p=b)) :
    Calls Tryz.prog 130 #[v,.int .i64 n,.int .i64 p] w fun e w'=>e=.returned (.bool b)∧Below w.heap.size w w':=by
 have hg:=h.out
 obtain ⟨nv,ev,cv,rfl,hnl,hns,hes,hcs⟩:=h.out
 obtain ⟨no,nc,rfl,hm0,hm1,-⟩:=id hns
 obtain ⟨eo,ec,rfl,-,-,-⟩:=id hes
 obtain ⟨co,cc,rfl,-,-,-⟩:=id hcs
 unfold maxLen at hm1
 have hlm:g.ns.length≤9223372036854775807:=by omega
 have HB:=Lh (al1 w (.cells #[.string (bb g.nm),.bool g.dir,.slice no g.ns.length nc,.slice eo g.es.length ec,.slice co g.cs.length cc] 26))
 have HG:=Lh (gat_new w (bb g.nm) g.dir (.slice no g.ns.length nc) (.slice eo g.es.length ec) (.slice co g.cs.length cc) 26)
 have HGR:=Lh (hg.keep HB.out)
 obtain ⟨b1,hb1⟩:∃ b,decide (0≤n∧n < (g.ns.length:Int))=b:=⟨_,rfl⟩
 have H1:=Lh hb1
 have hfe:=hb.out
 unfold endB at hfe
 rw [hb1] at hfe
 have HFE:=Lh hfe
 clear hm0 hm1 hns hes hcs hnl h hb hb1 hfe
 go_enter Tryz.func130,Tryz.ntmps130
 go_wp2_with fail
 refine (isnode_of _ g n b1 _ HGR H1).mono ?_
 rintro e w1 ⟨rfl,hw1⟩
 have HB1:=Lh (below_keep hw1 HB.out)
 have HG1:=Lh (gat_keep HG.out hw1)
 have HN1:=Lh (show Nds w1 (.slice no g.ns.length nc) g.ns from by
  obtain ⟨_,_,_,e,_,q,_⟩:=hg.keep HB1.out
  simp only [Value.agg.injEq,Array.mk.injEq,List.cons.injEq] at e
  rw [e.2.2.1];exact q)
 clear hw1 HGR
 cases b1
 ·obtain rfl:false=b:=by rw [← HFE.out];rfl
  go_wp2
  go_ret
  exact ⟨rfl,HB1.out⟩
 have hr:=of_decide_eq_true H1.out
 obtain ⟨k,rfl⟩:∃ k:Nat,n=(k:Int):=⟨n.toNat,by omega⟩
 have hk:k < g.ns.length:=by omega
 obtain ⟨A,rfl,-,-,-,-,-,⟨pv,q5,hps⟩,-⟩:=HN1.out.get hk
 have hpl:psL g (k:Int)=g.ns[k].ps.length:=by unfold psL;rw [Int.toNat_natCast,List.getElem?_eq_getElem hk]
 obtain ⟨po,pc,rfl,hq0,hq1,-⟩:=id hps
 obtain ⟨L,hL⟩:∃ L,g.ns[k].ps.length=L:=⟨_,rfl⟩
 rw [hL] at q5 hpl hq0
 unfold maxLen at hq1
 have e1:IntKind.i64.wrap ((L:Int) - 1)=(L:Int) - 1:=IntWalk.i64_in _ (by omega)
 have HQ:Hid (decide (-1≤p∧p≤(L:Int) - 1)=b):=Lh (by rw [← HFE.out,hpl,Bool.true_and,decide_eq_decide];omega)
 obtain ⟨g0,g1,g2,g3,g4⟩:=HG1.out
 have i0:(0:Int)≤(k:Int):=by omega
 have i1:(k:Int) < (g.ns.length:Int):=by omega
 clear hpl hL hps hr hq0 hq1 HG
 go_wp2_with fail
 refine (isfrom_of (-1) ((L:Int) - 1) p b _ HQ).mono ?_
 rintro e w2 ⟨rfl,rfl⟩
 go_wp2
 go_ret
 exact ⟨rfl,HB1.out⟩
def xbx (w:World)(b:Nat)(m n p q:Int)(z:ByteArray)(r s:Int):Prop:=w.cell? ⟨b,0,none⟩=some (.int .i64 m)∧w.cell? ⟨b,1,none⟩=some (.int .i64 n)∧w.cell? ⟨b,2,none⟩=some (.int .i64 p)∧w.cell? ⟨b,3,none⟩=some (.int .i64 q)∧w.cell? ⟨b,4,none⟩=some (.string z)∧w.cell? ⟨b,5,none⟩=some (.int .i64 r)∧w.cell? ⟨b,6,none⟩=some (.int .i64 s)
theorem xbx_new (w:World)(m n p q:Int)(z:ByteArray)(r s:Int)(t:TypeId):xbx (w.alloc (.cells #[.int .i64 m,.int .i64 n,.int .i64 p,.int .i64 q,.string z,.int .i64 r,.int .i64 s] t)) w.heap.size m n p q z r s:=by
 refine ⟨?_,?_,?_,?_,?_,?_,?_⟩ <;> go_simp
theorem xbx_keep {w1 w2:World}{b:Nat}{m n p q:Int}{z:ByteArray}{r s:Int}(h:xbx w1 b m n p q z r s)(h2:Below w1.heap.size w1 w2):xbx w2 b m n p q z r s:=by
 obtain ⟨a0,a1,a2,a3,a4,a5,a6⟩:=h
 exact ⟨cell_keep h2 a0,cell_keep h2 a1,cell_keep h2 a2,cell_keep h2 a3,cell_keep h2 a4,cell_keep h2 a5,cell_keep h2 a6⟩
set_option maxRecDepth 100000 in
set_option maxHeartbeats 16000000 in
theorem edge_of (v:Value)(g:Gr)(fr tw fp tp:Int)(Z:ByteArray)(wt ln R:Int)(w:World)(h:Hid (GrV w v g))(hZs:Z.size≤maxLen)(hr:Hid (edgeE g ⟨fr,tw,fp,tp,Z.data.toList,wt,ln⟩=R)) :
    Calls Tryz.prog 63 #[v,.agg #[.int .i64 fr,.int .i64 tw,.int .i64 fp,.int .i64 tp,.string Z,.int .i64 wt,.int .i64 ln]] w fun e w'=>e=.returned (.int .i64 R)∧Below w.heap.size w w':=by
 have hg:=h.out
 obtain ⟨nv,ev,cv,rfl,hnl,hns,hes,hcs⟩:=h.out
 obtain ⟨no,nc,rfl,-,-,-⟩:=id hns
 obtain ⟨eo,ec,rfl,-,-,-⟩:=id hes
 obtain ⟨co,cc,rfl,-,-,-⟩:=id hcs
 have hfe:=hr.out
 rw [edge_conv] at hfe
 simp only at hfe
 have HG0:=gat_keep (gat_new w (bb g.nm) g.dir (.slice no g.ns.length nc) (.slice eo g.es.length ec) (.slice co g.cs.length cc) 26) (al1 _ (.cells #[.int .i64 fr,.int .i64 tw,.int .i64 fp,.int .i64 tp,.string Z,.int .i64 wt,.int .i64 ln] 61))
 have HX0:xbx ((w.alloc (.cells #[.string (bb g.nm),.bool g.dir,.slice no g.ns.length nc,.slice eo g.es.length ec,.slice co g.cs.length cc] 26)).alloc (.cells #[.int .i64 fr,.int .i64 tw,.int .i64 fp,.int .i64 tp,.string Z,.int .i64 wt,.int .i64 ln] 61)) (w.heap.size+1) fr tw fp tp Z wt ln:=by
  have:=xbx_new (w.alloc (.cells #[.string (bb g.nm),.bool g.dir,.slice no g.ns.length nc,.slice eo g.es.length ec,.slice co g.cs.length cc] 26)) fr tw fp tp Z wt ln 61
  rwa [World.size_alloc] at this
 have HB0:=al2 w (.cells #[.string (bb g.nm),.bool g.dir,.slice no g.ns.length nc,.slice eo g.es.length ec,.slice co g.cs.length cc] 26) (.cells #[.int .i64 fr,.int .i64 tw,.int .i64 fp,.int .i64 tp,.string Z,.int .i64 wt,.int .i64 ln] 61)
 have HG:=Lh HG0
 have HX:=Lh HX0
 have HB:=Lh HB0
 have HGR:=Lh (hg.keep HB0)
 obtain ⟨b1,hb1⟩:∃ b,endB g fr fp=b:=⟨_,rfl⟩
 obtain ⟨b2,hb2⟩:∃ b,endB g tw tp=b:=⟨_,rfl⟩
 obtain ⟨e3,hb3⟩:∃ b,labE Z.data.toList=b:=⟨_,rfl⟩
 obtain ⟨b4,hb4⟩:∃ b,decide (1≤wt∧wt≤1000)=b:=⟨_,rfl⟩
 obtain ⟨b5,hb5⟩:∃ b,decide (1≤ln∧ln≤64)=b:=⟨_,rfl⟩
 have H1:=Lh hb1
 have H2:=Lh hb2
 have H3:=Lh hb3
 have H4:=Lh hb4
 have H5:=Lh hb5
 rw [hb1,hb2,hb3,hb4,hb5] at hfe
 have HE:=Lh hfe
 obtain ⟨x0,x1,x2,x3,x4,x5,x6⟩:=HX.out
 obtain ⟨g0,g1,g2,g3,g4⟩:=HG.out
 clear hb1 hb2 hb3 hb4 hb5 hfe HG0 HX0 HB0 hns hes hcs hnl h hr
 go_enter Tryz.func63,Tryz.ntmps63
 go_wp2_with fail
 refine (isend_of _ g fr fp b1 _ HGR H1).mono ?_
 rintro e w1 ⟨rfl,hw1⟩
 have HB1:=Lh (below_keep hw1 HB.out)
 have HG1:=Lh (gat_keep HG.out hw1)
 have HX1:=Lh (xbx_keep HX.out hw1)
 have HGR1:=Lh (hg.keep HB1.out)
 clear x0 x1 x2 x3 x4 x5 x6 g0 g1 g2 g3 g4 hw1 HGR
 obtain ⟨x0,x1,x2,x3,x4,x5,x6⟩:=HX1.out
 obtain ⟨g0,g1,g2,g3,g4⟩:=HG1.out
 cases b1
 ·obtain rfl:3=R:=by rw [← HE.out];simp
  go_wp2
  go_ret
  exact ⟨rfl,HB1.out⟩
 go_wp2_with fail
 refine (isend_of _ g tw tp b2 _ HGR1 H2).mono ?_
 rintro e w2 ⟨rfl,hw2⟩
 have HB2:=Lh (below_keep hw2 HB1.out)
 have HX2:=Lh (xbx_keep HX1.out hw2)
 clear x0 x1 x2 x3 x4 x5 x6 g0 g1 g2 g3 g4 hw2 HGR1 HG1 HX1
 obtain ⟨x0,x1,x2,x3,x4,x5,x6⟩:=HX2.out
 cases b2
 ·obtain rfl:3=R:=by rw [← HE.out];simp
  go_wp2
  go_ret
  exact ⟨rfl,HB2.out⟩
 have hE:=HE.out
 simp only [Bool.and_self,Bool.true_eq_false,if_false] at hE
 have HE2:=Lh hE
 clear hE HE
 go_wp2_with fail
 refine (label_of Z e3 _ hZs H3).mono ?_
 rintro e w3 ⟨rfl,hw3⟩
 have HB3:=Lh (below_keep hw3 HB2.out)
 have HX3:=Lh (xbx_keep HX2.out hw3)
 clear x0 x1 x2 x3 x4 x5 x6 hw3 HX2
 obtain ⟨x0,x1,x2,x3,x4,x5,x6⟩:=HX3.out
 by_cases he3:e3=0
 case neg =>
  have z3:(e3 != 0)=true:=by rw [bne_iff_ne];exact he3
  have HQ:Hid (e3=R):=Lh (by have:=HE2.out;rw [if_pos he3] at this;exact this)
  clear he3
  go_wp2
  go_ret
  exact ⟨ret_int HQ.out,HB3.out⟩
 subst he3
 have hE:=HE2.out
 simp only [ne_eq,not_true_eq_false,if_false] at hE
 have HE3:=Lh hE
 clear hE HE2
 go_wp2_with fail
 refine (isfrom_of 1 1000 wt b4 _ H4).mono ?_
 rintro e w4 ⟨rfl,rfl⟩
 cases b4
 ·obtain rfl:7=R:=by rw [← HE3.out];simp
  go_wp2
  go_ret
  exact ⟨rfl,HB3.out⟩
 go_wp2_with fail
 refine (isfrom_of 1 64 ln b5 _ H5).mono ?_
 rintro e w4 ⟨rfl,rfl⟩
 cases b5
 ·obtain rfl:7=R:=by rw [← HE3.out];simp
  go_wp2
  go_ret
  exact ⟨rfl,HB3.out⟩
 ·obtain rfl:0=R:=by rw [← HE3.out];simp
  go_wp2
  go_ret
  exact ⟨rfl,HB3.out⟩
end Go.Proofs.YtgmidodmmlmmeaaGreatDoor.gra
