/-
  The landed parser's method cluster, over what body does. Condition: tokens of a source.
  The landed parser's method statement, and with it body: by induction over fuel. Condition: tokens of a source.
  The landed parser's method tree. Condition: tokens of a source.
-/
import Derived.Test.YtgmidodmmlmmeaaGreatDoorMrf
namespace Go.Proofs.YtgmidodmmlmmeaaGreatDoor.par
open Go.RowKit lex tre prt
def cluR (d:Bool)(n dep:Nat)(l:List Tok):Rz St:=(nameR l).bnd fun x l=>if isT 5 [123] l=true∧6≤dep then .er 2 l else (wantM [123] l).bnd fun _ l=>(stmtsF fmtL d n (dep+1) l).bnd fun b l=>.ok (.mk 5 x [] [] b) l
theorem clu_ok {d:Bool}{n dep:Nat}{l l1:List Tok}{k:List UInt8}{x:Rz St}(h:cluR d n dep l=x)(hn:nameR l=.ok k l1)(hc:¬ (isT 5 [123] l1=true∧6≤dep)):((bodyR d n (dep+1) l1).bnd fun b l=>.ok (.mk 5 k [] [] b) l)=x:=by
 rw [← h]
 unfold cluR bodyR
 rw [hn,bnd_ok,if_neg hc]
 cases wantM [123] l1 <;> rfl
set_option maxRecDepth 100000 in
set_option maxHeartbeats 1000000 in
theorem cluster_step (L:List Tok)(hL:Hid (TokL L))(R:Nat)(d:Bool)(A:ByteArray)(n:Nat)(ih:Hid (BdOk L R d A n))(l:List Tok)(dep:Nat)(x:Rz St)(w:World)(hln:l.length≤n)(hdep:dep≤6)(h:Hid (Rd L R w l A (dep:Int)))(hx:Hid (cluR d n dep l=x)) :
    Calls Tryz.prog 235 #[.pointer (some ⟨R,0,none⟩)] w (Out L R A (dep:Int) VSt w x):=by
 have HRl:=Lh h.out.lt
 have hR1:w.heap.size≠R:=by have:=HRl.out;omega
 have HLn:=Lh hln
 have HD:=Lh hdep
 obtain ⟨lev,hlev⟩:∃ lev:Int,(dep:Int)=lev:=⟨_,rfl⟩
 have HLv:=Lh hlev
 rw [hlev] at h ⊢
 have hw1:IntKind.i64.wrap (lev+1)=lev+1:=IntWalk.i64_in _ (by omega)
 have hw3:wrap64 lev=lev:=IntWalk.wrap64_in lev (by omega)
 have HK:=Lh (blk_new w stZ 67)
 have HB:=Lh (al1 w (.cells stZ 67))
 have HZ0:Hid ((w.alloc (.cells stZ 67)).heap.size=w.heap.size+1):=Lh (by simp)
 clear hln hdep hlev
 go_enter Tryz.func235,Tryz.ntmps235
 go_wp2_with fail
 refine (name_of L hL R l A lev _ _ (Lh (h.out.below HB.out)) (Lh rfl)).mono ?_
 rintro e w1 ⟨hp1,hx1⟩
 have HP1:=Lh ((Pk.below (R:=R) HB.out).trans hp1)
 have HK1:=Lh (hp1.blk hR1 HK.out)
 cases hn:nameR l with
 | er c l1 =>
  rw [hn] at hx1
  obtain rfl:=hx1
  exact ⟨rfl,Out.pn (by rw [← hx.out];unfold cluR;rw [hn];rfl) HP1.out⟩
 | ok k l1 =>
  rw [hn] at hx1
  obtain ⟨v1,rfl,⟨rfl,hk1⟩,hr1⟩:=hx1
  obtain ⟨X,hX⟩:∃ X,bb k=X:=⟨_,rfl⟩
  rw [hX]
  have HX:=Lh hX
  have HKl:=Lh hk1
  have HN:=Lh hn
  have HLn1:Hid (l1.length≤n):=Lh (by have:=name_lt hn;have:=HLn.out;omega)
  have HS1:Hid (w.heap.size < w1.heap.size):=Lh (by have:=hp1.size;have:=HZ0.out;omega)
  have hR2:w1.heap.size≠R:=by have:=HRl.out;have:=HS1.out;omega
  have hne:w.heap.size≠w1.heap.size:=by have:=HS1.out;omega
  have HBa:=Lh (al1 w1 (.cells #[.int .i64 5,.string X,.slice none 0 0,.slice none 0 0,.slice none 0 0] 67))
  have HKa:=Lh (blk_new w1 #[.int .i64 5,.string X,.slice none 0 0,.slice none 0 0,.slice none 0 0] 67)
  have HK2:=Lh ((Pk.below (R:=R) HBa.out).blk hR1 HK1.out)
  have HR2:=Lh (hr1.below HBa.out)
  have HP2:=Lh (HP1.out.trans (Pk.below HBa.out))
  have HZ2:Hid (w1.heap.size < (w1.alloc (.cells #[.int .i64 5,.string X,.slice none 0 0,.slice none 0 0,.slice none 0 0] 67)).heap.size):=Lh (by simp)
  obtain ⟨-,q3,-,r3⟩:=HR2.out.cells
  clear hp1 hr1 hn hX hk1
  have hw:(¬ (6:Int)≤lev∧dep≤5)∨((6:Int)≤lev∧6≤dep∧isT 5 [123] l1=false)∨((6:Int)≤lev∧6≤dep∧isT 5 [123] l1=true):=by
   have:=HLv.out
   by_cases q:dep≤5
   ·exact Or.inl ⟨by omega,q⟩
   ·cases hc:isT 5 [123] l1
    ·exact Or.inr (Or.inl ⟨by omega,by omega,rfl⟩)
    ·exact Or.inr (Or.inr ⟨by omega,by omega,rfl⟩)
  rcases hw with ⟨g1,g2⟩ | ⟨g1,g2,hc⟩ | ⟨g1,g2,hc⟩
  rotate_left
  rotate_left
  ·have HCc:=Lh hc
   have HG:=Lh g2
   clear hc g2
   go_wp2_with fail
   refine (sees_mk_of L hL R l1 A lev [123] _ true _ rfl HR2 (by decide) HCc).mono ?_
   rintro e w3 ⟨rfl,hb3⟩
   have HR3:=Lh (HR2.out.below hb3)
   have HP3:=Lh (HP2.out.trans (Pk.below hb3))
   clear hb3
   go_wp2_with fail
   refine (here_of L R l1 A lev 2 _ _ HR3 (Lh rfl)).mono ?_
   rintro e w4 ⟨rfl,hb4⟩
   have H4:=Lh (HP3.out.trans (Pk.below hb4))
   have HXe:Hid (.er 2 l1=x):=Lh (by rw [← hx.out];unfold cluR;rw [HN.out,bnd_ok,if_pos ⟨HCc.out,HG.out⟩])
   clear hb4
   go_wp2
   exact ⟨rfl,by rw [← HXe.out];exact Out.er H4.out rfl⟩
  case' inl =>
   have HX1:Hid (((bodyR d n (dep+1) l1).bnd fun b l=>.ok (.mk 5 k [] [] b) l)=x):=Lh (clu_ok hx.out HN.out (fun e=>by omega))
   have HDp:Hid (dep+1≤6∨isT 5 [123] l1=false):=Lh (Or.inl (by omega))
   clear g2
   go_wp2_with fail
   have HR4:=Lh (HR2.out.lvl (lev+1))
   have HP4:=Lh (HP2.out.trans (Pk.set R _ 3 (.int .i64 (lev+1))))
   have HK4:=Lh (blk_far (o:=3) HK2.out hR1 (.int .i64 (lev+1)))
   have HKb:=Lh (blk_far (o:=3) HKa.out hR2 (.int .i64 (lev+1)))
   have HZ4:Hid (w1.heap.size < ((w1.alloc (.cells #[.int .i64 5,.string X,.slice none 0 0,.slice none 0 0,.slice none 0 0] 67)).setCell ⟨R,3,none⟩ (.int .i64 (lev+1))).heap.size):=Lh (by simp [World.setCell])
   clear q3 r3 HK2 HR2 HP2 HZ2 HBa HKa
   generalize (w1.alloc (.cells #[.int .i64 5,.string X,.slice none 0 0,.slice none 0 0,.slice none 0 0] 67)).setCell ⟨R,3,none⟩ (.int .i64 (lev+1))=w4 at HR4 HP4 HK4 HKb HZ4 ⊢
  case' inr.inl =>
   have HX1:Hid (((bodyR d n (dep+1) l1).bnd fun b l=>.ok (.mk 5 k [] [] b) l)=x):=Lh (clu_ok hx.out HN.out (fun e=>by rw [hc] at e;cases e.1))
   have HCc:=Lh hc
   have HDp:Hid (dep+1≤6∨isT 5 [123] l1=false):=Lh (Or.inr hc)
   clear hc g2
   go_wp2_with fail
   refine (sees_mk_of L hL R l1 A lev [123] _ false _ rfl HR2 (by decide) HCc).mono ?_
   rintro e w3 ⟨rfl,hb3⟩
   have HR3:=Lh (HR2.out.below hb3)
   have HP3:=Lh (HP2.out.trans (Pk.below hb3))
   have HK3:=Lh ((Pk.below (R:=R) hb3).blk hR1 HK2.out)
   have HKc:=Lh ((Pk.below (R:=R) hb3).blk hR2 HKa.out)
   have HZ3:Hid (w1.heap.size < w3.heap.size):=Lh (Nat.lt_of_lt_of_le HZ2.out hb3.size)
   clear hb3 q3 r3
   obtain ⟨-,q3,-,r3⟩:=HR3.out.cells
   go_wp2_with fail
   have HR4:=Lh (HR3.out.lvl (lev+1))
   have HP4:=Lh (HP3.out.trans (Pk.set R _ 3 (.int .i64 (lev+1))))
   have HK4:=Lh (blk_far (o:=3) HK3.out hR1 (.int .i64 (lev+1)))
   have HKb:=Lh (blk_far (o:=3) HKc.out hR2 (.int .i64 (lev+1)))
   have HZ4:Hid (w1.heap.size < (w3.setCell ⟨R,3,none⟩ (.int .i64 (lev+1))).heap.size):=Lh (by have:=HZ3.out;simpa [World.setCell] using this)
   clear q3 r3 HK2 HR2 HP2 HZ2 HBa HKa HR3 HP3 HK3 HKc HZ3 HCc
   generalize w3.setCell ⟨R,3,none⟩ (.int .i64 (lev+1))=w4 at HR4 HP4 HK4 HKb HZ4 ⊢
  all_goals
   have hc5:=ih.out l1 (dep+1) _ w4 HLn1.out HDp.out (by rw [Int.natCast_add,HLv.out];exact HR4) (Lh rfl)
   rw [Int.natCast_add,HLv.out] at hc5
   refine hc5.mono ?_
   rintro e w5 ⟨hp5,hx5⟩
   have HP5:=Lh (HP4.out.trans hp5)
   have HK5:=Lh (hp5.blk hR1 HK4.out)
   have HKd:=Lh (hp5.blk hR2 HKb.out)
   rcases hn5:bodyR d n (dep+1) l1 with ⟨b,l5⟩ | ⟨c,l5⟩
   rotate_left
   ·rw [hn5] at hx5
    obtain rfl:=hx5
    exact ⟨rfl,Out.pn (by rw [← HX1.out,hn5];rfl) HP5.out⟩
   rw [hn5] at hx5
   obtain ⟨av,rfl,hself,hr5⟩:=hx5
   obtain ⟨bo,bc,rfl⟩:=selfL.form hself
   have HX5:Hid (.ok (.mk 5 k [] [] b) l5=x):=Lh (by rw [← HX1.out,hn5];rfl)
   have HS:=Lh hself
   obtain ⟨-,q3,-,r3⟩:=hr5.cells
   obtain ⟨a0,a1,a2,a3,a4,f0,f1,f2,f3,f4⟩:=st5 HKd.out
   obtain ⟨b0,b1,b2,b3,b4,g0,g1',g2',g3,g4⟩:=st5 HK5.out
   have HR5:=Lh ((hr5.store (g:=w1.heap.size) (o:=4) (by have:=HRl.out;have:=HS1.out;omega) (.slice bo b.length bc)).lvl lev)
   have HP6:=Lh ((HP5.out.store (g:=w1.heap.size) (o:=4) (Nat.le_of_lt HS1.out) (.slice bo b.length bc)).trans (Pk.set R _ 3 (.int .i64 lev)))
   have HSm:Hid (Sm w4.heap.size w5 ((w5.setCell ⟨w1.heap.size,4,none⟩ (.slice bo b.length bc)).setCell ⟨R,3,none⟩ (.int .i64 lev))):=Lh (((Sm.refl _ _).store (Or.inl HZ4.out) _).store (Or.inl (by have:=HRl.out;have:=HS1.out;have:=HZ4.out;omega)) _)
   clear hp5 hr5 hn5 hself hc5
   go_wp2
   refine bodyPost_ret (v:=.agg #[.int .i64 5,.string X,.slice none 0 0,.slice none 0 0,.slice bo b.length bc]) (by simp [results,Tryz.results235,go_sem,b0,b1,b2,b3,b4]) rfl ?_
   refine Out.ok HX5.out (HP6.out.five (Nat.le_refl _) _ _ _ _ _) ⟨none,0,none,0,bo,bc,by rw [← HX.out];rfl,fun W hW=>⟨Nat.le_trans HKl.out (by decide),Prs.nil W,Prs.nil W,HS.out.sm (HSm.out.five (Or.inl (Nat.lt_trans HS1.out HZ4.out)) _ _ _ _ _) (Nat.le_of_lt (Nat.lt_trans HS1.out HZ4.out)) hW⟩⟩ (HR5.out.five HRl.out _ _ _ _ _)
def stX (d:Bool)(n dep:Nat)(l:List Tok):Rz St :=
 if isT 2 wNode l then dfltR wNode l.tail else if isT 2 wEdge l then dfltR wEdge l.tail else if isT 2 wSet l then setR l.tail else if isT 2 wClu l then cluR d n dep l.tail else chainR fmtL d l
theorem st_eq (d:Bool)(n dep:Nat)(l:List Tok)(h:l.length≤n):stmtF fmtL d n dep l=stX d (n - 1) dep l:=by
 cases n with
 | zero =>
  obtain rfl:l=[]:=List.length_eq_zero_iff.1 (by omega)
  rw [stmtF];rfl
 | succ n=>rw [stmtF];rfl
theorem VSt.up {s:St}{w w1 w2 w':World}{v:Value}(h:VSt s w1 w2 v)(hs:Sm w1.heap.size w2 w')(hl:w.heap.size≤w1.heap.size):VSt s w w' v:=by
 obtain ⟨ro,rc,ao,ac,bo,bc,e,h⟩:=h
 exact ⟨ro,rc,ao,ac,bo,bc,e,fun W hW=>h W (hs.agree hW hl)⟩
set_option maxRecDepth 100000 in
set_option maxHeartbeats 4000000 in
theorem statement_step (L:List Tok)(hL:Hid (TokL L))(R:Nat)(d:Bool)(A:ByteArray)(hA:bb (arrow d)=A)(n:Nat)(ih:Hid (BdOk L R d A n))(l:List Tok)(dep:Nat)(x:Rz St)(w:World)(hln:l.length≤n+1)(hdep:dep≤6)(h:Hid (Rd L R w l A (dep:Int)))(hx:Hid (stX d n dep l=x)) :
    Calls Tryz.prog 179 #[.pointer (some ⟨R,0,none⟩)] w (Out L R A (dep:Int) VSt w x):=by
 have HRl:=Lh h.out.lt
 have hR1:w.heap.size≠R:=by have:=HRl.out;omega
 have HLn:=Lh hln
 have HD:=Lh hdep
 have HA:=Lh hA
 have hclu:∀ (y:Rz St) (w':World),isT 2 wClu l=true→Hid (Rd L R w' l.tail A (dep:Int))→Hid (cluR d n dep l.tail=y)→Calls Tryz.prog 235 #[.pointer (some ⟨R,0,none⟩)] w' (Out L R A (dep:Int) VSt w' y):=fun y w' hc h1 h2=>cluster_step L hL R d A n ih l.tail dep y w' (by have:=(isT_cons' hc).2;omega) hdep h1 h2
 have HCl:=Lh hclu
 have hx0:(if isT 2 wNode l then dfltR wNode l.tail else if isT 2 wEdge l then dfltR wEdge l.tail else if isT 2 wSet l then setR l.tail else if isT 2 wClu l then cluR d n dep l.tail else chainR fmtL d l)=x:=hx.out
 have HX0:=Lh hx0
 have HKw:Hid (bb wNode=⟨#[110,111,100,101]⟩∧bb wEdge=⟨#[101,100,103,101]⟩):=Lh ⟨rfl,rfl⟩
 obtain ⟨lev,hlev⟩:∃ lev:Int,(dep:Int)=lev:=⟨_,rfl⟩
 rw [hlev] at h HCl ⊢
 have HK:=Lh (blk_new w stZ 67)
 have HB:=Lh (al1 w (.cells stZ 67))
 have HR0:=Lh (h.out.below HB.out)
 have HP0:=Lh (Pk.below (R:=R) HB.out)
 have HZ0:Hid (w.heap.size < (w.alloc (.cells stZ 67)).heap.size):=Lh (by simp)
 clear hln hdep hlev hA hclu hx0 HB
 generalize hw0:w.alloc (.cells stZ 67)=w0 at HK HR0 HP0 HZ0
 go_enter Tryz.func179,Tryz.ntmps179
 go_wp2_with fail
 clear hw0
 cases hb:isT 2 wNode l
 rotate_left
 ·have HCc:=Lh hb
  have HXq:Hid (dfltR wNode l.tail=x):=Lh (by have:=HX0.out;rwa [if_pos hb] at this)
  clear hb
  refine (accept_kw L hL R l l.tail A lev wNode _ true _ rfl HR0 (by decide) HCc (Lh rfl)).mono ?_
  rintro e wq ⟨rfl,hrq,hpq⟩
  have HRq:=Lh hrq
  have HPq:=Lh (HP0.out.trans hpq)
  have HKq:=Lh (hpq.blk hR1 HK.out)
  have HZq:Hid (w.heap.size < wq.heap.size):=Lh (Nat.lt_of_lt_of_le HZ0.out hpq.size)
  clear hrq hpq
  go_wp2_with fail
  refine (defaults_of L hL R l.tail A lev wNode _ rfl (by decide) _ _ HRq (Lh rfl)).mono ?_
  rintro e w9 ⟨hp9,hx9⟩
  have HP9:=Lh (HPq.out.trans hp9)
  have HK9:=Lh (hp9.blk hR1 HKq.out)
  rcases hn9:dfltR wNode l.tail with ⟨s,l9⟩ | ⟨c,l9⟩
  rotate_left
  ·rw [hn9] at hx9
   obtain rfl:=hx9
   exact ⟨rfl,Out.pn (by rw [← HXq.out,hn9]) HP9.out⟩
  rw [hn9] at hx9
  obtain ⟨v9,rfl,hv9,hr9⟩:=hx9
  obtain ⟨ro,rc,ao,ac,bo,bc,rfl,-⟩:=id hv9
  have HX9:Hid (.ok s l9=x):=Lh (by rw [← HXq.out,hn9])
  have HV:=Lh hv9
  have HR9:=Lh hr9
  obtain ⟨b0,b1,b2,b3,b4,g0,g1,g2,g3,g4⟩:=st5 HK9.out
  clear hp9 hr9 hn9 hv9
  obtain ⟨NM,hNM⟩:∃ q,bb s.name=q:=⟨_,rfl⟩
  rw [hNM] at HV ⊢
  clear hNM
  go_wp2
  refine bodyPost_ret (v:=.agg #[.int .i64 s.kind,.string NM,.slice ro s.refs.length rc,.slice ao s.attrs.length ac,.slice bo s.body.length bc]) (by simp [results,Tryz.results179,go_sem,b0,b1,b2,b3,b4]) rfl ?_
  exact Out.ok HX9.out (HP9.out.five (Nat.le_refl _) _ _ _ _ _) (HV.out.up ((Sm.refl _ _).five (Or.inl HZq.out) _ _ _ _ _) (Nat.le_of_lt HZq.out)) (HR9.out.five HRl.out _ _ _ _ _)
 have HCc:=Lh hb
 have HX1:Hid ((if isT 2 wEdge l then dfltR wEdge l.tail else if isT 2 wSet l then setR l.tail else if isT 2 wClu l then cluR d n dep l.tail else chainR fmtL d l)=x):=Lh (by have:=HX0.out;rwa [if_neg (by rw [hb];decide)] at this)
 clear hb
 refine (accept_kw L hL R l l A lev wNode _ false _ rfl HR0 (by decide) HCc (Lh rfl)).mono ?_
 rintro e w1 ⟨rfl,hrq,hpq⟩
 have HR1:=Lh hrq
 have HP1:=Lh (HP0.out.trans hpq)
 have HK1:=Lh (hpq.blk hR1 HK.out)
 have HZ1:Hid (w.heap.size < w1.heap.size):=Lh (Nat.lt_of_lt_of_le HZ0.out hpq.size)
 clear hrq hpq HX0 HR0 HP0 HK HZ0 HCc
 go_wp2_with fail
 cases hb:isT 2 wEdge l
 rotate_left
 ·have HCc:=Lh hb
  have HXq:Hid (dfltR wEdge l.tail=x):=Lh (by have:=HX1.out;rwa [if_pos hb] at this)
  clear hb
  refine (accept_kw L hL R l l.tail A lev wEdge _ true _ rfl HR1 (by decide) HCc (Lh rfl)).mono ?_
  rintro e wq ⟨rfl,hrq,hpq⟩
  have HRq:=Lh hrq
  have HPq:=Lh (HP1.out.trans hpq)
  have HKq:=Lh (hpq.blk hR1 HK1.out)
  have HZq:Hid (w.heap.size < wq.heap.size):=Lh (Nat.lt_of_lt_of_le HZ1.out hpq.size)
  clear hrq hpq
  go_wp2_with fail
  refine (defaults_of L hL R l.tail A lev wEdge _ rfl (by decide) _ _ HRq (Lh rfl)).mono ?_
  rintro e w9 ⟨hp9,hx9⟩
  have HP9:=Lh (HPq.out.trans hp9)
  have HK9:=Lh (hp9.blk hR1 HKq.out)
  rcases hn9:dfltR wEdge l.tail with ⟨s,l9⟩ | ⟨c,l9⟩
  rotate_left
  ·rw [hn9] at hx9
   obtain rfl:=hx9
   exact ⟨rfl,Out.pn (by rw [← HXq.out,hn9]) HP9.out⟩
  rw [hn9] at hx9
  obtain ⟨v9,rfl,hv9,hr9⟩:=hx9
  obtain ⟨ro,rc,ao,ac,bo,bc,rfl,-⟩:=id hv9
  have HX9:Hid (.ok s l9=x):=Lh (by rw [← HXq.out,hn9])
  have HV:=Lh hv9
  have HR9:=Lh hr9
  obtain ⟨b0,b1,b2,b3,b4,g0,g1,g2,g3,g4⟩:=st5 HK9.out
  clear hp9 hr9 hn9 hv9
  obtain ⟨NM,hNM⟩:∃ q,bb s.name=q:=⟨_,rfl⟩
  rw [hNM] at HV ⊢
  clear hNM
  go_wp2
  refine bodyPost_ret (v:=.agg #[.int .i64 s.kind,.string NM,.slice ro s.refs.length rc,.slice ao s.attrs.length ac,.slice bo s.body.length bc]) (by simp [results,Tryz.results179,go_sem,b0,b1,b2,b3,b4]) rfl ?_
  exact Out.ok HX9.out (HP9.out.five (Nat.le_refl _) _ _ _ _ _) (HV.out.up ((Sm.refl _ _).five (Or.inl HZq.out) _ _ _ _ _) (Nat.le_of_lt HZq.out)) (HR9.out.five HRl.out _ _ _ _ _)
 have HCc:=Lh hb
 have HX2:Hid ((if isT 2 wSet l then setR l.tail else if isT 2 wClu l then cluR d n dep l.tail else chainR fmtL d l)=x):=Lh (by have:=HX1.out;rwa [if_neg (by rw [hb];decide)] at this)
 clear hb
 refine (accept_kw L hL R l l A lev wEdge _ false _ rfl HR1 (by decide) HCc (Lh rfl)).mono ?_
 rintro e w2 ⟨rfl,hrq,hpq⟩
 have HR2:=Lh hrq
 have HP2:=Lh (HP1.out.trans hpq)
 have HK2:=Lh (hpq.blk hR1 HK1.out)
 have HZ2:Hid (w.heap.size < w2.heap.size):=Lh (Nat.lt_of_lt_of_le HZ1.out hpq.size)
 clear hrq hpq HX1 HR1 HP1 HK1 HZ1 HCc
 go_wp2_with fail
 cases hb:isT 2 wSet l
 rotate_left
 ·have HCc:=Lh hb
  have HXq:Hid (setR l.tail=x):=Lh (by have:=HX2.out;rwa [if_pos hb] at this)
  clear hb
  refine (accept_kw L hL R l l.tail A lev wSet _ true _ rfl HR2 (by decide) HCc (Lh rfl)).mono ?_
  rintro e wq ⟨rfl,hrq,hpq⟩
  have HRq:=Lh hrq
  have HPq:=Lh (HP2.out.trans hpq)
  have HKq:=Lh (hpq.blk hR1 HK2.out)
  have HZq:Hid (w.heap.size < wq.heap.size):=Lh (Nat.lt_of_lt_of_le HZ2.out hpq.size)
  clear hrq hpq
  go_wp2_with fail
  refine (set_of L hL R l.tail A lev _ _ HRq (Lh rfl)).mono ?_
  rintro e w9 ⟨hp9,hx9⟩
  have HP9:=Lh (HPq.out.trans hp9)
  have HK9:=Lh (hp9.blk hR1 HKq.out)
  rcases hn9:setR l.tail with ⟨s,l9⟩ | ⟨c,l9⟩
  rotate_left
  ·rw [hn9] at hx9
   obtain rfl:=hx9
   exact ⟨rfl,Out.pn (by rw [← HXq.out,hn9]) HP9.out⟩
  rw [hn9] at hx9
  obtain ⟨v9,rfl,hv9,hr9⟩:=hx9
  obtain ⟨ro,rc,ao,ac,bo,bc,rfl,-⟩:=id hv9
  have HX9:Hid (.ok s l9=x):=Lh (by rw [← HXq.out,hn9])
  have HV:=Lh hv9
  have HR9:=Lh hr9
  obtain ⟨b0,b1,b2,b3,b4,g0,g1,g2,g3,g4⟩:=st5 HK9.out
  clear hp9 hr9 hn9 hv9
  obtain ⟨NM,hNM⟩:∃ q,bb s.name=q:=⟨_,rfl⟩
  rw [hNM] at HV ⊢
  clear hNM
  go_wp2
  refine bodyPost_ret (v:=.agg #[.int .i64 s.kind,.string NM,.slice ro s.refs.length rc,.slice ao s.attrs.length ac,.slice bo s.body.length bc]) (by simp [results,Tryz.results179,go_sem,b0,b1,b2,b3,b4]) rfl ?_
  exact Out.ok HX9.out (HP9.out.five (Nat.le_refl _) _ _ _ _ _) (HV.out.up ((Sm.refl _ _).five (Or.inl HZq.out) _ _ _ _ _) (Nat.le_of_lt HZq.out)) (HR9.out.five HRl.out _ _ _ _ _)
 have HCc:=Lh hb
 have HX3:Hid ((if isT 2 wClu l then cluR d n dep l.tail else chainR fmtL d l)=x):=Lh (by have:=HX2.out;rwa [if_neg (by rw [hb];decide)] at this)
 clear hb
 refine (accept_kw L hL R l l A lev wSet _ false _ rfl HR2 (by decide) HCc (Lh rfl)).mono ?_
 rintro e w3 ⟨rfl,hrq,hpq⟩
 have HR3:=Lh hrq
 have HP3:=Lh (HP2.out.trans hpq)
 have HK3:=Lh (hpq.blk hR1 HK2.out)
 have HZ3:Hid (w.heap.size < w3.heap.size):=Lh (Nat.lt_of_lt_of_le HZ2.out hpq.size)
 clear hrq hpq HX2 HR2 HP2 HK2 HZ2 HCc
 go_wp2_with fail
 cases hb:isT 2 wClu l
 rotate_left
 ·have HCc:=Lh hb
  have HXq:Hid (cluR d n dep l.tail=x):=Lh (by have:=HX3.out;rwa [if_pos hb] at this)
  clear hb
  refine (accept_kw L hL R l l.tail A lev wClu _ true _ rfl HR3 (by decide) HCc (Lh rfl)).mono ?_
  rintro e wq ⟨rfl,hrq,hpq⟩
  have HRq:=Lh hrq
  have HPq:=Lh (HP3.out.trans hpq)
  have HKq:=Lh (hpq.blk hR1 HK3.out)
  have HZq:Hid (w.heap.size < wq.heap.size):=Lh (Nat.lt_of_lt_of_le HZ3.out hpq.size)
  clear hrq hpq
  go_wp2_with fail
  refine (HCl.out _ _ HCc.out HRq (Lh rfl)).mono ?_
  rintro e w9 ⟨hp9,hx9⟩
  have HP9:=Lh (HPq.out.trans hp9)
  have HK9:=Lh (hp9.blk hR1 HKq.out)
  rcases hn9:cluR d n dep l.tail with ⟨s,l9⟩ | ⟨c,l9⟩
  rotate_left
  ·rw [hn9] at hx9
   obtain rfl:=hx9
   exact ⟨rfl,Out.pn (by rw [← HXq.out,hn9]) HP9.out⟩
  rw [hn9] at hx9
  obtain ⟨v9,rfl,hv9,hr9⟩:=hx9
  obtain ⟨ro,rc,ao,ac,bo,bc,rfl,-⟩:=id hv9
  have HX9:Hid (.ok s l9=x):=Lh (by rw [← HXq.out,hn9])
  have HV:=Lh hv9
  have HR9:=Lh hr9
  obtain ⟨b0,b1,b2,b3,b4,g0,g1,g2,g3,g4⟩:=st5 HK9.out
  clear hp9 hr9 hn9 hv9
  obtain ⟨NM,hNM⟩:∃ q,bb s.name=q:=⟨_,rfl⟩
  rw [hNM] at HV ⊢
  clear hNM
  go_wp2
  refine bodyPost_ret (v:=.agg #[.int .i64 s.kind,.string NM,.slice ro s.refs.length rc,.slice ao s.attrs.length ac,.slice bo s.body.length bc]) (by simp [results,Tryz.results179,go_sem,b0,b1,b2,b3,b4]) rfl ?_
  exact Out.ok HX9.out (HP9.out.five (Nat.le_refl _) _ _ _ _ _) (HV.out.up ((Sm.refl _ _).five (Or.inl HZq.out) _ _ _ _ _) (Nat.le_of_lt HZq.out)) (HR9.out.five HRl.out _ _ _ _ _)
 have HCc:=Lh hb
 have HX4:Hid ((chainR fmtL d l)=x):=Lh (by have:=HX3.out;rwa [if_neg (by rw [hb];decide)] at this)
 clear hb
 refine (accept_kw L hL R l l A lev wClu _ false _ rfl HR3 (by decide) HCc (Lh rfl)).mono ?_
 rintro e w4 ⟨rfl,hrq,hpq⟩
 have HR4:=Lh hrq
 have HP4:=Lh (HP3.out.trans hpq)
 have HK4:=Lh (hpq.blk hR1 HK3.out)
 have HZ4:Hid (w.heap.size < w4.heap.size):=Lh (Nat.lt_of_lt_of_le HZ3.out hpq.size)
 clear hrq hpq HX3 HR3 HP3 HK3 HZ3 HCc
 go_wp2_with fail
 refine (nodeOrEdge_of L hL R l d A HA.out lev _ _ HR4 (Lh rfl)).mono ?_
 rintro e w9 ⟨hp9,hx9⟩
 have HP9:=Lh (HP4.out.trans hp9)
 have HK9:=Lh (hp9.blk hR1 HK4.out)
 rcases hn9:chainR fmtL d l with ⟨s,l9⟩ | ⟨c,l9⟩
 rotate_left
 ·rw [hn9] at hx9
  obtain rfl:=hx9
  exact ⟨rfl,Out.pn (by rw [← HX4.out,hn9]) HP9.out⟩
 rw [hn9] at hx9
 obtain ⟨v9,rfl,hv9,hr9⟩:=hx9
 obtain ⟨ro,rc,ao,ac,bo,bc,rfl,-⟩:=id hv9
 have HX9:Hid (.ok s l9=x):=Lh (by rw [← HX4.out,hn9])
 have HV:=Lh hv9
 have HR9:=Lh hr9
 obtain ⟨b0,b1,b2,b3,b4,g0,g1,g2,g3,g4⟩:=st5 HK9.out
 clear hp9 hr9 hn9 hv9
 obtain ⟨NM,hNM⟩:∃ q,bb s.name=q:=⟨_,rfl⟩
 rw [hNM] at HV ⊢
 clear hNM
 go_wp2
 refine bodyPost_ret (v:=.agg #[.int .i64 s.kind,.string NM,.slice ro s.refs.length rc,.slice ao s.attrs.length ac,.slice bo s.body.length bc]) (by simp [results,Tryz.results179,go_sem,b0,b1,b2,b3,b4]) rfl ?_
 exact Out.ok HX9.out (HP9.out.five (Nat.le_refl _) _ _ _ _ _) (HV.out.up ((Sm.refl _ _).five (Or.inl HZ4.out) _ _ _ _ _) (Nat.le_of_lt HZ4.out)) (HR9.out.five HRl.out _ _ _ _ _)
theorem st_ok (L:List Tok)(hL:Hid (TokL L))(R:Nat)(d:Bool)(A:ByteArray)(hA:bb (arrow d)=A):∀ n,StOk L R d A n:=by
 intro n
 induction n using Nat.strongRecOn with
 | _ n ih =>
  intro l dep x w hl hd h hx
  have hB:BdOk L R d A (n - 1):=body_step L hL R d A (n - 1) (Lh fun m hm=>ih m (by omega))
  exact statement_step L hL R d A hA (n - 1) (Lh hB) l dep x w (by omega) hd h (Lh (by rw [← st_eq d n dep l hl];exact hx.out))
theorem bd_ok (L:List Tok)(hL:Hid (TokL L))(R:Nat)(d:Bool)(A:ByteArray)(hA:bb (arrow d)=A)(n:Nat):BdOk L R d A n:=body_step L hL R d A n (Lh fun m _=>st_ok L hL R d A hA m)
def VTr (T:Tr)(w w':World)(v:Value):Prop:=∃ bo bc,v=.agg #[.string (bb T.name),.bool T.dir,.slice bo T.body.length bc]∧T.name.length≤maxLen∧selfL w.heap.size w' (.slice bo T.body.length bc) T.body
def restR (d:Bool)(q:List Tok):Rz Tr:=(nameR q).bnd fun x l=>(bodyR d (l.tail.length+1) 0 l).bnd fun b l=>.ok ⟨x,d,b⟩ l
theorem tree_eq (l:List Tok):treeR fmtL l=if isT 2 (wDir true) l then restR true l.tail else if isT 2 (wDir false) l then restR false l.tail else .er 4 l:=by
 have key:∀ d,((nameR l.tail).bnd fun x l'=>(wantM [123] l').bnd fun _ l'=>(stmtsF fmtL d (l'.length+1) 0 l').bnd fun b l'=>.ok (⟨x,d,b⟩:Tr) l')=restR d l.tail:=by
  intro d
  unfold restR
  congr 1
  funext x l'
  unfold bodyR wantM
  split
  ·rw [bnd_ok,bnd_ok]
  ·rfl
 unfold treeR
 cases h1:isT 2 (wDir true) l
 ·cases h2:isT 2 (wDir false) l
  ·rfl
  ·exact key false
 ·exact key true
theorem tr3 {W:World}{g:Nat}{t:TypeId}{a b c:Value}(h:blk W g t #[a,b,c]):W.cell? ⟨g,0,none⟩=some a∧W.cell? ⟨g,1,none⟩=some b∧W.cell? ⟨g,2,none⟩=some c ∧
    W.frozen? ⟨g,0,none⟩=false∧W.frozen? ⟨g,1,none⟩=false∧W.frozen? ⟨g,2,none⟩=false:=by
 refine ⟨?_,?_,?_,blk_free h,blk_free h,blk_free h⟩ <;> rw [blk_cell h] <;> rfl
abbrev trZ:Array Value:=#[.string ⟨#[]⟩,.bool false,.slice none 0 0]
set_option maxRecDepth 100000 in
set_option maxHeartbeats 4000000 in
theorem tree_of (L:List Tok)(hL:Hid (TokL L))(R:Nat)(l:List Tok)(A:ByteArray)(x:Rz Tr)(w:World)(h:Hid (Rd L R w l A 0))(hx:Hid (treeR fmtL l=x)) :
    Calls Tryz.prog 53 #[.pointer (some ⟨R,0,none⟩)] w fun e w'=>∃ A',Out L R A' 0 VTr w x e w':=by
 have HRl:=Lh h.out.lt
 have hR1:w.heap.size≠R:=by have:=HRl.out;omega
 have HK:=Lh (blk_new w trZ 33)
 have HB:=Lh (al1 w (.cells trZ 33))
 have HZ0:Hid ((w.alloc (.cells trZ 33)).heap.size=w.heap.size+1):=Lh (by simp)
 have hx0:=hx.out
 rw [tree_eq] at hx0
 have HX0:=Lh hx0
 clear hx0
 go_enter Tryz.func53,Tryz.ntmps53
 go_wp2_with fail
 cases hd:isT 2 (wDir true) l
 case' false =>
  have HDd:=Lh hd
  have HX1:Hid ((if isT 2 (wDir false) l then restR false l.tail else .er 4 l)=x):=Lh (by have:=HX0.out;rwa [if_neg (by rw [hd];decide)] at this)
  clear hd
  refine (accept_kw L hL R l l A 0 (wDir true) _ false _ rfl (Lh (h.out.below HB.out)) (by decide) HDd (Lh rfl)).mono ?_
  rintro e w1 ⟨rfl,hr1,hp1⟩
  have HP1:=Lh ((Pk.below (R:=R) HB.out).trans hp1)
  have HK1:=Lh (hp1.blk hR1 HK.out)
  have HS1:Hid (w.heap.size < w1.heap.size):=Lh (by have:=hp1.size;have:=HZ0.out;omega)
  have hR2:w1.heap.size≠R:=by have:=HRl.out;have:=HS1.out;omega
  have hne:w.heap.size≠w1.heap.size:=by have:=HS1.out;omega
  have hal:=al1 w1 (.cells #[.string ⟨#[]⟩,.bool false,.slice none 0 0] 33)
  have HR2:=Lh ((hr1.below hal).arr ⟨#[45,62]⟩)
  have HP2:=Lh ((HP1.out.trans (Pk.below hal)).trans (Pk.set R _ 2 (.string ⟨#[45,62]⟩)))
  have HK2:=Lh (blk_far (o:=2) ((Pk.below (R:=R) hal).blk hR1 HK1.out) hR1 (.string ⟨#[45,62]⟩))
  have HKa:=Lh (blk_far (o:=2) (blk_new w1 #[.string ⟨#[]⟩,.bool false,.slice none 0 0] 33) hR2 (.string ⟨#[45,62]⟩))
  have HZ2:Hid (w1.heap.size < ((w1.alloc (.cells #[.string ⟨#[]⟩,.bool false,.slice none 0 0] 33)).setCell ⟨R,2,none⟩ (.string ⟨#[45,62]⟩)).heap.size):=Lh (by simp [World.setCell])
  obtain ⟨q2,-,r2,-⟩:=(hr1.below hal).cells
  clear hr1 hp1 hal
  go_wp2_with fail
  generalize (w1.alloc (.cells #[.string ⟨#[]⟩,.bool false,.slice none 0 0] 33)).setCell ⟨R,2,none⟩ (.string ⟨#[45,62]⟩)=w2 at HR2 HP2 HK2 HKa HZ2 ⊢
  clear q2 r2
  cases hg:isT 2 (wDir false) l
  ·refine (expect_of L R l ⟨#[45,62]⟩ 0 (wDir false) _ _ HR2 (Lh rfl)).mono ?_
   rintro e w3 ⟨hp3,hx3⟩
   rw [sees_kw hL.out h.out.suf (by decide),hg] at hx3
   obtain rfl:=hx3
   exact ⟨rfl,A,Out.pn (by have:=HX1.out;rwa [if_neg (by rw [hg];decide)] at this) (HP2.out.trans hp3)⟩
  have HX3:Hid (restR false l.tail=x):=Lh (by have:=HX1.out;rwa [if_pos hg] at this)
  refine (expect_of L R l ⟨#[45,62]⟩ 0 (wDir false) _ _ HR2 (Lh rfl)).mono ?_
  rintro e w3 ⟨hp3,hx3⟩
  rw [sees_kw hL.out h.out.suf (by decide),hg] at hx3
  obtain ⟨v3,rfl,rfl,hr3⟩:=hx3
  obtain ⟨q2,-,r2,-⟩:=hr3.cells
  have HR4:=Lh (hr3.arr ⟨#[45,45]⟩)
  have HP4:=Lh ((HP2.out.trans hp3).trans (Pk.set R _ 2 (.string ⟨#[45,45]⟩)))
  have HK4:=Lh (blk_far (o:=2) (hp3.blk hR1 HK2.out) hR1 (.string ⟨#[45,45]⟩))
  have HKb:=Lh (blk_far (o:=2) (hp3.blk hR2 HKa.out) hR2 (.string ⟨#[45,45]⟩))
  have HZ4:Hid (w1.heap.size < (w3.setCell ⟨R,2,none⟩ (.string ⟨#[45,45]⟩)).heap.size):=Lh (by have:=hp3.size;have:=HZ2.out;simp [World.setCell];omega)
  have HAr:Hid (bb (arrow false)=⟨#[45,45]⟩):=Lh rfl
  clear hr3 hp3 hg
  go_wp2_with fail
  generalize w3.setCell ⟨R,2,none⟩ (.string ⟨#[45,45]⟩)=w4 at HR4 HP4 HK4 HKb HZ4 ⊢
  clear q2 r2 HR2 HP2 HK2 HKa HZ2 HX1 HDd
  obtain ⟨B,hB⟩:∃ q:ByteArray,⟨#[45,45]⟩=q:=⟨_,rfl⟩
  rw [hB] at HR4 HAr
  obtain ⟨d,hd⟩:∃ q:Bool,false=q:=⟨_,rfl⟩
  rw [hd] at HX3 HAr HKb
  clear hB hd
 case' true =>
  have HDd:=Lh hd
  have HX3:Hid (restR true l.tail=x):=Lh (by have:=HX0.out;rwa [if_pos hd] at this)
  clear hd
  refine (accept_kw L hL R l l.tail A 0 (wDir true) _ true _ rfl (Lh (h.out.below HB.out)) (by decide) HDd (Lh rfl)).mono ?_
  rintro e w1 ⟨rfl,hr1,hp1⟩
  have HP1:=Lh ((Pk.below (R:=R) HB.out).trans hp1)
  have HK1:=Lh (hp1.blk hR1 HK.out)
  have HS1:Hid (w.heap.size < w1.heap.size):=Lh (by have:=hp1.size;have:=HZ0.out;omega)
  have hR2:w1.heap.size≠R:=by have:=HRl.out;have:=HS1.out;omega
  have hne:w.heap.size≠w1.heap.size:=by have:=HS1.out;omega
  have hal:=al1 w1 (.cells #[.string ⟨#[]⟩,.bool true,.slice none 0 0] 33)
  have HR4:=Lh ((hr1.below hal).arr ⟨#[45,62]⟩)
  have HP4:=Lh ((HP1.out.trans (Pk.below hal)).trans (Pk.set R _ 2 (.string ⟨#[45,62]⟩)))
  have HK4:=Lh (blk_far (o:=2) ((Pk.below (R:=R) hal).blk hR1 HK1.out) hR1 (.string ⟨#[45,62]⟩))
  have HKb:=Lh (blk_far (o:=2) (blk_new w1 #[.string ⟨#[]⟩,.bool true,.slice none 0 0] 33) hR2 (.string ⟨#[45,62]⟩))
  have HZ4:Hid (w1.heap.size < ((w1.alloc (.cells #[.string ⟨#[]⟩,.bool true,.slice none 0 0] 33)).setCell ⟨R,2,none⟩ (.string ⟨#[45,62]⟩)).heap.size):=Lh (by simp [World.setCell])
  have HAr:Hid (bb (arrow true)=⟨#[45,62]⟩):=Lh rfl
  obtain ⟨q2,-,r2,-⟩:=(hr1.below hal).cells
  clear hr1 hp1 hal
  go_wp2_with fail
  generalize (w1.alloc (.cells #[.string ⟨#[]⟩,.bool true,.slice none 0 0] 33)).setCell ⟨R,2,none⟩ (.string ⟨#[45,62]⟩)=w4 at HR4 HP4 HK4 HKb HZ4 ⊢
  clear q2 r2 HDd
  obtain ⟨B,hB⟩:∃ q:ByteArray,⟨#[45,62]⟩=q:=⟨_,rfl⟩
  rw [hB] at HR4 HAr
  obtain ⟨d,hd⟩:∃ q:Bool,true=q:=⟨_,rfl⟩
  rw [hd] at HX3 HAr HKb
  clear hB hd
 all_goals
  refine (name_of L hL R l.tail B 0 _ _ HR4 (Lh rfl)).mono ?_
  rintro e w5 ⟨hp5,hx5⟩
  have HP5:=Lh (HP4.out.trans hp5)
  have HK5:=Lh (hp5.blk hR1 HK4.out)
  have HKc:=Lh (hp5.blk hR2 HKb.out)
  rcases hn5:nameR l.tail with ⟨k,l5⟩ | ⟨c,l5⟩
  rotate_left
  ·rw [hn5] at hx5
   obtain rfl:=hx5
   exact ⟨rfl,B,Out.pn (by rw [← HX3.out];unfold restR;rw [hn5];rfl) HP5.out⟩
  rw [hn5] at hx5
  obtain ⟨v5,rfl,⟨rfl,hk1⟩,hr5⟩:=hx5
  obtain ⟨X,hX⟩:∃ X,bb k=X:=⟨_,rfl⟩
  rw [hX]
  have HX:=Lh hX
  have HKl:=Lh hk1
  have HX5:Hid (((bodyR d (l5.tail.length+1) 0 l5).bnd fun b l=>.ok ⟨k,d,b⟩ l)=x):=Lh (by rw [← HX3.out];unfold restR;rw [hn5];rfl)
  obtain ⟨a0,a1,a2,f0,f1,f2⟩:=tr3 HKc.out
  have HR6:=Lh (hr5.store (g:=w1.heap.size) (o:=0) (by have:=HRl.out;have:=HS1.out;omega) (.string X))
  have HP6:=Lh (HP5.out.store (g:=w1.heap.size) (o:=0) (Nat.le_of_lt HS1.out) (.string X))
  have HK6:=Lh (blk_far (o:=0) HK5.out hne (.string X))
  have HKd:Hid (blk (w5.setCell ⟨w1.heap.size,0,none⟩ (.string X)) w1.heap.size 33 #[.string X,.bool d,.slice none 0 0]):=Lh (blk_set (o:=0) HKc.out (.string X))
  have HZ6:Hid (w1.heap.size < (w5.setCell ⟨w1.heap.size,0,none⟩ (.string X)).heap.size):=Lh (by have:=hp5.size;have:=HZ4.out;simp [World.setCell];omega)
  clear hp5 hr5 hn5 hX hk1
  go_wp2_with fail
  generalize w5.setCell ⟨w1.heap.size,0,none⟩ (.string X)=w6 at HR6 HP6 HK6 HKd HZ6 ⊢
  clear a0 a1 a2 f0 f1 f2
  refine (bd_ok L hL R d B HAr.out (l5.tail.length+1) l5 0 _ w6 (by rw [List.length_tail];omega) (Or.inl (by decide)) HR6 (Lh rfl)).mono ?_
  rintro e w7 ⟨hp7,hx7⟩
  have HP7:=Lh (HP6.out.trans hp7)
  have HK7:=Lh (hp7.blk hR1 HK6.out)
  have HKe:=Lh (hp7.blk hR2 HKd.out)
  rcases hn7:bodyR d (l5.tail.length+1) 0 l5 with ⟨b,l7⟩ | ⟨c,l7⟩
  rotate_left
  ·rw [hn7] at hx7
   obtain rfl:=hx7
   exact ⟨rfl,B,Out.pn (by rw [← HX5.out,hn7];rfl) HP7.out⟩
  rw [hn7] at hx7
  obtain ⟨v7,rfl,hself,hr7⟩:=hx7
  obtain ⟨bo,bc,rfl⟩:=selfL.form hself
  have HX7:Hid (.ok ⟨k,d,b⟩ l7=x):=Lh (by rw [← HX5.out,hn7];rfl)
  have HS:=Lh hself
  have HR7:=Lh hr7
  obtain ⟨a0,a1,a2,f0,f1,f2⟩:=tr3 HKe.out
  obtain ⟨b0,b1,b2,g0,g1,g2⟩:=tr3 HK7.out
  clear hp7 hr7 hn7 hself
  go_wp2
  refine bodyPost_ret (v:=.agg #[.string X,.bool d,.slice bo b.length bc]) (by simp [results,Tryz.results53,go_sem,b0,b1,b2]) rfl ?_
  refine ⟨B,Out.ok HX7.out ((((HP7.out.store (Nat.le_of_lt HS1.out) _).store (Nat.le_refl _) _).store (Nat.le_refl _) _).store (Nat.le_refl _) _) ⟨bo,bc,by rw [← HX.out],Nat.le_trans HKl.out (by decide),fun W hW=>HS.out.sm (((((Sm.refl _ _).store (Or.inl HZ6.out) _).store (Or.inl (Nat.lt_trans HS1.out HZ6.out)) _).store (Or.inl (Nat.lt_trans HS1.out HZ6.out)) _).store (Or.inl (Nat.lt_trans HS1.out HZ6.out)) _) (Nat.le_of_lt (Nat.lt_trans HS1.out HZ6.out)) hW⟩ ((((HR7.out.store (by have:=HRl.out;have:=HS1.out;omega) _).store HRl.out _).store HRl.out _).store HRl.out _)⟩
end Go.Proofs.YtgmidodmmlmmeaaGreatDoor.par
