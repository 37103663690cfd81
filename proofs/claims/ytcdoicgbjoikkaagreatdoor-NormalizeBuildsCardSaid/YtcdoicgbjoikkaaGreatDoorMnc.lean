/-
  What slices.Index of the library returns over attributes: the place of the first equal one, or -1. Condition: the list lies in memory.
  What mode of the landed code of layer 12 returns: the number of the last attribute that names a mode. Condition: a list's length.
  The machine of the reference of layer 12 in memory: its box, its rows, what its calls leave alone. No condition.
  The landed code's builder in memory (layer 12): its box, its rows, its two maps, what its calls leave alone. No condition.
-/
import Derived.Test.YtcdoicgbjoikkaaGreatDoorMnb
namespace Go.Proofs.YtcdoicgbjoikkaaGreatDoor.nor
open Go.RowKit lex tre att
def idxP:List Pr→Pr→Int→Int
 | [],_,_=>-1
 | a :: t,x,i=>if x=a then i else idxP t x (i+1)
theorem box2_new (w:World)(x:Pr)(t:TypeId):(w.alloc (.cells #[.string (bb x.1),.string (bb x.2)] t)).cell? ⟨w.heap.size,0,none⟩=some (.string (bb x.1))∧(w.alloc (.cells #[.string (bb x.1),.string (bb x.2)] t)).cell? ⟨w.heap.size,1,none⟩=some (.string (bb x.2)):=by
 refine ⟨?_,?_⟩ <;> go_simp
set_option maxRecDepth 100000 in
set_option maxHeartbeats 1000000 in
theorem idx_of (v:Value)(l:List Pr)(x:Pr)(n:Int)(w:World)(h:Hid (Prs w v l))(hn:Hid (idxP l x 0=n)) :
    Calls Tryz.prog 77 #[v,.agg #[.string (bb x.1),.string (bb x.2)]] w fun e w'=>e=.returned (.int .i64 n)∧Below w.heap.size w w':=by
 have hmx:Tryz.prog.follows .mixedOrders=true:=by kernel_rfl
 obtain ⟨ao,cap,rfl,hc1,hm1,_⟩:=id h.out
 unfold maxLen at hm1
 have hlm:l.length≤9223372036854775807:=by omega
 have hga:=guard_att
 have HP0:=Lh (h.out.keep (al1 w (.cells #[.string (bb x.1),.string (bb x.2)] 82)))
 have hx:=box2_new w x 82
 have HB0:=Lh (al1 w (.cells #[.string (bb x.1),.string (bb x.2)] 82))
 clear hc1 hm1 h
 go_enter Tryz.func77,Tryz.ntmps77
 go_wp2_with fail
 generalize w.alloc (.cells #[.string (bb x.1),.string (bb x.2)] 82)=w1 at *
 go_loopw [5,8] (fun _ iv wr=>∃ i:Nat,iv=.int .i64 i∧i≤l.length∧idxP (l.drop i) x i=n∧Below w1.heap.size w1 wr) (fun _ iv _=>l.length - (intOf iv).toNat)
 case atStart=>exact ⟨0,rfl,Nat.zero_le _,hn.out,Below.refl _ _⟩
 case round =>
  obtain ⟨i,rfl,hi,hfe,hbl⟩:=hrel
  rename World=>wr
  have HBl:=Lh hbl
  have c0:=cell_keep hbl hx.1
  have c1:=cell_keep hbl hx.2
  clear hbl
  by_cases hlt:i < l.length
  case neg =>
   obtain rfl:i=l.length:=by omega
   rw [List.drop_length] at hfe
   have he:(-1:Int)=n:=hfe
   subst he
   have HBF:=Lh (below_keep HBl.out HB0.out)
   clear HBl hx
   go_wp2
   go_ret
   exact ⟨rfl,HBF.out⟩
  obtain ⟨A,rfl,q0,q1,-,-⟩:=(HP0.out.keep HBl.out).get hlt
  rw [List.drop_eq_getElem_cons hlt,idxP] at hfe
  obtain ⟨u,hu⟩:∃ u,l[i]=u:=⟨_,rfl⟩
  rw [hu] at q0 q1 hfe
  have i0:(0:Int)≤(i:Int):=by omega
  have i1:(i:Int) < (l.length:Int):=by omega
  obtain ⟨dq,hdq⟩:∃ b,decide (x=u)=b:=⟨_,rfl⟩
  have heq:=eql_att x u dq (Lh hdq)
  have HF:Hid ((if dq=true then (i:Int) else idxP (l.drop (i+1)) x ((i:Int)+1))=n):=Lh (by rw [← hfe,← hdq];by_cases e:x=u <;> simp [e])
  clear hu hfe hdq hx
  go_wp2_with fail
  go_quiet (fail)
  have HB3:=Lh (below_keep (drew_n wr nq) HBl.out)
  clear c0 c1 q0 q1
  generalize wr.drewN nq=w3 at HB3 ⊢
  cases dq
  ·have hf:=HF.out
   rw [if_neg (by simp)] at hf
   have HF3:=Lh hf
   clear hf HF heq
   go_wp2
   go_roundw
   case rel=>exact ⟨i+1,by go_num,by omega,by have h:=HF3.out;rw [show ((i:Int)+1)=((i+1:Nat):Int) from rfl] at h;exact h,HB3.out⟩
   case measure=>simp [intOf];omega
  ·have hf:=HF.out
   rw [if_pos rfl] at hf
   subst hf
   have HBF:=Lh (below_keep HB3.out HB0.out)
   clear heq HF
   go_wp2
   go_ret
   exact ⟨rfl,HBF.out⟩
attribute [local go_sem] Oper.semAt_some
def modesP:List Pr:=[(wMode,[108,97,121,101,114,101,100]),(wMode,[111,114,116,104,111,103,111,110,97,108]),(wMode,[115,116,114,97,105,103,104,116]),(wMode,[116,105,100,121]),(wMode,[114,97,100,105,97,108])]
theorem idx_mode (a:Pr):idxP modesP a 0=if a.1=wMode then modeL a.2 else -1:=by
 obtain ⟨k,v⟩:=a
 rw [mode_lit]
 unfold modesP
 by_cases h:k=wMode
 ·subst h
  simp only [idxP,Prod.mk.injEq,true_and,if_true]
  rfl
 ·simp only [idxP,Prod.mk.injEq,h,false_and,if_false]
def mdR:List Pr→Int
 | []=>0
 | a :: t=>if idxP modesP a 0≠-1 then idxP modesP a 0 else mdR t
def mdB (l:List Pr):Int:=mdR l.reverse
theorem mdB_snoc (l:List Pr)(a:Pr):mdB (l ++ [a])=if idxP modesP a 0≠-1 then idxP modesP a 0 else mdB l:=by
 unfold mdB
 rw [List.reverse_append,List.reverse_singleton,List.singleton_append,mdR]
theorem mdB_get:∀ (r:List Pr),(∀ a∈r,a.1=wMode→0≤modeL a.2)→mdR r=if modeL (getL r.reverse wMode).1 < 0 then 0 else modeL (getL r.reverse wMode).1
 | [],_=>by simp [mdR,getL,mode_lit]
 | a :: t,h=>by
  have ih:=mdB_get t (fun b hb=>h b (List.mem_cons_of_mem _ hb))
  rw [mdR,idx_mode,List.reverse_cons,getL_snoc]
  by_cases e:a.1=wMode
  ·have h1:=h a List.mem_cons_self e
   rw [if_pos e,if_pos e,if_pos (by omega),if_neg (by simpa using h1)]
  ·rw [if_neg e,if_neg e,if_neg (by simp),ih]
theorem mdB_eq (l:List Pr)(h:∀ a∈l,a.1=wMode→0≤modeL a.2):mdB l=if modeL (getL l wMode).1 < 0 then 0 else modeL (getL l wMode).1:=by
 have:=mdB_get l.reverse (fun a ha=>h a (List.mem_reverse.1 ha))
 rw [List.reverse_reverse] at this
 exact this
def MdI (w1:World)(m:Nat)(L:List Pr)(n:Int)(pre:List (Nat × Pr))(W:World):Prop:=mdB (L.take (L.length - pre.length))=n∧Below m w1 W
def MdX (w:World)(g:Nat)(n:Int)(W:World):Prop:=Boxed W g 3 (.int .i64 n)∧Below g w W
theorem modes_own (w:World):Prs (w.alloc (.cells #[.string ⟨#[109,111,100,101]⟩,.string ⟨#[108,97,121,101,114,101,100]⟩,.string ⟨#[109,111,100,101]⟩,.string ⟨#[111,114,116,104,111,103,111,110,97,108]⟩,.string ⟨#[109,111,100,101]⟩,.string ⟨#[115,116,114,97,105,103,104,116]⟩,.string ⟨#[109,111,100,101]⟩,.string ⟨#[116,105,100,121]⟩,.string ⟨#[109,111,100,101]⟩,.string ⟨#[114,97,100,105,97,108]⟩] 82)) (.slice (some ⟨w.heap.size,0,none⟩) 5 5) modesP:=prs_lit w modesP (by decide) (by unfold Bnd;decide) 82
set_option maxRecDepth 100000 in
set_option maxHeartbeats 4000000 in
theorem mode_of (v:Value)(L:List Pr)(n:Int)(w:World)(h:Hid (Prs w v L))(hL:L.length≤1000)(hn:Hid (mdB L=n)) :
    Calls Tryz.prog 34 #[v] w fun e w'=>e=.returned (.int .i64 n)∧Below w.heap.size w w':=by
 obtain ⟨ao,cap,rfl,_,_,_⟩:=id h.out
 obtain ⟨g,hg⟩:∃ g,w.heap.size=g:=⟨_,rfl⟩
 have HPP:Hid (∀ Y,Below g w Y→Prs Y (.slice ao L.length cap) L):=Lh (fun Y hY=>h.out.keep (by rw [hg];exact hY))
 refine (callsIn_wide (n:=9)).1 ?_
 refine callsIn_of_wp_marks Tryz.func34 rfl trivial ?_ rfl
 simp only [Tryz.ntmps34,List.size_toArray,List.length_cons,List.length_nil,Nat.reduceAdd,Nat.reduceSub,Array.replicate_succ,Array.replicate_zero,List.push_toArray,List.append_toArray,List.nil_append,List.cons_append]
 gi_wp2
 have hO0:=modes_own (w.alloc (.cells #[.int .i64 0] 3))
 obtain ⟨MC,hMC⟩:∃ o,Obj.cells #[.string ⟨#[109,111,100,101]⟩,.string ⟨#[108,97,121,101,114,101,100]⟩,.string ⟨#[109,111,100,101]⟩,.string ⟨#[111,114,116,104,111,103,111,110,97,108]⟩,.string ⟨#[109,111,100,101]⟩,.string ⟨#[115,116,114,97,105,103,104,116]⟩,.string ⟨#[109,111,100,101]⟩,.string ⟨#[116,105,100,121]⟩,.string ⟨#[109,111,100,101]⟩,.string ⟨#[114,97,100,105,97,108]⟩] 82=o:=⟨_,rfl⟩
 rw [hMC] at hO0 ⊢
 have hs0:(w.alloc (.cells #[.int .i64 0] 3)).heap.size=g+1:=by simp [hg]
 have hs1:((w.alloc (.cells #[.int .i64 0] 3)).alloc MC).heap.size=g+2:=by simp [hg]
 rw [hs0] at hO0
 have hR0:=((Boxed.new w 3 (.int .i64 0)).alloc MC).alloc (.cells #[.slice (some ⟨g+1,0,none⟩) 5 5] 54)
 have hM0:=Boxed.new ((w.alloc (.cells #[.int .i64 0] 3)).alloc MC) 54 (.slice (some ⟨g+1,0,none⟩) 5 5)
 have hO1:=hO0.keep (al1 ((w.alloc (.cells #[.int .i64 0] 3)).alloc MC) (.cells #[.slice (some ⟨g+1,0,none⟩) 5 5] 54))
 have hB0:=al3 w (.cells #[.int .i64 0] 3) MC (.cells #[.slice (some ⟨g+1,0,none⟩) 5 5] 54)
 have hsz:(((w.alloc (.cells #[.int .i64 0] 3)).alloc MC).alloc (.cells #[.slice (some ⟨g+1,0,none⟩) 5 5] 54)).heap.size=g+3:=by simp [hg]
 rw [hg] at hR0 hB0
 rw [hs1] at hM0
 generalize ((w.alloc (.cells #[.int .i64 0] 3)).alloc MC).alloc (.cells #[.slice (some ⟨g+1,0,none⟩) 5 5] 54)=w1 at hR0 hM0 hO1 hB0 hsz ⊢
 clear hO0 hs0 hs1 hMC
 have HO1:=Lh hO1
 clear hO1
 refine ⟨trivial,?_⟩
 refine (callsIn_wide.2 (bkw_of _ _ _ w1)).mono ?_
 rintro e W0' ⟨rfl,rfl⟩
 have bS:=Boxed.new w1 54 (.slice ao L.length cap)
 have hB1:Below (g+3) w1 (w1.alloc (.cells #[.slice ao L.length cap] 54)):=by have:=al1 w1 (.cells #[.slice ao L.length cap] 54);rwa [hsz] at this
 have hz1:(w1.alloc (.cells #[.slice ao L.length cap] 54)).heap.size=g+3+1:=by simp [hsz]
 simp only [hsz] at bS ⊢
 generalize w1.alloc (.cells #[.slice ao L.length cap] 54)=W0 at bS hB1 hz1 ⊢
 gi_wp2
 refine range_c rfl (enters_of Tryz.func121 (by kernel_rfl) rfl) (bk_seq (.slice ao L.length cap) L (by omega) (g+1) (g+3) (g+3) W0 (by omega) (fun Y hY=>HPP.out Y (hB0.trans ((hB1.trans hY).mono (by omega)))) rfl bS) (fun r e=>by cases e) (by omega) (by omega) (fun _=>rfl)
  (MdI w1 (g+3) L n) (fun _=>MdX w g n) (fun pre X Y row h hg' hr'=>⟨h.1,h.2.grown hg' (by have:=h.2.size;omega) (fun q e=>by rcases hr' q e with e | e;cases e;omega)⟩) (fun pre X Y row h hg' hr'=>⟨h.1.kept hg' (fun e=>by have:=hr' _ e.symm;omega),h.2.grown hg' (by have:=h.1.lt;omega) (fun q e=>by have:=hr' q e;omega)⟩)
  ⟨by rw [List.length_nil,Nat.sub_zero,List.take_length];exact hn.out,hB1⟩
  (fun y a' W=>∃ Bx,W0.heap.size+2≤Bx∧Blk2 W Bx y.2∧a'={ tmps:=#[.slice ao L.length cap,undef,.pointer (some ⟨g,0,none⟩),.pointer (some ⟨g+1+1,0,none⟩),undef,.pointer (some ⟨Bx,0,none⟩),undef,.agg #[.string ⟨#[109,111,100,101]⟩,.string ⟨#[108,97,121,101,114,101,100]⟩],.agg #[.string ⟨#[109,111,100,101]⟩,.string ⟨#[111,114,116,104,111,103,111,110,97,108]⟩],.agg #[.string ⟨#[109,111,100,101]⟩,.string ⟨#[115,116,114,97,105,103,104,116]⟩],.agg #[.string ⟨#[109,111,100,101]⟩,.string ⟨#[116,105,100,121]⟩],.agg #[.string ⟨#[109,111,100,101]⟩,.string ⟨#[114,97,100,105,97,108]⟩],.slice (some ⟨g+1,0,none⟩) 5 5,.slice ao L.length cap,.func (.func 121) #[] #[.pointer (some ⟨g+3,0,none⟩)],.int .i64 y.1,.agg #[.string (bb y.2.1),.string (bb y.2.2)],undef,undef,undef,undef,undef,undef],defers:=[] })
  (fun y a' X Y h hg'=>by
   obtain ⟨Bx,h1,h2,h3⟩:=h
   exact ⟨Bx,h1,(hg'.block Bx (Array.getElem?_eq_some_iff.1 h2).1 (fun e=>by cases e;omega)).trans h2,h3⟩) ?assign ?body ?done ?stop
 case assign =>
  rintro k l pre y W K hI hz hK
  dsimp only [bkV]
  gi_wp2
  exact hK _ _ (Kp3.of (by omega) (by omega) (by omega) (al1 _ _)) ⟨hI.1,hI.2.grown (World.grownBy_alloc W _ none) (by omega) (fun q e=>by cases e)⟩ ⟨W.heap.size,by omega,heap_alloc_new W _,rfl⟩
 case body =>
  rintro k l pre y a' W ⟨hi,hB⟩ hz ⟨Bx,hBx,bX,rfl⟩ hpre
  obtain ⟨hlt,rfl⟩:=bk_next hpre
  have e1:L.length - pre.length=(L.length - 1 - pre.length)+1:=by omega
  have hjl:L.length - 1 - pre.length < L.length:=by omega
  have hn2:L.length - (pre.length+1)=L.length - 1 - pre.length:=by omega
  rw [e1,List.take_succ_eq_append_getElem hjl,mdB_snoc] at hi
  simp only at bX hi
  obtain ⟨u,hu⟩:∃ u,L[L.length - 1 - pre.length]=u:=⟨_,rfl⟩
  simp only [hu] at bX hi ⊢
  have bM:Boxed W (g+2) 54 (.slice (some ⟨g+1,0,none⟩) 5 5):=(hB.block _ (by omega)).trans hM0
  have bR:Boxed W g 3 (.int .i64 0):=(hB.block _ (by omega)).trans hR0
  have HMP:Hid (Prs W (.slice (some ⟨g+1,0,none⟩) 5 5) modesP):=Lh (HO1.out.keep (by rw [hsz];exact hB))
  obtain ⟨o0,o1,_,_⟩:=own2_of bX
  have cM:=bM.cell
  obtain ⟨m,hm⟩:∃ m,idxP modesP u 0=m:=⟨_,rfl⟩
  rw [hm] at hi
  have HI:=Lh hi
  have HM:=Lh hm
  have HB:=Lh hB
  clear hu e1 bX hi hm hB
  gi_wp2
  refine ⟨trivial,fun h=>(by cases h),?_⟩
  refine (CallsIn.inRound l (callsIn_wide.2 (idx_of _ modesP u m W HMP HM))).mono ?_
  rintro e w3 ⟨rfl,hb3⟩
  have hq3:=hb3.size
  have bR3:Boxed w3 g 3 (.int .i64 0):=(hb3.block _ (by omega)).trans bR
  have K3:=Lh (Kp3.of (m:=g+3) (c:=g+1) (B:=W0.heap.size) (by omega) (by omega) (by omega) hb3)
  have HB3:=Lh (HB.out.trans K3.out.1)
  clear hb3 bM bR cM o0 o1 HMP
  obtain ⟨bq,hbq⟩:∃ b,(m != -1)=b:=⟨_,rfl⟩
  have hi:=HI.out
  cases bq
  ·have hm1:m=-1:=by simpa using hbq
   rw [if_neg (by simpa using hm1)] at hi
   have HF:Hid (mdB (L.take (L.length - (pre.length+1)))=n):=Lh (by rw [hn2];exact hi)
   clear hi hm1 hn2
   gi_wp2
   exact ⟨K3.out,by rw [List.length_append];exact HF.out,HB3.out⟩
  ·have hm1:m≠-1:=by simpa using hbq
   rw [if_pos hm1] at hi
   subst hi
   have cR:=bR3.cell
   have fR:=bR3.frozen
   clear hm1 hn2
   gi_wp2
   have k5:=Kp3.t (m:=g) (c:=g+1) (B:=W0.heap.size) ⟨K3.out.1.mono (by omega),K3.out.2⟩ (Kp3.set (b:=g) (o:=0) (v:=.int .i64 m) (Nat.le_refl _) (by omega) (by omega) (by omega))
   exact ⟨k5.2.2.1,k5.2.2.2,bR3.set _,(hB0.trans (HB.out.mono (by omega))).trans k5.1⟩
 case done =>
  rintro W ⟨hi,hB⟩ hK
  rw [bk_len,Nat.sub_self] at hi
  have he:(0:Int)=n:=hi
  subst he
  have bR:Boxed W g 3 (.int .i64 0):=(hB.block _ (by omega)).trans hR0
  have hW:=hB.size
  have hK1:=(KeepsOthers.setCell W ⟨g,0,none⟩ (.int .i64 0)).same W0.heap.size _ hK rfl
  have bR2:=((bR.set (.int .i64 0)).kept (grownBy_putObj' _ W0.heap.size (.deferred none)) (by simp;omega))
  have hB2:=((((hB0.trans (hB.mono (by omega))).setCell (p:=⟨g,0,none⟩) (by simp) (.int .i64 0))).grown (grownBy_putObj' _ W0.heap.size (.deferred none)) (by simp;omega) (fun k e=>by cases e;omega))
  have cR:=bR.cell
  have fR:=bR.frozen
  have cR2:=bR2.cell
  have HB2:=Lh hB2
  clear hB2 hB
  gi_wp2
  refine ⟨by simp,.inl ⟨_,_,rfl,run_takeDeferred hK1,?_⟩⟩
  exact ⟨.int .i64 0,by simp [results,Tryz.results34,go_sem,cR2],rfl,by rw [hg];exact HB2.out⟩
 case stop =>
  rintro pre W hpre ⟨bR,hB⟩ hK
  have bR2:=bR.kept (grownBy_putObj' _ W0.heap.size (.deferred none)) (by simp;omega)
  have hB2:=hB.grown (grownBy_putObj' _ W0.heap.size (.deferred none)) (by have:=bR.lt;omega) (fun k e=>by cases e;omega)
  have cR2:=bR2.cell
  have HB2:=Lh hB2
  clear hB2 hB
  gi_wp2
  refine ⟨by simp,.inl ⟨_,_,rfl,run_takeDeferred hK,?_⟩⟩
  exact ⟨.int .i64 n,by simp [results,Tryz.results34,go_sem,cR2],rfl,by rw [hg];exact HB2.out⟩
def hot (t:TypeId):Bool:=t == 45 || t == 47 || t == 54 || t == 126 || t == 74
def cold:Obj→Prop
 | .cells _ t _=>hot t=false
 | _=>True
structure TFr (w w':World):Prop where
 os:w'.os=w.os
 tape:w'.tape=w.tape
 output:w'.output=w.output
 size:w.heap.size≤w'.heap.size
 block:∀ (k:Nat) (o:Obj),w.heap[k]?=some o→cold o→w'.heap[k]?=some o
theorem TFr.refl (w:World):TFr w w:=⟨rfl,rfl,rfl,Nat.le_refl _,fun _ _ h _=>h⟩
theorem TFr.trans {a b c:World}(h:TFr a b)(k:TFr b c):TFr a c :=
 ⟨k.os.trans h.os,k.tape.trans h.tape,k.output.trans h.output,Nat.le_trans h.size k.size,fun i o hi ho=>k.block i o (h.block i o hi ho) ho⟩
theorem heap_lt {w:World}{k:Nat}{o:Obj}(h:w.heap[k]?=some o):k < w.heap.size:=by
 rcases Nat.lt_or_ge k w.heap.size with q | q
 ·exact q
 ·rw [Array.getElem?_eq_none (by omega)] at h;cases h
theorem TFr.below {w w':World}(h:Below w.heap.size w w'):TFr w w':=⟨h.os,h.tape,h.output,h.size,fun k o hk _=>by rw [h.block k (heap_lt hk)];exact hk⟩
theorem TFr.grown {w w':World}{row:Option Nat}(h:w.grownBy w' row)(hr:∀ g,row=some g→∃ arr t fr,w.heap[g]?=some (.cells arr t fr)∧hot t=true):TFr w w':=by
 refine ⟨h.os,h.tape,h.output,h.size,fun k o hk hc=>?_⟩
 by_cases e:some k=row
 ·obtain ⟨arr,t,fr,h1,h2⟩:=hr k e.symm
  rw [hk] at h1
  cases h1
  exact absurd h2 (by rw [show hot t=false from hc];decide)
 ·rw [h.block k (heap_lt hk) e];exact hk
theorem TFr.set {w:World}{b o:Nat}{t:TypeId}{arr:Array Value}(hb:blk w b t arr)(ht:hot t=true)(u:Value):TFr w (w.setCell ⟨b,o,none⟩ u):=by
 refine ⟨rfl,rfl,rfl,by simp [World.setCell],fun k x hk hc=>?_⟩
 by_cases e:k=b
 ·subst e
  rw [hb] at hk
  cases hk
  exact absurd ht (by rw [show hot t=false from hc];decide)
 ·rw [Below.heap_setCell _ _ _ _ e];exact hk
theorem TFr.alloc (w:World)(o:Obj):TFr w (w.alloc o):=TFr.below ⟨rfl,rfl,rfl,by simp,fun k hk=>Below.heap_alloc _ _ _ hk⟩
theorem TFr.blk {w w':World}(h:TFr w w'){g:Nat}{t:TypeId}{arr:Array Value}(hb:blk w g t arr)(ht:hot t=false):blk w' g t arr:=h.block g _ hb ht
theorem TFr.prs {w w':World}(h:TFr w w'){v:Value}{l:List Pr}(hp:PrsT w v l):PrsT w' v l:=by
 obtain ⟨⟨ao,cap,rfl,hc,hm,hA⟩,hT⟩:=hp
 refine ⟨⟨ao,cap,rfl,hc,hm,fun hn=>?_⟩,fun g hg=>?_⟩
 ·obtain ⟨A,rfl,h2⟩:=hA hn
  obtain ⟨arr,fr,hk⟩:=hT A.block rfl
  have e:w'.heap[A.block]?=w.heap[A.block]?:=by rw [h.block _ _ hk (by rfl),hk]
  refine ⟨A,rfl,fun i hi=>?_⟩
  obtain ⟨a1,a2,a3⟩:=h2 i hi
  have eb:(A.add (i*2)).block=A.block:=by unfold Addr.add;split <;> rfl
  have e1:w'.heap[(A.add (i*2)).block]?=w.heap[(A.add (i*2)).block]?:=by rw [eb];exact e
  exact ⟨(World.cell?_of_block (a:=A.add (i*2)) e1).trans a1,(World.cell?_of_block (a:=⟨(A.add (i*2)).block,(A.add (i*2)).off+1,none⟩) e1).trans a2,a3⟩
 ·obtain ⟨arr,fr,hk⟩:=hT g hg
  exact ⟨arr,fr,h.block _ _ hk (by rfl)⟩
def stb (W:World)(b:Nat)(nm:Nm)(d:Bool)(nv cv av ev:Value)(e:Int):Prop :=
 blk W b 74 #[.string (bb nm),.bool d,nv,.slice none 0 0,cv,av,ev,.int .i64 e]
def stc (W:World)(b:Nat)(nv cv av ev:Value)(e:Int):Prop :=
 W.cell? ⟨b,2,none⟩=some nv∧W.cell? ⟨b,4,none⟩=some cv∧W.cell? ⟨b,5,none⟩=some av∧W.cell? ⟨b,6,none⟩=some ev∧W.cell? ⟨b,7,none⟩=some (.int .i64 e)
theorem stb.read {W:World}{b:Nat}{nm:Nm}{d:Bool}{nv cv av ev:Value}{e:Int}(h:stb W b nm d nv cv av ev e):stc W b nv cv av ev e :=
 ⟨by rw [blk_cell h];rfl,by rw [blk_cell h];rfl,by rw [blk_cell h];rfl,by rw [blk_cell h];rfl,by rw [blk_cell h];rfl⟩
theorem stb.open {W:World}{b:Nat}{nm:Nm}{d:Bool}{nv cv av ev:Value}{e:Int}(h:stb W b nm d nv cv av ev e)(o:Nat):W.frozen? ⟨b,o,none⟩=false:=by
 unfold stb blk at h;simp [World.frozen?,h]
theorem blk_set {W:World}{b o:Nat}{t:TypeId}{arr:Array Value}(h:blk W b t arr)(u:Value):blk (W.setCell ⟨b,o,none⟩ u) b t (arr.setIfInBounds o u):=by
 unfold blk at *
 simp only [World.setCell,Array.getElem?_modify,h]
 simp
theorem stb.set2 {W:World}{b:Nat}{nm:Nm}{d:Bool}{nv cv av ev:Value}{e:Int}(h:stb W b nm d nv cv av ev e)(u:Value):stb (W.setCell ⟨b,2,none⟩ u) b nm d u cv av ev e:=blk_set h u
theorem stb.set4 {W:World}{b:Nat}{nm:Nm}{d:Bool}{nv cv av ev:Value}{e:Int}(h:stb W b nm d nv cv av ev e)(u:Value):stb (W.setCell ⟨b,4,none⟩ u) b nm d nv u av ev e:=blk_set h u
theorem stb.set5 {W:World}{b:Nat}{nm:Nm}{d:Bool}{nv cv av ev:Value}{e:Int}(h:stb W b nm d nv cv av ev e)(u:Value):stb (W.setCell ⟨b,5,none⟩ u) b nm d nv cv u ev e:=blk_set h u
theorem stb.set6 {W:World}{b:Nat}{nm:Nm}{d:Bool}{nv cv av ev:Value}{e:Int}(h:stb W b nm d nv cv av ev e)(u:Value):stb (W.setCell ⟨b,6,none⟩ u) b nm d nv cv av u e:=blk_set h u
theorem stb.set7 {W:World}{b:Nat}{nm:Nm}{d:Bool}{nv cv av ev:Value}{e:Int}(h:stb W b nm d nv cv av ev e)(x:Int):stb (W.setCell ⟨b,7,none⟩ (.int .i64 x)) b nm d nv cv av ev x:=blk_set h _
def ndC (x:Cl):List Value:=[.string (bb x.1),.string ⟨#[]⟩,.int .i64 0,.int .i64 0,.int .i64 x.2,.slice none 0 0]
def clC (x:Cl):List Value:=[.string (bb x.1),.int .i64 x.2]
def vC (v:Value):List Value:=[v]
def enC (x:En × Value):List Value:=[.int .i64 x.1.fr,.int .i64 x.1.to,.string (bb x.1.fp),.string (bb x.1.tp),x.2]
abbrev Nrow (W:World)(B:Nat)(v:Value)(l:List Cl):Prop:=W.ownsRow B 45 6 v l.length (l.flatMap ndC)
abbrev Crow (W:World)(B:Nat)(v:Value)(l:List Cl):Prop:=W.ownsRow B 47 2 v l.length (l.flatMap clC)
abbrev Arow (W:World)(B:Nat)(v:Value)(l:List Value):Prop:=W.ownsRow B 54 1 v l.length (l.flatMap vC)
abbrev Erow (W:World)(B:Nat)(v:Value)(l:List (En × Value)):Prop:=W.ownsRow B 126 5 v l.length (l.flatMap enC)
structure StV where
 nv:Value
 cv:Value
 av:Value
 ev:Value
 avs:List Value
 evs:List (En × Value)
structure StB (W:World)(B b:Nat)(nm:Nm)(d:Bool)(s:Sta)(x:StV):Prop where
 low:B≤b
 box:stb W b nm d x.nv x.cv x.av x.ev s.e
 nr:Nrow W B x.nv s.ns
 cr:Crow W B x.cv s.cs
 ar:Arow W B x.av x.avs
 er:Erow W B x.ev x.evs
 al:x.avs.length=s.ats.length
 ap:∀ i (h:i < x.avs.length) (h':i < s.ats.length),PrsT W x.avs[i] s.ats[i]
 el:x.evs.map (·.1)=s.en
 ep:∀ y∈x.evs,PrsT W y.2 y.1.ats
theorem row_far {W W':World}{B c n g:Nat}{t u:TypeId}{v:Value}{xs:List Value}{arr:Array Value}{fr:Nat × Nat}(h:W.ownsRow B t c v n xs)(hg:W.heap[g]?=some (.cells arr u fr))(hu:t≠u)(hf:∀ q,q < W.heap.size→q≠g→W'.heap[q]?=W.heap[q]?):W'.ownsRow B t c v n xs:=by
 refine ⟨h.1,?_⟩
 rcases h.2 with ⟨a,b⟩ | ⟨k,cap,cur,rfl,h1,h2,h3⟩
 ·exact Or.inl ⟨a,b⟩
 ·have hne:k≠g:=by
    intro e
    subst e
    rw [h2] at hg
    cases hg
    exact hu rfl
  exact Or.inr ⟨k,cap,cur,rfl,h1,by rw [hf k (heap_lt h2) hne];exact h2,h3⟩
theorem row_set {W:World}{B c n g o:Nat}{t u:TypeId}{v:Value}{xs:List Value}{arr:Array Value}(h:W.ownsRow B t c v n xs)(hg:blk W g u arr)(hu:t≠u)(y:Value):(W.setCell ⟨g,o,none⟩ y).ownsRow B t c v n xs :=
 row_far h hg hu fun _ _ hne=>Below.heap_setCell _ _ _ _ hne
theorem row_below {W W':World}{B c n:Nat}{t:TypeId}{v:Value}{xs:List Value}(h:W.ownsRow B t c v n xs)(hb:Below W.heap.size W W'):W'.ownsRow B t c v n xs:=by
 refine ⟨h.1,?_⟩
 rcases h.2 with ⟨a,b⟩ | ⟨k,cap,cur,rfl,h1,h2,h3⟩
 ·exact Or.inl ⟨a,b⟩
 ·exact Or.inr ⟨k,cap,cur,rfl,h1,by rw [hb.block k (heap_lt h2)];exact h2,h3⟩
theorem row_grown {W W':World}{B B' c c' n n':Nat}{t u:TypeId}{v v':Value}{xs ys:List Value}(h:W.ownsRow B t c v n xs)(hg:W.ownsRow B' u c' v' n' ys)(hw:W.grownBy W' v'.ownBlock)(hu:t≠u):W'.ownsRow B t c v n xs:=by
 refine ⟨h.1,?_⟩
 rcases h.2 with ⟨a,b⟩ | ⟨k,cap,cur,rfl,h1,h2,h3⟩
 ·exact Or.inl ⟨a,b⟩
 ·refine Or.inr ⟨k,cap,cur,rfl,h1,?_,h3⟩
  rw [hw.block k (heap_lt h2) ?_]
  ·exact h2
  ·intro e
   rcases hg.2 with ⟨rfl,_⟩ | ⟨k',cap',cur',rfl,_,h2',_⟩
   ·cases e
   ·obtain rfl:k=k':=Option.some.inj e
    rw [h2] at h2'
    cases h2'
    exact hu rfl
theorem blk_grown {W W':World}{B' c' n' g:Nat}{t u:TypeId}{v':Value}{ys:List Value}{arr:Array Value}(h:blk W g t arr)(hg:W.ownsRow B' u c' v' n' ys)(hw:W.grownBy W' v'.ownBlock)(hu:t≠u):blk W' g t arr:=by
 unfold blk
 rw [hw.block g (heap_lt h) ?_]
 ·exact h
 ·intro e
  rcases hg.2 with ⟨rfl,_⟩ | ⟨k',cap',cur',rfl,_,h2',_⟩
  ·cases e
  ·obtain rfl:g=k':=Option.some.inj e
   rw [h] at h2'
   cases h2'
   exact hu rfl
theorem tfr_row {W W':World}{B c n:Nat}{t:TypeId}{v:Value}{xs:List Value}(h:W.ownsRow B t c v n xs)(hw:W.grownBy W' v.ownBlock)(ht:hot t=true):TFr W W':=by
 refine TFr.grown hw fun g hg=>?_
 rcases h.2 with ⟨rfl,_⟩ | ⟨k,cap,cur,rfl,_,h2,_⟩
 ·cases hg
 ·obtain rfl:k=g:=Option.some.inj hg
  exact ⟨_,_,_,h2,ht⟩
theorem below_row {W W':World}{B c n:Nat}{t:TypeId}{v:Value}{xs:List Value}(h:W.ownsRow B t c v n xs)(hw:W.grownBy W' v.ownBlock)(hB:B≤W.heap.size):Below B W W' :=
 (Below.refl B W).grown hw hB fun k hk=>(World.ownsRow.lt h k hk).1
theorem StB.below {W W':World}{B b:Nat}{nm:Nm}{d:Bool}{s:Sta}{x:StV}(h:StB W B b nm d s x)(hb:Below W.heap.size W W'):StB W' B b nm d s x :=
 ⟨h.low,(by unfold stb blk;rw [hb.block b (heap_lt h.box)];exact h.box),row_below h.nr hb,row_below h.cr hb,row_below h.ar hb,row_below h.er hb,h.al,fun i h1 h2=>(h.ap i h1 h2).keep hb,h.el,fun y hy=>(h.ep y hy).keep hb⟩
theorem StB.lt {W:World}{B b:Nat}{nm:Nm}{d:Bool}{s:Sta}{x:StV}(h:StB W B b nm d s x):b < W.heap.size:=heap_lt h.box
theorem StB.base {W:World}{B b:Nat}{nm:Nm}{d:Bool}{s:Sta}{x:StV}(h:StB W B b nm d s x):B≤W.heap.size:=Nat.le_of_lt (Nat.lt_of_le_of_lt h.low h.lt)
theorem StB.err {W:World}{B b:Nat}{nm:Nm}{d:Bool}{s:Sta}{x:StV}(h:StB W B b nm d s x)(n:Int):StB (W.setCell ⟨b,7,none⟩ (.int .i64 n)) B b nm d ⟨s.ns,s.ats,s.cs,s.en,n⟩ x∧TFr W (W.setCell ⟨b,7,none⟩ (.int .i64 n))∧Below B W (W.setCell ⟨b,7,none⟩ (.int .i64 n)):=by
 have ht:TFr W (W.setCell ⟨b,7,none⟩ (.int .i64 n)):=TFr.set h.box rfl _
 exact ⟨⟨h.low,h.box.set7 n,row_set h.nr h.box (by decide) _,row_set h.cr h.box (by decide) _,row_set h.ar h.box (by decide) _,row_set h.er h.box (by decide) _,h.al,fun i h1 h2=>ht.prs (h.ap i h1 h2),h.el,fun y hy=>ht.prs (h.ep y hy)⟩,ht,(Below.refl B W).setCell h.low _⟩
theorem StB.growN {W Wd w1:World}{B b:Nat}{nm:Nm}{d:Bool}{s:Sta}{x:StV}{nv':Value}{c:Cl}(h:StB W B b nm d s x)(hb:Below W.heap.size W Wd)(hg:Wd.grownBy w1 x.nv.ownBlock)(ho:Nrow w1 B nv' (s.ns ++ [c])) :
    (stb w1 b nm d x.nv x.cv x.av x.ev s.e∧TFr W w1∧Below B W w1)∧StB (w1.setCell ⟨b,2,none⟩ nv') B b nm d ⟨s.ns ++ [c],s.ats,s.cs,s.en,s.e⟩ ⟨nv',x.cv,x.av,x.ev,x.avs,x.evs⟩∧TFr W (w1.setCell ⟨b,2,none⟩ nv')∧Below B W (w1.setCell ⟨b,2,none⟩ nv'):=by
 have k:=h.below hb
 have hbx:stb w1 b nm d x.nv x.cv x.av x.ev s.e:=blk_grown k.box k.nr hg (by decide)
 have t1:TFr W w1:=(TFr.below hb).trans (tfr_row k.nr hg rfl)
 have b1:Below B W w1:=(hb.mono h.base).trans (below_row k.nr hg k.base)
 have t2:TFr w1 (w1.setCell ⟨b,2,none⟩ nv'):=TFr.set hbx rfl _
 exact ⟨⟨hbx,t1,b1⟩,⟨h.low,hbx.set2 nv',row_set ho hbx (by decide) _,row_set (row_grown k.cr k.nr hg (by decide)) hbx (by decide) _,row_set (row_grown k.ar k.nr hg (by decide)) hbx (by decide) _,row_set (row_grown k.er k.nr hg (by decide)) hbx (by decide) _,h.al,fun i h1 h2=>(t1.trans t2).prs (h.ap i h1 h2),h.el,fun y hy=>(t1.trans t2).prs (h.ep y hy)⟩,t1.trans t2,b1.setCell h.low _⟩
theorem StB.growC {W Wd w1:World}{B b:Nat}{nm:Nm}{d:Bool}{s:Sta}{x:StV}{cv':Value}{c:Cl}(h:StB W B b nm d s x)(hb:Below W.heap.size W Wd)(hg:Wd.grownBy w1 x.cv.ownBlock)(ho:Crow w1 B cv' (s.cs ++ [c])) :
    (stb w1 b nm d x.nv x.cv x.av x.ev s.e∧TFr W w1∧Below B W w1)∧StB (w1.setCell ⟨b,4,none⟩ cv') B b nm d ⟨s.ns,s.ats,s.cs ++ [c],s.en,s.e⟩ ⟨x.nv,cv',x.av,x.ev,x.avs,x.evs⟩∧TFr W (w1.setCell ⟨b,4,none⟩ cv')∧Below B W (w1.setCell ⟨b,4,none⟩ cv'):=by
 have k:=h.below hb
 have hbx:stb w1 b nm d x.nv x.cv x.av x.ev s.e:=blk_grown k.box k.cr hg (by decide)
 have t1:TFr W w1:=(TFr.below hb).trans (tfr_row k.cr hg rfl)
 have b1:Below B W w1:=(hb.mono h.base).trans (below_row k.cr hg k.base)
 have t2:TFr w1 (w1.setCell ⟨b,4,none⟩ cv'):=TFr.set hbx rfl _
 exact ⟨⟨hbx,t1,b1⟩,⟨h.low,hbx.set4 cv',row_set (row_grown k.nr k.cr hg (by decide)) hbx (by decide) _,row_set ho hbx (by decide) _,row_set (row_grown k.ar k.cr hg (by decide)) hbx (by decide) _,row_set (row_grown k.er k.cr hg (by decide)) hbx (by decide) _,h.al,fun i h1 h2=>(t1.trans t2).prs (h.ap i h1 h2),h.el,fun y hy=>(t1.trans t2).prs (h.ep y hy)⟩,t1.trans t2,b1.setCell h.low _⟩
theorem StB.growA {W Wd w1:World}{B b:Nat}{nm:Nm}{d:Bool}{s:Sta}{x:StV}{av' v:Value}{a:List Pr}(h:StB W B b nm d s x)(hb:Below W.heap.size W Wd)(hg:Wd.grownBy w1 x.av.ownBlock)(ho:Arow w1 B av' (x.avs ++ [v]))(hv:PrsT W v a) :
    (stb w1 b nm d x.nv x.cv x.av x.ev s.e∧TFr W w1∧Below B W w1)∧StB (w1.setCell ⟨b,5,none⟩ av') B b nm d ⟨s.ns,s.ats ++ [a],s.cs,s.en,s.e⟩ ⟨x.nv,x.cv,av',x.ev,x.avs ++ [v],x.evs⟩∧TFr W (w1.setCell ⟨b,5,none⟩ av')∧Below B W (w1.setCell ⟨b,5,none⟩ av'):=by
 have k:=h.below hb
 have hbx:stb w1 b nm d x.nv x.cv x.av x.ev s.e:=blk_grown k.box k.ar hg (by decide)
 have t1:TFr W w1:=(TFr.below hb).trans (tfr_row k.ar hg rfl)
 have b1:Below B W w1:=(hb.mono h.base).trans (below_row k.ar hg k.base)
 have t2:TFr w1 (w1.setCell ⟨b,5,none⟩ av'):=TFr.set hbx rfl _
 refine ⟨⟨hbx,t1,b1⟩,⟨h.low,hbx.set5 av',row_set (row_grown k.nr k.ar hg (by decide)) hbx (by decide) _,row_set (row_grown k.cr k.ar hg (by decide)) hbx (by decide) _,row_set ho hbx (by decide) _,row_set (row_grown k.er k.ar hg (by decide)) hbx (by decide) _,?_,fun i h1 h2=>?_,h.el,fun y hy=>(t1.trans t2).prs (h.ep y hy)⟩,t1.trans t2,b1.setCell h.low _⟩
 ·show (x.avs ++ [v]).length=(s.ats ++ [a]).length
  rw [List.length_append,List.length_append,h.al];rfl
 ·have hal:=h.al
  rcases Nat.lt_or_ge i x.avs.length with q | q
  ·rw [List.getElem_append_left q,List.getElem_append_left (by omega)];exact (t1.trans t2).prs (h.ap i q (by omega))
  ·rw [List.getElem_append_right q,List.getElem_append_right (by omega)]
   rw [List.getElem_singleton,List.getElem_singleton];exact (t1.trans t2).prs hv
theorem StB.growE {W Wd w1:World}{B b:Nat}{nm:Nm}{d:Bool}{s:Sta}{x:StV}{ev' v:Value}{e:En}(h:StB W B b nm d s x)(hb:Below W.heap.size W Wd)(hg:Wd.grownBy w1 x.ev.ownBlock)(ho:Erow w1 B ev' (x.evs ++ [(e,v)]))(hv:PrsT Wd v e.ats) :
    (stb w1 b nm d x.nv x.cv x.av x.ev s.e∧TFr W w1∧Below B W w1)∧StB (w1.setCell ⟨b,6,none⟩ ev') B b nm d ⟨s.ns,s.ats,s.cs,s.en ++ [e],s.e⟩ ⟨x.nv,x.cv,x.av,ev',x.avs,x.evs ++ [(e,v)]⟩∧TFr W (w1.setCell ⟨b,6,none⟩ ev')∧Below B W (w1.setCell ⟨b,6,none⟩ ev'):=by
 have k:=h.below hb
 have hbx:stb w1 b nm d x.nv x.cv x.av x.ev s.e:=blk_grown k.box k.er hg (by decide)
 have t0:TFr Wd w1:=tfr_row k.er hg rfl
 have t1:TFr W w1:=(TFr.below hb).trans t0
 have b1:Below B W w1:=(hb.mono h.base).trans (below_row k.er hg k.base)
 have t2:TFr w1 (w1.setCell ⟨b,6,none⟩ ev'):=TFr.set hbx rfl _
 refine ⟨⟨hbx,t1,b1⟩,⟨h.low,hbx.set6 ev',row_set (row_grown k.nr k.er hg (by decide)) hbx (by decide) _,row_set (row_grown k.cr k.er hg (by decide)) hbx (by decide) _,row_set (row_grown k.ar k.er hg (by decide)) hbx (by decide) _,row_set ho hbx (by decide) _,h.al,fun i h1 h2=>(t1.trans t2).prs (h.ap i h1 h2),?_,fun y hy=>?_⟩,t1.trans t2,b1.setCell h.low _⟩
 ·show (x.evs ++ [(e,v)]).map (·.1)=s.en ++ [e]
  rw [List.map_append,h.el];rfl
 ·rcases List.mem_append.1 hy with q | q
  ·exact (t1.trans t2).prs (h.ep y q)
  ·rw [List.mem_singleton.1 q];exact (t0.trans t2).prs hv
theorem bb_back (l:List UInt8):(bb l).data.toList=l:=rfl
def hotC (t:TypeId):Bool:=t == 45 || t == 47 || t == 54 || t == 115 || t == 67 || t == 60
def coldC:Obj→Prop
 | .cells _ t _=>hotC t=false
 | _=>False
structure TFc (w w':World):Prop where
 os:w'.os=w.os
 tape:w'.tape=w.tape
 output:w'.output=w.output
 size:w.heap.size≤w'.heap.size
 block:∀ (k:Nat) (o:Obj),w.heap[k]?=some o→coldC o→w'.heap[k]?=some o
theorem TFc.refl (w:World):TFc w w:=⟨rfl,rfl,rfl,Nat.le_refl _,fun _ _ h _=>h⟩
theorem TFc.trans {a b c:World}(h:TFc a b)(k:TFc b c):TFc a c :=
 ⟨k.os.trans h.os,k.tape.trans h.tape,k.output.trans h.output,Nat.le_trans h.size k.size,fun i o hi ho=>k.block i o (h.block i o hi ho) ho⟩
theorem TFc.below {w w':World}(h:Below w.heap.size w w'):TFc w w':=⟨h.os,h.tape,h.output,h.size,fun k o hk _=>by rw [h.block k (heap_lt hk)];exact hk⟩
theorem TFc.grown {w w':World}{row:Option Nat}(h:w.grownBy w' row)(hr:∀ g,row=some g→∃ o,w.heap[g]?=some o∧¬ coldC o):TFc w w':=by
 refine ⟨h.os,h.tape,h.output,h.size,fun k o hk hc=>?_⟩
 by_cases e:some k=row
 ·obtain ⟨o',h1,h2⟩:=hr k e.symm
  rw [hk] at h1
  cases h1
  exact absurd hc h2
 ·rw [h.block k (heap_lt hk) e];exact hk
theorem hot_not {arr:Array Value}{t:TypeId}{fr:Nat × Nat}(h:hotC t=true):¬ coldC (.cells arr t fr):=fun q=>by
 have:hotC t=false:=q
 rw [h] at this;cases this
theorem TFc.set {w:World}{b o:Nat}{t:TypeId}{arr:Array Value}(hb:blk w b t arr)(ht:hotC t=true)(u:Value):TFc w (w.setCell ⟨b,o,none⟩ u):=by
 refine ⟨rfl,rfl,rfl,by simp [World.setCell],fun k x hk hc=>?_⟩
 by_cases e:k=b
 ·subst e
  rw [hb] at hk
  cases hk
  exact absurd hc (hot_not ht)
 ·rw [Below.heap_setCell _ _ _ _ e];exact hk
theorem TFc.alloc (w:World)(o:Obj):TFc w (w.alloc o):=TFc.below ⟨rfl,rfl,rfl,by simp,fun k hk=>Below.heap_alloc _ _ _ hk⟩
theorem TFc.blk {w w':World}(h:TFc w w'){g:Nat}{t:TypeId}{arr:Array Value}(hb:blk w g t arr)(ht:hotC t=false):blk w' g t arr:=h.block g _ hb ht
theorem TFc.prs {w w':World}(h:TFc w w'){v:Value}{l:List Pr}(hp:PrsT w v l):PrsT w' v l:=by
 obtain ⟨⟨ao,cap,rfl,hc,hm,hA⟩,hT⟩:=hp
 refine ⟨⟨ao,cap,rfl,hc,hm,fun hn=>?_⟩,fun g hg=>?_⟩
 ·obtain ⟨A,rfl,h2⟩:=hA hn
  obtain ⟨arr,fr,hk⟩:=hT A.block rfl
  have e:w'.heap[A.block]?=w.heap[A.block]?:=by rw [h.block _ _ hk (by rfl),hk]
  refine ⟨A,rfl,fun i hi=>?_⟩
  obtain ⟨a1,a2,a3⟩:=h2 i hi
  have eb:(A.add (i*2)).block=A.block:=by unfold Addr.add;split <;> rfl
  have e1:w'.heap[(A.add (i*2)).block]?=w.heap[(A.add (i*2)).block]?:=by rw [eb];exact e
  exact ⟨(World.cell?_of_block (a:=A.add (i*2)) e1).trans a1,(World.cell?_of_block (a:=⟨(A.add (i*2)).block,(A.add (i*2)).off+1,none⟩) e1).trans a2,a3⟩
 ·obtain ⟨arr,fr,hk⟩:=hT g hg
  exact ⟨arr,fr,h.block _ _ hk (by rfl)⟩
theorem tfc_row {W W':World}{B c n:Nat}{t:TypeId}{v:Value}{xs:List Value}(h:W.ownsRow B t c v n xs)(hw:W.grownBy W' v.ownBlock)(ht:hotC t=true):TFc W W':=by
 refine TFc.grown hw fun g hg=>?_
 rcases h.2 with ⟨rfl,_⟩ | ⟨k,cap,cur,rfl,_,h2,_⟩
 ·cases hg
 ·obtain rfl:k=g:=Option.some.inj hg
  exact ⟨_,h2,hot_not ht⟩
def bdb (W:World)(b:Nat)(nm:Nm)(d:Bool)(nv ev cv av:Value)(mb kb:Nat)(hv:Value):Prop :=
 blk W b 67 #[.string (bb nm),.bool d,nv,ev,cv,av,.map (some mb),.map (some kb),hv]
def bdc (W:World)(b:Nat)(nv cv av:Value)(mb kb:Nat)(hv:Value):Prop :=
 W.cell? ⟨b,2,none⟩=some nv∧W.cell? ⟨b,4,none⟩=some cv∧W.cell? ⟨b,5,none⟩=some av∧W.cell? ⟨b,6,none⟩=some (.map (some mb))∧W.cell? ⟨b,7,none⟩=some (.map (some kb))∧W.cell? ⟨b,8,none⟩=some hv
section
variable {W:World} {b:Nat} {nm:Nm} {d:Bool} {nv ev cv av hv:Value} {mb kb:Nat}
theorem bdb.read (h:bdb W b nm d nv ev cv av mb kb hv):bdc W b nv cv av mb kb hv :=
 ⟨by rw [blk_cell h];rfl,by rw [blk_cell h];rfl,by rw [blk_cell h];rfl,by rw [blk_cell h];rfl,by rw [blk_cell h];rfl,by rw [blk_cell h];rfl⟩
theorem bdb.open (h:bdb W b nm d nv ev cv av mb kb hv)(o:Nat):W.frozen? ⟨b,o,none⟩=false:=by
 unfold bdb att.blk at h;simp [World.frozen?,h]
theorem bdb.set2 (h:bdb W b nm d nv ev cv av mb kb hv)(u:Value):bdb (W.setCell ⟨b,2,none⟩ u) b nm d u ev cv av mb kb hv:=blk_set h u
theorem bdb.set3 (h:bdb W b nm d nv ev cv av mb kb hv)(u:Value):bdb (W.setCell ⟨b,3,none⟩ u) b nm d nv u cv av mb kb hv:=blk_set h u
theorem bdb.set4 (h:bdb W b nm d nv ev cv av mb kb hv)(u:Value):bdb (W.setCell ⟨b,4,none⟩ u) b nm d nv ev u av mb kb hv:=blk_set h u
theorem bdb.set5 (h:bdb W b nm d nv ev cv av mb kb hv)(u:Value):bdb (W.setCell ⟨b,5,none⟩ u) b nm d nv ev cv u mb kb hv:=blk_set h u
theorem bdb.set8 (h:bdb W b nm d nv ev cv av mb kb hv)(u:Value):bdb (W.setCell ⟨b,8,none⟩ u) b nm d nv ev cv av mb kb u:=blk_set h u
end
def nmF (ns:List Cl):List UInt8→Value × Bool:=fun y=>(.int .i64 (if 0≤nodeI ns y 0 then nodeI ns y 0 else 0),decide (0≤nodeI ns y 0))
def kmF (cs:List Cl):List UInt8→Value × Bool:=fun y=>(.bool (clusd cs y),clusd cs y)
theorem nmF_grow {ns:List Cl}{n:Nm}{c:Int}(h:nodeI ns n 0 < 0):(fun x=>if x=n then (Value.int .i64 (ns.length:Int),true) else nmF ns x)=nmF (ns ++ [(n,c)]):=by
 funext x
 unfold nmF
 rw [nodeI_app,Nat.zero_add]
 by_cases hx:x=n
 ·subst hx
  rw [if_pos rfl,if_neg (by omega:¬ 0≤nodeI ns x 0),if_pos rfl,if_pos (by omega),decide_eq_true (by omega:(0:Int)≤(ns.length:Int))]
 ·rw [if_neg hx,if_neg (fun e:n=x=>hx e.symm)]
  by_cases h0:0≤nodeI ns x 0
  ·rw [if_pos h0,if_pos h0]
   rw [if_pos h0,decide_eq_true h0]
  ·rw [if_neg h0,if_neg h0]
   rw [if_neg (by decide),decide_eq_false h0];rfl
theorem kmF_grow (cs:List Cl)(n:Nm)(c:Int):(fun x=>if x=n then (Value.bool true,true) else kmF cs x)=kmF (cs ++ [(n,c)]):=by
 funext x
 unfold kmF
 have e:clusd (cs ++ [(n,c)]) x=(clusd cs x || n == x):=by unfold clusd;rw [List.any_append];simp
 rw [e]
 by_cases hx:x=n
 ·subst hx;simp
 ·rw [if_neg hx]
  have:(n == x)=false:=by simp;exact fun e=>hx e.symm
  rw [this,Bool.or_false]
def NMap (W:World)(b:Nat)(ns:List Cl):Prop:=∃ D,mAt (.int .i64 0) W b ns.length D (nmF ns)
def KMap (W:World)(b:Nat)(cs:List Cl):Prop:=∃ D,mAt (.bool false) W b cs.length D (kmF cs)
theorem NMap.kept {W W':World}{b:Nat}{ns:List Cl}{row:Option Nat}(h:NMap W b ns)(hg:W.grownBy W' row)(hne:some b≠row):NMap W' b ns:=by obtain ⟨D,h⟩:=h;exact ⟨D,h.kept hg hne⟩
theorem KMap.kept {W W':World}{b:Nat}{cs:List Cl}{row:Option Nat}(h:KMap W b cs)(hg:W.grownBy W' row)(hne:some b≠row):KMap W' b cs:=by obtain ⟨D,h⟩:=h;exact ⟨D,h.kept hg hne⟩
theorem NMap.map {W:World}{b:Nat}{ns:List Cl}(h:NMap W b ns):∃ es c,W.heap[b]?=some (.map es c):=by obtain ⟨D,h⟩:=h;obtain ⟨es,c,hb,_⟩:=h.1;exact ⟨es,c,hb⟩
theorem KMap.map {W:World}{b:Nat}{cs:List Cl}(h:KMap W b cs):∃ es c,W.heap[b]?=some (.map es c):=by obtain ⟨D,h⟩:=h;obtain ⟨es,c,hb,_⟩:=h.1;exact ⟨es,c,hb⟩
theorem grown_set (W:World)(b o:Nat)(u:Value):W.grownBy (W.setCell ⟨b,o,none⟩ u) (some b) :=
 ⟨rfl,rfl,rfl,by simp [World.setCell],fun k _ hne=>Below.heap_setCell _ _ _ _ (fun e=>hne (by rw [e]))⟩
theorem map_ne {W:World}{b g:Nat}{t:TypeId}{arr:Array Value}{fr:Nat × Nat}(h:∃ es c,W.heap[b]?=some (.map es c))(hg:W.heap[g]?=some (.cells arr t fr)):b≠g:=fun e=>by
 subst e
 obtain ⟨es,c,h⟩:=h
 rw [h] at hg;cases hg
theorem map_row {W:World}{b B c n:Nat}{t:TypeId}{v:Value}{xs:List Value}(h:∃ es c,W.heap[b]?=some (.map es c))(hr:W.ownsRow B t c v n xs):some b≠v.ownBlock:=fun e=>by
 rcases hr.2 with ⟨rfl,_⟩ | ⟨k,cap,cur,rfl,_,h2,_⟩
 ·cases e
 ·obtain rfl:b=k:=Option.some.inj e
  exact map_ne h h2 rfl
def chC (x:Value × Value):List Value:=[x.1,x.2]
abbrev Hrow (W:World)(B:Nat)(v:Value)(l:List (Value × Value)):Prop:=W.ownsRow B 115 2 v l.length (l.flatMap chC)
structure BdV where
 nv:Value
 cv:Value
 av:Value
 hv:Value
 mb:Nat
 kb:Nat
 avs:List Value
 hvs:List (Value × Value)
structure Bg where
 ns:List Cl
 ms:List Cl
 cs:List Cl
 ks:List Cl
 ats:List (List Pr)
 ch:List (List Pr × List Pr)
def Bs.g (s:Bs):Bg:=⟨s.ns,s.ns,s.cs,s.cs,s.ats,s.ch⟩
structure BdG (w0 W:World)(b:Nat)(nm:Nm)(d:Bool)(s:Bg)(x:BdV):Prop where
 low:w0.heap.size≤b
 old:Below w0.heap.size w0 W
 box:bdb W b nm d x.nv (.slice none 0 0) x.cv x.av x.mb x.kb x.hv
 nr:Nrow W w0.heap.size x.nv s.ns
 cr:Crow W w0.heap.size x.cv s.cs
 ar:Arow W w0.heap.size x.av x.avs
 hr:Hrow W w0.heap.size x.hv x.hvs
 al:x.avs.length=s.ats.length
 ap:∀ i (h:i < x.avs.length) (h':i < s.ats.length),PrsT W x.avs[i] s.ats[i]
 hl:x.hvs.length=s.ch.length
 hp:∀ i (h:i < x.hvs.length) (h':i < s.ch.length),Prs w0 x.hvs[i].1 s.ch[i].1∧PrsT W x.hvs[i].2 s.ch[i].2
 mm:NMap W x.mb s.ms
 km:KMap W x.kb s.ks
 ml:w0.heap.size≤x.mb
 kl:w0.heap.size≤x.kb
 ne:x.mb≠x.kb
structure Stp (w0 W w1:World):Prop where
 frm:TFc W w1
 bel:Below w0.heap.size W w1
section
variable {w0 W W' Wd w1:World} {b:Nat} {nm:Nm} {d:Bool} {s:Bg} {x:BdV}
theorem BdG.lt (h:BdG w0 W b nm d s x):b < W.heap.size:=heap_lt h.box
theorem BdG.base (h:BdG w0 W b nm d s x):w0.heap.size≤W.heap.size:=h.old.size
theorem grown_below (hb:Below W.heap.size W W'):W.grownBy W' none:=⟨hb.os,hb.tape,hb.output,hb.size,fun k hk _=>hb.block k hk⟩
theorem Stp.refl (w0 W:World):Stp w0 W W:=⟨TFc.refl W,Below.refl _ W⟩
theorem Stp.trans {w2:World}(h:Stp w0 W w1)(k:Stp w0 w1 w2):Stp w0 W w2:=⟨h.frm.trans k.frm,h.bel.trans k.bel⟩
theorem Stp.below (hb:Below W.heap.size W W')(hB:w0.heap.size≤W.heap.size):Stp w0 W W':=⟨TFc.below hb,hb.mono hB⟩
theorem BdG.below (h:BdG w0 W b nm d s x)(hb:Below W.heap.size W W'):BdG w0 W' b nm d s x :=
 ⟨h.low,h.old.trans (hb.mono h.base),(by unfold bdb att.blk;rw [hb.block b (heap_lt h.box)];exact h.box),row_below h.nr hb,row_below h.cr hb,row_below h.ar hb,row_below h.hr hb,h.al,fun i h1 h2=>(h.ap i h1 h2).keep hb,h.hl,fun i h1 h2=>⟨(h.hp i h1 h2).1,(h.hp i h1 h2).2.keep hb⟩,h.mm.kept (grown_below hb) (by simp),h.km.kept (grown_below hb) (by simp),h.ml,h.kl,h.ne⟩
theorem row_map {B c n g:Nat}{t:TypeId}{v:Value}{xs:List Value}(hm:∃ es c,W.heap[g]?=some (.map es c))(hg:W.grownBy w1 (some g))(hr:W.ownsRow B t c v n xs):w1.ownsRow B t c v n xs:=by
 refine ⟨hr.1,?_⟩
 rcases hr.2 with ⟨a,e⟩ | ⟨k,cap,cur,rfl,h1,h2,h3⟩
 ·exact Or.inl ⟨a,e⟩
 ·exact Or.inr ⟨k,cap,cur,rfl,h1,by rw [hg.block k (heap_lt h2) (fun e=>map_ne hm h2 (Option.some.inj e).symm)];exact h2,h3⟩
theorem blk_map {g b':Nat}{t:TypeId}{arr:Array Value}(hm:∃ es c,W.heap[g]?=some (.map es c))(hg:W.grownBy w1 (some g))(hr:blk W b' t arr):blk w1 b' t arr:=by
 unfold att.blk at hr ⊢
 rw [hg.block b' (heap_lt hr) (fun e=>map_ne hm hr (Option.some.inj e).symm)];exact hr
theorem tfc_map {g:Nat}(hm:∃ es c,W.heap[g]?=some (.map es c))(hg:W.grownBy w1 (some g)):TFc W w1:=TFc.grown hg fun k e=>by
 cases e
 obtain ⟨es,c,q⟩:=hm
 exact ⟨_,q,fun r=>r⟩
theorem BdG.putN {n:Nm}{c:Int}(h:BdG w0 W b nm d s x)(hg:W.grownBy w1 (some x.mb))(hm:NMap w1 x.mb (s.ms ++ [(n,c)])):BdG w0 w1 b nm d ⟨s.ns,s.ms ++ [(n,c)],s.cs,s.ks,s.ats,s.ch⟩ x∧Stp w0 W w1:=by
 have hq:=h.mm.map
 have t1:TFc W w1:=tfc_map hq hg
 have b1:Below w0.heap.size W w1:=(Below.refl _ W).grown hg h.base (fun k hk=>by cases hk;exact h.ml)
 exact ⟨⟨h.low,h.old.trans b1,blk_map hq hg h.box,row_map hq hg h.nr,row_map hq hg h.cr,row_map hq hg h.ar,row_map hq hg h.hr,h.al,fun i h1 h2=>t1.prs (h.ap i h1 h2),h.hl,fun i h1 h2=>⟨(h.hp i h1 h2).1,t1.prs (h.hp i h1 h2).2⟩,hm,h.km.kept hg (fun e=>h.ne (Option.some.inj e).symm),h.ml,h.kl,h.ne⟩,t1,b1⟩
theorem BdG.putK {n:Nm}{c:Int}(h:BdG w0 W b nm d s x)(hg:W.grownBy w1 (some x.kb))(hm:KMap w1 x.kb (s.ks ++ [(n,c)])):BdG w0 w1 b nm d ⟨s.ns,s.ms,s.cs,s.ks ++ [(n,c)],s.ats,s.ch⟩ x∧Stp w0 W w1:=by
 have hq:=h.km.map
 have t1:TFc W w1:=tfc_map hq hg
 have b1:Below w0.heap.size W w1:=(Below.refl _ W).grown hg h.base (fun k hk=>by cases hk;exact h.kl)
 exact ⟨⟨h.low,h.old.trans b1,blk_map hq hg h.box,row_map hq hg h.nr,row_map hq hg h.cr,row_map hq hg h.ar,row_map hq hg h.hr,h.al,fun i h1 h2=>t1.prs (h.ap i h1 h2),h.hl,fun i h1 h2=>⟨(h.hp i h1 h2).1,t1.prs (h.hp i h1 h2).2⟩,h.mm.kept hg (fun e=>h.ne (Option.some.inj e)),hm,h.ml,h.kl,h.ne⟩,t1,b1⟩
theorem NMap.set {g o ob:Nat}{ns:List Cl}{t:TypeId}{arr:Array Value}(h:NMap W g ns)(hb:blk W ob t arr)(u:Value):NMap (W.setCell ⟨ob,o,none⟩ u) g ns:=h.kept (grown_set W ob o u) (fun e=>map_ne h.map hb (Option.some.inj e))
theorem KMap.set {g o ob:Nat}{cs:List Cl}{t:TypeId}{arr:Array Value}(h:KMap W g cs)(hb:blk W ob t arr)(u:Value):KMap (W.setCell ⟨ob,o,none⟩ u) g cs:=h.kept (grown_set W ob o u) (fun e=>map_ne h.map hb (Option.some.inj e))
theorem BdG.mid (h:BdG w0 W b nm d s x)(hb:Below W.heap.size W Wd){c n:Nat}{t:TypeId}{v:Value}{xs:List Value}(hr:Wd.ownsRow w0.heap.size t c v n xs)(hg:Wd.grownBy w1 v.ownBlock)(ht:hotC t=true)(hne:t≠67) :
    bdb w1 b nm d x.nv (.slice none 0 0) x.cv x.av x.mb x.kb x.hv∧Stp w0 W w1∧NMap w1 x.mb s.ms∧KMap w1 x.kb s.ks:=by
 have k:=h.below hb
 exact ⟨blk_grown k.box hr hg (Ne.symm hne),⟨(TFc.below hb).trans (tfc_row hr hg ht),(hb.mono h.base).trans (below_row hr hg k.base)⟩,k.mm.kept hg (map_row k.mm.map hr),k.km.kept hg (map_row k.km.map hr)⟩
theorem BdG.growN {nv':Value}{c:Cl}(h:BdG w0 W b nm d s x)(hb:Below W.heap.size W Wd)(hg:Wd.grownBy w1 x.nv.ownBlock)(ho:Nrow w1 w0.heap.size nv' (s.ns ++ [c])) :
    (bdb w1 b nm d x.nv (.slice none 0 0) x.cv x.av x.mb x.kb x.hv∧Stp w0 W w1)∧BdG w0 (w1.setCell ⟨b,2,none⟩ nv') b nm d ⟨s.ns ++ [c],s.ms,s.cs,s.ks,s.ats,s.ch⟩ ⟨nv',x.cv,x.av,x.hv,x.mb,x.kb,x.avs,x.hvs⟩∧Stp w0 W (w1.setCell ⟨b,2,none⟩ nv'):=by
 have k:=h.below hb
 obtain ⟨hbx,hs,hm1,hm2⟩:=h.mid hb k.nr hg rfl (by decide)
 have t2:TFc w1 (w1.setCell ⟨b,2,none⟩ nv'):=TFc.set hbx rfl _
 have hs2:Stp w0 W (w1.setCell ⟨b,2,none⟩ nv'):=⟨hs.frm.trans t2,hs.bel.setCell h.low _⟩
 exact ⟨⟨hbx,hs⟩,⟨h.low,h.old.trans hs2.bel,hbx.set2 nv',row_set ho hbx (by decide) _,row_set (row_grown k.cr k.nr hg (by decide)) hbx (by decide) _,row_set (row_grown k.ar k.nr hg (by decide)) hbx (by decide) _,row_set (row_grown k.hr k.nr hg (by decide)) hbx (by decide) _,h.al,fun i h1 h2=>hs2.frm.prs (h.ap i h1 h2),h.hl,fun i h1 h2=>⟨(h.hp i h1 h2).1,hs2.frm.prs (h.hp i h1 h2).2⟩,hm1.set hbx _,hm2.set hbx _,h.ml,h.kl,h.ne⟩,hs2⟩
theorem BdG.growC {cv':Value}{c:Cl}(h:BdG w0 W b nm d s x)(hb:Below W.heap.size W Wd)(hg:Wd.grownBy w1 x.cv.ownBlock)(ho:Crow w1 w0.heap.size cv' (s.cs ++ [c])) :
    (bdb w1 b nm d x.nv (.slice none 0 0) x.cv x.av x.mb x.kb x.hv∧Stp w0 W w1)∧BdG w0 (w1.setCell ⟨b,4,none⟩ cv') b nm d ⟨s.ns,s.ms,s.cs ++ [c],s.ks,s.ats,s.ch⟩ ⟨x.nv,cv',x.av,x.hv,x.mb,x.kb,x.avs,x.hvs⟩∧Stp w0 W (w1.setCell ⟨b,4,none⟩ cv'):=by
 have k:=h.below hb
 obtain ⟨hbx,hs,hm1,hm2⟩:=h.mid hb k.cr hg rfl (by decide)
 have t2:TFc w1 (w1.setCell ⟨b,4,none⟩ cv'):=TFc.set hbx rfl _
 have hs2:Stp w0 W (w1.setCell ⟨b,4,none⟩ cv'):=⟨hs.frm.trans t2,hs.bel.setCell h.low _⟩
 exact ⟨⟨hbx,hs⟩,⟨h.low,h.old.trans hs2.bel,hbx.set4 cv',row_set (row_grown k.nr k.cr hg (by decide)) hbx (by decide) _,row_set ho hbx (by decide) _,row_set (row_grown k.ar k.cr hg (by decide)) hbx (by decide) _,row_set (row_grown k.hr k.cr hg (by decide)) hbx (by decide) _,h.al,fun i h1 h2=>hs2.frm.prs (h.ap i h1 h2),h.hl,fun i h1 h2=>⟨(h.hp i h1 h2).1,hs2.frm.prs (h.hp i h1 h2).2⟩,hm1.set hbx _,hm2.set hbx _,h.ml,h.kl,h.ne⟩,hs2⟩
theorem BdG.growA {av' v:Value}{a:List Pr}(h:BdG w0 W b nm d s x)(hb:Below W.heap.size W Wd)(hg:Wd.grownBy w1 x.av.ownBlock)(ho:Arow w1 w0.heap.size av' (x.avs ++ [v]))(hv:PrsT W v a) :
    (bdb w1 b nm d x.nv (.slice none 0 0) x.cv x.av x.mb x.kb x.hv∧Stp w0 W w1)∧BdG w0 (w1.setCell ⟨b,5,none⟩ av') b nm d ⟨s.ns,s.ms,s.cs,s.ks,s.ats ++ [a],s.ch⟩ ⟨x.nv,x.cv,av',x.hv,x.mb,x.kb,x.avs ++ [v],x.hvs⟩∧Stp w0 W (w1.setCell ⟨b,5,none⟩ av'):=by
 have k:=h.below hb
 obtain ⟨hbx,hs,hm1,hm2⟩:=h.mid hb k.ar hg rfl (by decide)
 have t2:TFc w1 (w1.setCell ⟨b,5,none⟩ av'):=TFc.set hbx rfl _
 have hs2:Stp w0 W (w1.setCell ⟨b,5,none⟩ av'):=⟨hs.frm.trans t2,hs.bel.setCell h.low _⟩
 refine ⟨⟨hbx,hs⟩,⟨h.low,h.old.trans hs2.bel,hbx.set5 av',row_set (row_grown k.nr k.ar hg (by decide)) hbx (by decide) _,row_set (row_grown k.cr k.ar hg (by decide)) hbx (by decide) _,row_set ho hbx (by decide) _,row_set (row_grown k.hr k.ar hg (by decide)) hbx (by decide) _,?_,fun i h1 h2=>?_,h.hl,fun i h1 h2=>⟨(h.hp i h1 h2).1,hs2.frm.prs (h.hp i h1 h2).2⟩,hm1.set hbx _,hm2.set hbx _,h.ml,h.kl,h.ne⟩,hs2⟩
 ·show (x.avs ++ [v]).length=(s.ats ++ [a]).length
  rw [List.length_append,List.length_append,h.al];rfl
 ·have hal:=h.al
  rcases Nat.lt_or_ge i x.avs.length with q | q
  ·rw [List.getElem_append_left q,List.getElem_append_left (by omega)];exact hs2.frm.prs (h.ap i q (by omega))
  ·rw [List.getElem_append_right q,List.getElem_append_right (by omega)]
   rw [List.getElem_singleton,List.getElem_singleton];exact hs2.frm.prs hv
theorem BdG.growH {hv' rv v:Value}{r a:List Pr}(h:BdG w0 W b nm d s x)(hb:Below W.heap.size W Wd)(hg:Wd.grownBy w1 x.hv.ownBlock)(ho:Hrow w1 w0.heap.size hv' (x.hvs ++ [(rv,v)]))(hr:Prs w0 rv r)(hv:PrsT Wd v a) :
    (bdb w1 b nm d x.nv (.slice none 0 0) x.cv x.av x.mb x.kb x.hv∧Stp w0 W w1)∧BdG w0 (w1.setCell ⟨b,8,none⟩ hv') b nm d ⟨s.ns,s.ms,s.cs,s.ks,s.ats,s.ch ++ [(r,a)]⟩ ⟨x.nv,x.cv,x.av,hv',x.mb,x.kb,x.avs,x.hvs ++ [(rv,v)]⟩∧Stp w0 W (w1.setCell ⟨b,8,none⟩ hv'):=by
 have k:=h.below hb
 obtain ⟨hbx,hs,hm1,hm2⟩:=h.mid hb k.hr hg rfl (by decide)
 have t1:TFc Wd w1:=tfc_row k.hr hg rfl
 have t2:TFc w1 (w1.setCell ⟨b,8,none⟩ hv'):=TFc.set hbx rfl _
 have hs2:Stp w0 W (w1.setCell ⟨b,8,none⟩ hv'):=⟨hs.frm.trans t2,hs.bel.setCell h.low _⟩
 refine ⟨⟨hbx,hs⟩,⟨h.low,h.old.trans hs2.bel,hbx.set8 hv',row_set (row_grown k.nr k.hr hg (by decide)) hbx (by decide) _,row_set (row_grown k.cr k.hr hg (by decide)) hbx (by decide) _,row_set (row_grown k.ar k.hr hg (by decide)) hbx (by decide) _,row_set ho hbx (by decide) _,h.al,fun i h1 h2=>hs2.frm.prs (h.ap i h1 h2),?_,fun i h1 h2=>?_,hm1.set hbx _,hm2.set hbx _,h.ml,h.kl,h.ne⟩,hs2⟩
 ·show (x.hvs ++ [(rv,v)]).length=(s.ch ++ [(r,a)]).length
  rw [List.length_append,List.length_append,h.hl];rfl
 ·have hal:=h.hl
  rcases Nat.lt_or_ge i x.hvs.length with q | q
  ·rw [List.getElem_append_left q,List.getElem_append_left (by omega)];exact ⟨(h.hp i q (by omega)).1,hs2.frm.prs (h.hp i q (by omega)).2⟩
  ·rw [List.getElem_append_right q,List.getElem_append_right (by omega)]
   rw [List.getElem_singleton,List.getElem_singleton];exact ⟨hr,(t1.trans t2).prs hv⟩
theorem BdG.setV {g cap i:Nat}{v:Value}{a:List Pr}(h:BdG w0 W b nm d s x)(hav:x.av=.slice (some ⟨g,0,none⟩) x.avs.length cap)(hv:PrsT W v a) :
    BdG w0 (W.setCell ⟨g,i,none⟩ v) b nm d ⟨s.ns,s.ms,s.cs,s.ks,s.ats.set i a,s.ch⟩ ⟨x.nv,x.cv,x.av,x.hv,x.mb,x.kb,x.avs.set i v,x.hvs⟩∧Stp w0 W (W.setCell ⟨g,i,none⟩ v):=by
 have har:=h.ar
 rw [hav] at har
 obtain ⟨ho,hg⟩:=World.ownsRow.stored har i v
 obtain ⟨k,cap',cur,e,h1,h2,-⟩:=har.2.resolve_left (fun q=>by cases q.1)
 cases e
 have hne:b≠g:=fun e=>by
  have q:=h.box
  unfold bdb att.blk at q
  rw [e,h2] at q
  cases q
 have t1:TFc W (W.setCell ⟨g,i,none⟩ v):=TFc.grown hg fun k e=>by
  cases e
  exact ⟨_,h2,hot_not rfl⟩
 have b1:Below w0.heap.size W (W.setCell ⟨g,i,none⟩ v):=(Below.refl _ W).setCell h1 _
 have hs2:Stp w0 W (W.setCell ⟨g,i,none⟩ v):=⟨t1,b1⟩
 have far:∀ {B c n:Nat} {t:TypeId} {u:Value} {xs:List Value},W.ownsRow B t c u n xs→t≠54→(W.setCell ⟨g,i,none⟩ v).ownsRow B t c u n xs:=fun {B c n t u xs} hr hu=>row_far hr h2 hu fun q _ hq=>Below.heap_setCell _ _ _ _ hq
 refine ⟨⟨h.low,h.old.trans b1,?_,far h.nr (by decide),far h.cr (by decide),?_,far h.hr (by decide),by simp [h.al],fun j h3 h4=>?_,h.hl,fun j h3 h4=>⟨(h.hp j h3 h4).1,t1.prs (h.hp j h3 h4).2⟩,h.mm.kept hg (fun e=>map_ne h.mm.map h2 (Option.some.inj e)),h.km.kept hg (fun e=>map_ne h.km.map h2 (Option.some.inj e)),h.ml,h.kl,h.ne⟩,hs2⟩
 ·unfold bdb att.blk
  rw [Below.heap_setCell _ _ _ _ hne];exact h.box
 ·show World.ownsRow _ _ _ _ x.av (x.avs.set i v).length ((x.avs.set i v).flatMap vC)
  rw [List.length_set,hav]
  have e:∀ (l:List Value),l.flatMap vC=l:=fun l=>by
   induction l with
   | nil=>rfl
   | cons y t ih=>show y :: t.flatMap vC=_;rw [ih]
  rw [e] at ho ⊢
  exact ho
 ·rw [List.getElem_set,List.getElem_set]
  by_cases e:i=j
  ·rw [if_pos e,if_pos e];exact t1.prs hv
  ·rw [if_neg e,if_neg e];exact t1.prs (h.ap j (by simpa using h3) (by simpa using h4))
end
end Go.Proofs.YtcdoicgbjoikkaaGreatDoor.nor
