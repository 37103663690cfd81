/-
  A list of statements in memory as walk sees it, and what runs of visitors come to. Condition: the list lies in memory.
  What Count, Depth and hasMoreThan of the landed tree return. Condition: a tree in memory, of at most 2000000000000 statements.
  What statementError and Valid of the landed tree return. Condition: a tree in memory, of at most 2000000000000 statements.
-/
import Derived.Test.YtgmidodmmlmmeaaGreatDoorMtd
namespace Go.Proofs.YtgmidodmmlmmeaaGreatDoor.tre
open Go.RowKit lex
mutual
def memX (w:World):Sa→Prop
 | .mk s A bv ks=>stAt w s A∧w.cell? ⟨A.block,A.off+4,none⟩=some bv∧memXL w ks
def memXL (w:World):List Sa→Prop
 | []=>True
 | x :: t=>memX w x∧memXL w t
end
theorem memX_eq (w:World)(x:Sa):memX w x ↔ stAt w x.s x.A∧w.cell? ⟨x.A.block,x.A.off+4,none⟩=some x.bv∧memXL w x.kids:=by cases x;rfl
theorem memXL_iff (w:World)(l:List Sa):memXL w l ↔ ∀ x∈l,memX w x:=by
 induction l with
 | nil=>exact ⟨fun _ x hx=>(by cases hx),fun _=>trivial⟩
 | cons x t ih =>
  constructor
  ·rintro ⟨h1,h2⟩ y hy
   rcases List.mem_cons.1 hy with rfl | hy
   ·exact h1
   ·exact ih.1 h2 y hy
  ·intro h;exact ⟨h x (by simp),ih.2 fun y hy=>h y (by simp [hy])⟩
theorem memX_kids {w:World}{x:Sa}(h:memX w x):∀ y∈x.kids,memX w y:=(memXL_iff w _).1 ((memX_eq w x).1 h).2.2
theorem memX_skel {w W:World}(hb:Below w.heap.size w W){x:Sa}(h:memX w x):skel W x:=by
 obtain ⟨h1,h2,_⟩:=(memX_eq w x).1 h
 exact ⟨cell_later' hb ((stAt_eq _ _ _).1 h1).1,cell_later' hb h2⟩
theorem memX_at {w W:World}(hb:Below w.heap.size w W){x:Sa}(h:memX w x):stAt W x.s x.A:=(st_keep hb).1 _ _ ((memX_eq w x).1 h).1
theorem sts_sa (l:List St):∀ (w:World) (v:Value),Sts w v l→∃ L:List Sa,L.map Sa.s=l∧SlX v L∧memXL w L:=by
 refine lst_ind (P:=fun l=>∀ (w:World) (v:Value),Sts w v l→∃ L:List Sa,L.map Sa.s=l∧SlX v L∧memXL w L) (fun l ih w v h=>?_) l
 by_cases h0:l.length=0
 ·obtain rfl:l=[]:=List.length_eq_zero_iff.1 h0
  obtain ⟨ao,cap,rfl,_⟩:=h
  exact ⟨[],rfl,⟨ao,cap,rfl,fun h=>absurd h (by simp)⟩,trivial⟩
 ·obtain ⟨ao,cap,rfl,_,_,hA⟩:=h
  obtain ⟨B,rfl,hB⟩:=hA (by omega)
  have key:∀ i,i < l.length→∃ x:Sa,∀ hi:i < l.length,x.s=l[i]∧x.A=B.add (i*5)∧okX x∧memX w x:=by
   intro i hi
   have h1:=stsAt_get hB i hi
   rw [Nat.zero_add] at h1
   obtain ⟨_,_,_,_,_,bv,h4,hs⟩:=(stAt_eq _ _ _).1 h1
   obtain ⟨ks,e1,e2,e3⟩:=ih l[i] (List.getElem_mem hi) w bv hs
   exact ⟨.mk l[i] (B.add (i*5)) bv ks,fun _=>⟨rfl,rfl,(okX_eq _).2 ⟨e1,e2⟩,(memX_eq _ _).2 ⟨h1,h4,e3⟩⟩⟩
  haveI:Inhabited Sa:=⟨.mk (.mk 0 [] [] [] []) ⟨0,0,none⟩ (.bool false) []⟩
  obtain ⟨f,hf⟩:=Deep.choose_lt key
  have hlen:((List.range l.length).map f).length=l.length:=by simp
  refine ⟨(List.range l.length).map f,?_,⟨some B,cap,by rw [hlen],fun _=>⟨B,rfl,okXL_of fun j hj=>?_⟩⟩,(memXL_iff _ _).2 fun x hx=>?_⟩
  ·refine List.ext_getElem (by simp) fun i h1 h2=>?_
   have:=(hf i h2 h2).1
   simpa using this
  ·rw [hlen] at hj
   have:=hf j hj hj
   rw [Nat.zero_add]
   simpa using ⟨this.2.1,this.2.2.1⟩
  ·obtain ⟨i,hi,rfl⟩:=List.mem_map.1 hx
   rw [List.mem_range] at hi
   exact (hf i hi hi).2.2.2
theorem runL_map {X Y σ:Type}(F:Y→σ→σ × Bool)(g:X→Y)(l:List X)(s:σ):runL (fun x=>F (g x)) l s=runL F (l.map g) s:=by
 induction l generalizing s with
 | nil=>rfl
 | cons x t ih =>
  rw [List.map_cons]
  show (if (F (g x) s).2=true then runL (fun x=>F (g x)) t (F (g x) s).1 else F (g x) s)=(if (F (g x) s).2=true then runL F (t.map g) (F (g x) s).1 else F (g x) s)
  by_cases h:(F (g x) s).2=true
  ·rw [if_pos h,if_pos h,ih]
  ·rw [if_neg h,if_neg h]
theorem runL_cons {X σ:Type}(f:X→σ→σ × Bool)(x:X)(t:List X)(s:σ):runL f (x :: t) s=if (f x s).2=true then runL f t (f x s).1 else f x s:=rfl
theorem wrap_small {n:Int}(h0:0≤n)(h1:n≤4000000000000):wrap64 (n+1)=n+1:=by unfold wrap64;omega
theorem run_limit {X:Type}(l:List X)(n:Int)(h0:0≤n)(h1:n≤512):(runL (fun _ (n:Int)=>(wrap64 (n+1),decide (wrap64 (n+1)≤512))) l n).2=decide (n+l.length≤512):=by
 induction l generalizing n with
 | nil=>rw [show (runL (fun _ (n:Int)=>(wrap64 (n+1),decide (wrap64 (n+1)≤512))) ([]:List X) n).2=true from rfl,List.length_nil];symm;rw [decide_eq_true_eq];omega
 | cons x t ih =>
  rw [runL_cons,wrap_small h0 (by omega),List.length_cons]
  by_cases h:n+1≤512
  ·rw [if_pos (by rw [decide_eq_true_eq];exact h),ih (n+1) (by omega) h,Bool.eq_iff_iff,decide_eq_true_eq,decide_eq_true_eq];omega
  ·rw [if_neg (by rw [decide_eq_true_eq];exact h)]
   show decide (n+1≤512)=_
   rw [Bool.eq_iff_iff,decide_eq_true_eq,decide_eq_true_eq];omega
theorem run_first (l:List (St × Int)):(runL (fun x (_:Int)=>(staE x.1 x.2,decide (staE x.1 x.2=0))) l 0).1=firstE l:=by
 induction l with
 | nil=>rfl
 | cons x t ih =>
  rw [runL_cons]
  unfold firstE
  by_cases h:staE x.1 x.2=0
  ·rw [if_pos (by rw [decide_eq_true_eq];exact h),if_neg (by simpa using h),← ih]
   show (runL _ t (staE x.1 x.2)).1=_
   rw [h]
  ·rw [if_neg (by rw [decide_eq_true_eq];exact h),if_pos (by simpa using h)]
def bx (W:World)(c:Nat)(v:Value):Prop:=W.cell? ⟨c,0,none⟩=some v∧W.frozen? ⟨c,0,none⟩=false
theorem bx_set {W:World}{c:Nat}{v u:Value}(h:bx W c v):bx (W.setCell ⟨c,0,none⟩ u) c u:=by
 obtain ⟨h0,h1⟩:=h
 refine ⟨?_,?_⟩ <;> go_simp
theorem bx_new (w:World)(v:Value)(t:TypeId):bx (w.alloc (.cells #[v] t)) w.heap.size v:=by
 refine ⟨?_,?_⟩ <;> go_simp
theorem bx_keep {w1 w2:World}{c:Nat}{v:Value}(h:bx w1 c v)(hb:Below w1.heap.size w1 w2):bx w2 c v:=⟨cell_keep hb h.1,fr_keep hb h.1 h.2⟩
def VInt (W0:World)(c:Nat)(g:Nat)(more:Array Value)(f:Sa × Int→Int→Int × Bool):Visit Int where
 f:=f
 I:=fun n W=>Below W0.heap.size W0 W∧bx W c (.int .i64 n)
 In:=memX W0
 g:=g
 lb:=#[.pointer (some ⟨c,0,none⟩)] ++ more
 Bd:=fun _ _=>True
theorem cnt_len (L:List Sa)(l:List St)(v:Value)(h:L.map Sa.s=l)(hS:SlX v L):((preXL L 0).length:Int)=cnt l:=by rw [hS.len 0,h]
def limX (_:Sa × Int)(n:Int):Int × Bool:=(wrap64 (n+1),decide (wrap64 (n+1)≤512))
set_option maxRecDepth 100000 in
set_option maxHeartbeats 4000000 in
theorem vlim_ok (W0:World)(c b:Nat)(hc:W0.heap.size≤c)(hL:W0.cell? ⟨b,0,none⟩=some (.int .i64 512)):(VInt W0 c 137 #[.pointer (some ⟨b,0,none⟩)] limX).Ok where
 eg:=enters_of Tryz.func137 (by kernel_rfl) rfl
 kids:=fun _ h=>memX_kids h
 skel:=fun _ _ h _ hx=>memX_skel h.1 hx
 mono:=fun _ _ _ _ _=>trivial
 less:=fun _ _ _ _ _ _=>trivial
 run:=by
  intro x l n W hx h0 h1 _ hI
  obtain ⟨hB,hb⟩:=hI
  have HB:=Lh hB
  have HX:=Lh hb
  have l0:=cell_keep hB hL
  have hbc:b≠c:=by
   have:=World.block_lt_of_cell? W0 _ hL
   change b < W0.heap.size at this
   omega
  obtain ⟨q,hq⟩:∃ q,wrap64 (n+1)=q:=⟨_,rfl⟩
  show Calls Tryz.prog 137 #[.pointer (some x.A),.int .i64 l,.pointer (some ⟨c,0,none⟩),.pointer (some ⟨b,0,none⟩)] W fun e w'=>e=.returned (.bool (decide (wrap64 (n+1)≤512)))∧Below W0.heap.size W0 w'∧bx w' c (.int .i64 (wrap64 (n+1)))
  rw [hq]
  obtain ⟨c0,c1⟩:=hb
  obtain ⟨z,hz⟩:∃ z,decide (q≤512)=z:=⟨_,rfl⟩
  have HZ:=Lh hz
  rw [hz]
  clear hx hB hL
  cases z
  all_goals
   clear HZ
   go_enter Tryz.func137,Tryz.ntmps137
   go_wp2
   go_ret
   exact ⟨rfl,HB.out.setCell hc _,bx_set HX.out⟩
theorem wlim_of (W0:World)(c b:Nat)(hc:W0.heap.size≤c)(hL:W0.cell? ⟨b,0,none⟩=some (.int .i64 512))(L:List Sa)(l:List St)(v:Value)(w:World)(r:Bool)(hl:Hid (L.map Sa.s=l))(hS:Hid (SlX v L))(hM:Hid (memXL W0 L))(hn:cnt l≤2000000000000)(hB:Hid (Below W0.heap.size W0 w))(hb:Hid (bx w c (.int .i64 0)))(hr:Hid (decide (512 < cnt l)=r)) :
    Calls Tryz.prog 74 #[v,.int .i64 0,.func (.func 137) #[] #[.pointer (some ⟨c,0,none⟩),.pointer (some ⟨b,0,none⟩)]] w fun e w'=>e=.returned (.bool (!r))∧Below W0.heap.size W0 w':=by
 have h2:=run_limit (preXL L 0) 0 (Int.le_refl _) (by omega)
 obtain ⟨q,hq⟩:∃ q,runL limX (preXL L 0) 0=q:=⟨_,rfl⟩
 obtain ⟨R,b2⟩:=q
 have hb2:b2=!r:=by
  have e:(runL limX (preXL L 0) 0).2=b2:=by rw [hq]
  rw [← e]
  refine h2.trans ?_
  rw [cnt_len L l v hl.out hS.out,← hr.out,Bool.eq_iff_iff]
  simp;omega
 subst hb2
 refine (walk_of _ (vlim_ok W0 c b hc hL) L v 0 0 w R (!r) hS (Lh ((memXL_iff _ _).1 hM.out)) (Int.le_refl _) (by rw [hl.out];omega) (by rw [hl.out];exact hn) (Lh trivial) (Lh ⟨hB.out,hb.out⟩) (Lh hq)).mono ?_
 rintro e w' ⟨he,hI⟩
 exact ⟨he,hI.1⟩
set_option maxRecDepth 100000 in
set_option maxHeartbeats 4000000 in
theorem more_of (v:Value)(T:Tr)(r:Bool)(w:World)(h:Hid (TrV w v T))(hn:cnt T.body≤2000000000000)(hr:Hid (decide (512 < cnt T.body)=r)) :
    Calls Tryz.prog 73 #[.int .i64 512,v] w fun e w'=>e=.returned (.bool r)∧Below w.heap.size w w':=by
 obtain ⟨bv,rfl,_,hs⟩:=h.out
 clear h
 obtain ⟨X,hX⟩:∃ X,bb T.name=X:=⟨_,rfl⟩
 obtain ⟨d,hd⟩:∃ d,T.dir=d:=⟨_,rfl⟩
 rw [hX,hd]
 have hB1:=al1 w (.cells #[.int .i64 512] 3)
 have HZ1:Hid ((w.alloc (.cells #[.int .i64 512] 3)).heap.size=w.heap.size+1):=Lh (by simp)
 have hl0:=(bx_new w (.int .i64 512) 3)
 have hB2:=al1 (w.alloc (.cells #[.int .i64 512] 3)) (.cells #[.string X,.bool d,bv] 33)
 have hB:=below_keep hB2 hB1
 have HZ:Hid (((w.alloc (.cells #[.int .i64 512] 3)).alloc (.cells #[.string X,.bool d,bv] 33)).heap.size=w.heap.size+1+1):=Lh (by simp)
 have h3:=at3_new (w.alloc (.cells #[.int .i64 512] 3)) X d bv 33
 rw [HZ1.out] at h3
 have hl1:=(bx_keep hl0 hB2).1
 have hs0:=hs.keep hB
 obtain ⟨L,e1,e2,e3⟩:=sts_sa _ _ _ hs0
 have HB1:=al1 ((w.alloc (.cells #[.int .i64 512] 3)).alloc (.cells #[.string X,.bool d,bv] 33)) (.cells #[.int .i64 0] 3)
 have hbx:=bx_new ((w.alloc (.cells #[.int .i64 512] 3)).alloc (.cells #[.string X,.bool d,bv] 33)) (.int .i64 0) 3
 rw [HZ.out] at hbx
 have C:=Lh (wlim_of _ (w.heap.size+1+1) w.heap.size (by rw [HZ.out];exact Nat.le_refl _) hl1 L T.body bv _ r (Lh e1) (Lh e2) (Lh e3) hn (Lh HB1) (Lh hbx) hr)
 obtain ⟨c0,c1,c2⟩:=h3
 have hB0:=Lh hB
 clear hX hd hs hs0 e1 e2 e3 hbx HB1 hB hB1 hB2 hl0 hl1 hr HZ1
 go_enter Tryz.func73,Tryz.ntmps73
 go_wp2_with fail
 refine C.out.mono ?_
 rintro e w2 ⟨rfl,hb2⟩
 go_wp2
 go_ret
 exact ⟨ret_bool (by simp),below_keep hb2 hB0.out⟩
end Go.Proofs.YtgmidodmmlmmeaaGreatDoor.tre
namespace Go.Proofs.YtgmidodmmlmmeaaGreatDoor.tre
open Go.RowKit Go.Shelf lex
theorem fld01 (s:St):fldE s=0∨fldE s=1:=by
 unfold fldE
 repeat' split
 all_goals simp
theorem fld_kind {s:St}(h:fldE s=0):1≤s.kind∧s.kind≤5:=by
 by_cases hk:s.kind < 1∨5 < s.kind
 ·unfold fldE at h;rw [if_pos hk] at h;exact absurd h (by decide)
 ·omega
theorem sta_alt (s:St)(lv:Int):staE s lv=if decide (fldE s=0)=false then 1 else if s.kind=5∧6≤lv then 2 else if namesB s=false then 5 else attE s:=by
 unfold staE
 rcases fld01 s with h | h
 ·rw [h,if_neg (show ¬ ((0:Int)≠0) from fun e=>e rfl),if_neg (show ¬ (decide ((0:Int)=0)=false) by decide)]
  obtain ⟨k1,k5⟩:=fld_kind h
  by_cases h2:s.kind=5∧6≤lv
  ·rw [if_pos h2,if_pos h2]
  ·rw [if_neg h2,if_neg h2]
   unfold namesB
   by_cases h3:s.kind=1∨s.kind=4∨s.kind=5
   ·rw [if_pos h3]
    cases hn:isNm s.name
    ·rw [if_pos ⟨by omega,by omega,rfl⟩,if_pos (by simp)]
    ·rw [if_neg (by simp),Bool.true_and]
   ·rw [if_neg h3,if_neg (by omega),Bool.true_and]
 ·rw [h,if_pos (show (1:Int)≠0 by decide),if_pos (show decide ((1:Int)=0)=false by decide)]
set_option maxRecDepth 100000 in
set_option maxHeartbeats 8000000 in
theorem sterr_of (s:St)(A:Addr)(lv:Int)(R:Int)(w:World)(h:Hid (stAt w s A))(hR:Hid (staE s lv=R)) :
    Calls Tryz.prog 76 #[.pointer (some A),.int .i64 lv] w fun e w'=>e=.returned (.int .i64 R)∧Below w.heap.size w w':=by
 have hr:=hR.out
 rw [sta_alt] at hr
 obtain ⟨c0,_⟩:=(stAt_eq _ _ _).1 h.out
 obtain ⟨b1,hb1⟩:∃ q,decide (fldE s=0)=q:=⟨_,rfl⟩
 obtain ⟨b3,hb3⟩:∃ q,namesB s=q:=⟨_,rfl⟩
 obtain ⟨E,hE⟩:∃ q,attE s=q:=⟨_,rfl⟩
 have H1:=Lh hb1
 have H3:=Lh hb3
 have HE:=Lh hE
 obtain ⟨k,hk⟩:∃ q,s.kind=q:=⟨_,rfl⟩
 rw [hb1,hb3,hE,hk] at hr
 rw [hk] at c0
 clear hb1 hb3 hE hk hR
 cases b1
 case false =>
  rw [if_pos rfl] at hr
  subst hr
  go_enter Tryz.func76,Tryz.ntmps76
  go_wp2_with fail
  refine (form_of s A false w h H1).mono ?_
  rintro e w' ⟨rfl,rfl⟩
  go_wp2
  go_ret
  exact ⟨rfl,Below.refl _ _⟩
 rw [if_neg (by simp)] at hr
 by_cases g2:k=5∧6≤lv
 case pos =>
  rw [if_pos g2] at hr
  subst hr
  obtain ⟨rfl,l6⟩:=g2
  have d6:decide (6≤lv)=true:=decide_eq_true l6
  go_enter Tryz.func76,Tryz.ntmps76
  go_wp2_with fail
  refine (form_of s A true w h H1).mono ?_
  rintro e w' ⟨rfl,rfl⟩
  go_wp2
  go_ret
  exact ⟨rfl,Below.refl _ _⟩
 rw [if_neg g2] at hr
 have HR:=Lh hr
 have hway:(k == 5)=false∨(k=5∧decide (6≤lv)=false∧¬ 6≤lv):=by
  by_cases k5:k=5
  ·exact Or.inr ⟨k5,decide_eq_false (fun q=>g2 ⟨k5,q⟩),fun q=>g2 ⟨k5,q⟩⟩
  ·exact Or.inl (by rw [beq_eq_false_iff_ne];exact k5)
 clear hr g2
 rcases hway with k5 | ⟨rfl,d6,l6⟩
 all_goals
  cases b3
  ·have HN:Hid ((5:Int)=R):=Lh (by have:=HR.out;rw [if_pos rfl] at this;exact this)
   obtain rfl:=HN.out
   go_enter Tryz.func76,Tryz.ntmps76
   go_wp2_with fail
   refine (form_of s A true w h H1).mono ?_
   rintro e w' ⟨rfl,rfl⟩
   go_wp2_with fail
   refine (names_ok s A false w h H3).mono ?_
   rintro e w2 ⟨rfl,hb2⟩
   go_wp2
   go_ret
   exact ⟨rfl,hb2⟩
  ·have HN:Hid (E=R):=Lh (by have:=HR.out;rw [if_neg (by simp)] at this;exact this)
   obtain rfl:=HN.out
   go_enter Tryz.func76,Tryz.ntmps76
   go_wp2_with fail
   refine (form_of s A true w h H1).mono ?_
   rintro e w' ⟨rfl,rfl⟩
   go_wp2_with fail
   refine (names_ok s A true w h H3).mono ?_
   rintro e w2 ⟨rfl,hb2⟩
   go_wp2_with fail
   refine (att_of s A E w2 (Lh ((st_keep hb2).1 _ _ h.out)) HE).mono ?_
   rintro e w3 ⟨rfl,hb3⟩
   go_wp2
   go_ret
   exact ⟨rfl,below_keep hb3 hb2⟩
def errX (x:Sa × Int)(_:Int):Int × Bool:=(staE x.1.s x.2,decide (staE x.1.s x.2=0))
set_option maxRecDepth 100000 in
set_option maxHeartbeats 4000000 in
theorem verr_ok (W0:World)(c:Nat)(hc:W0.heap.size≤c):(VInt W0 c 75 #[] errX).Ok where
 eg:=enters_of Tryz.func75 (by kernel_rfl) rfl
 kids:=fun _ h=>memX_kids h
 skel:=fun _ _ h _ hx=>memX_skel h.1 hx
 mono:=fun _ _ _ _ _=>trivial
 less:=fun _ _ _ _ _ _=>trivial
 run:=by
  intro x l n W hx h0 h1 _ hI
  obtain ⟨hB,hb⟩:=hI
  have HB:=Lh hB
  have HX:=Lh hb
  have HS:=Lh (memX_at hB hx)
  show Calls Tryz.prog 75 #[.pointer (some x.A),.int .i64 l,.pointer (some ⟨c,0,none⟩)] W fun e w'=>e=.returned (.bool (decide (staE x.s l=0)))∧Below W0.heap.size W0 w'∧bx w' c (.int .i64 (staE x.s l))
  obtain ⟨E,hE⟩:∃ q,staE x.s l=q:=⟨_,rfl⟩
  have HE:=Lh hE
  rw [hE]
  have hz:(E == 0)=decide (E=0):=by rw [Bool.eq_iff_iff,beq_iff_eq,decide_eq_true_eq]
  obtain ⟨z,hz0⟩:∃ z,decide (E=0)=z:=⟨_,rfl⟩
  rw [hz0] at hz ⊢
  clear hx hB hb hE hz0
  go_enter Tryz.func75,Tryz.ntmps75
  go_wp2_with fail
  refine (sterr_of x.s x.A l E W HS HE).mono ?_
  rintro e w2 ⟨rfl,hb2⟩
  have HX2:=Lh (bx_keep HX.out hb2)
  obtain ⟨g0,g1⟩:=HX2.out
  have HB2:=Lh (below_keep hb2 HB.out)
  go_wp2
  go_ret
  exact ⟨rfl,HB2.out.setCell hc _,bx_set HX2.out⟩
theorem werr_of (W0:World)(c:Nat)(hc:W0.heap.size≤c)(L:List Sa)(l:List St)(v:Value)(w:World)(R:Int)(hl:Hid (L.map Sa.s=l))(hS:Hid (SlX v L))(hM:Hid (memXL W0 L))(hn:cnt l≤2000000000000)(hB:Hid (Below W0.heap.size W0 w))(hb:Hid (bx w c (.int .i64 0)))(hR:Hid (firstE (preL l 0)=R)) :
    Calls Tryz.prog 74 #[v,.int .i64 0,.func (.func 75) #[] #[.pointer (some ⟨c,0,none⟩)]] w fun e w'=>(∃ b,e=.returned (.bool b))∧Below W0.heap.size W0 w'∧bx w' c (.int .i64 R):=by
 have h2:=(runL_map (fun (y:St × Int) (_:Int)=>(staE y.1 y.2,decide (staE y.1 y.2=0))) (fun x:Sa × Int=>(x.1.s,x.2)) (preXL L 0) 0)
 rw [hS.out.pre,hl.out] at h2
 obtain ⟨q,hq⟩:∃ q,runL errX (preXL L 0) 0=q:=⟨_,rfl⟩
 have h3:=run_first (preL l 0)
 rw [← h2] at h3
 have h4:q.1=R:=by rw [← hR.out,← h3,← hq];rfl
 obtain ⟨R',b⟩:=q
 obtain rfl:R'=R:=h4
 refine (walk_of _ (verr_ok W0 c hc) L v 0 0 w R' b hS (Lh ((memXL_iff _ _).1 hM.out)) (Int.le_refl _) (by rw [hl.out];omega) (by rw [hl.out];exact hn) (Lh trivial) (Lh ⟨hB.out,hb.out⟩) (Lh hq)).mono ?_
 rintro e w' ⟨he,hI⟩
 exact ⟨⟨b,he⟩,hI⟩
set_option maxRecDepth 100000 in
set_option maxHeartbeats 8000000 in
theorem valid_of (v:Value)(T:Tr)(R:Int)(w:World)(h:Hid (TrV w v T))(hn:cnt T.body≤2000000000000)(hR:Hid (validT T=R)) :
    Calls Tryz.prog 32 #[v] w fun e w'=>e=.returned (.int .i64 R)∧Below w.heap.size w w':=by
 obtain ⟨bv,rfl,hnm,hs⟩:=h.out
 have hr:=hR.out
 unfold validT at hr
 obtain ⟨X,hX⟩:∃ X,bb T.name=X:=⟨_,rfl⟩
 have hXd:X.data.toList=T.name:=by rw [← hX]
 have HZ:Hid (X.size≤maxLen):=Lh (by rw [← b_size,hXd];exact hnm)
 obtain ⟨nm,hnv⟩:∃ q,isNm T.name=q:=⟨_,rfl⟩
 obtain ⟨mr,hmr⟩:∃ q,decide (512 < cnt T.body)=q:=⟨_,rfl⟩
 have HMR:=Lh hmr
 have HNM:Hid (isNm X.data.toList=nm):=Lh (by rw [hXd];exact hnv)
 have hT:Hid (TrV w (.agg #[.string X,.bool T.dir,bv]) T):=Lh (by rw [← hX];exact h.out)
 obtain ⟨d,hd⟩:∃ d,T.dir=d:=⟨_,rfl⟩
 rw [hd] at hT
 rw [hX,hd]
 have hr2:(if nm=false then (5:Int) else if mr=true then 2 else firstE (preL T.body 0))=R:=by
  rw [← hr,hnv,← hmr]
  by_cases q:512 < cnt T.body
  ·rw [if_pos q,if_pos (decide_eq_true q)]
  ·rw [if_neg q,if_neg (show ¬ (decide (512 < cnt T.body)=true) by rw [decide_eq_true_eq];exact q)]
 have HR:=Lh hr2
 have hB:=al1 w (.cells #[.string X,.bool d,bv] 33)
 have h3:=at3_new w X d bv 33
 have HS:=Lh (hs.keep hB)
 have HT1:=Lh (hT.out.keep hB)
 have HB0:=Lh hB
 obtain ⟨c0,c1,c2⟩:=id h3
 clear hR hr hr2 hX hXd hnv hmr hd hnm hs h hT hB
 go_enter Tryz.func32,Tryz.ntmps32
 go_wp2_with fail
 refine (isname_of _ _ _ HZ.out HNM).mono ?_
 rintro e w2 ⟨rfl,hb2⟩
 have hB2:=below_keep hb2 HB0.out
 have h3:=at3_keep h3 hb2
 clear c0 c1 c2
 obtain ⟨c0,c1,c2⟩:=id h3
 have HS2:=Lh (HS.out.keep hb2)
 have HT2:=Lh (HT1.out.keep hb2)
 cases nm
 case false =>
  have HN:Hid ((5:Int)=R):=Lh (by have:=HR.out;rw [if_pos rfl] at this;exact this)
  obtain rfl:=HN.out
  go_wp2
  go_ret
  exact ⟨rfl,hB2⟩
 go_wp2_with fail
 refine (more_of _ T mr _ HT2 hn HMR).mono ?_
 rintro e w3 ⟨rfl,hb3⟩
 have hB3:=below_keep hb3 hB2
 have h3:=at3_keep h3 hb3
 clear c0 c1 c2
 obtain ⟨c0,c1,c2⟩:=id h3
 have hs3:=HS2.out.keep hb3
 cases mr
 case true =>
  have HN:Hid ((2:Int)=R):=Lh (by have:=HR.out;rw [if_neg (by simp),if_pos rfl] at this;exact this)
  obtain rfl:=HN.out
  go_wp2
  go_ret
  exact ⟨rfl,hB3⟩
 have HF:Hid (firstE (preL T.body 0)=R):=Lh (by have:=HR.out;rw [if_neg (by simp),if_neg (by simp)] at this;exact this)
 obtain ⟨L,e1,e2,e3⟩:=sts_sa _ _ _ hs3
 have HB1:=al1 w3 (.cells #[.int .i64 0] 34)
 have hbx:=bx_new w3 (.int .i64 0) 34
 have C:=Lh (werr_of w3 w3.heap.size (Nat.le_refl _) L T.body bv _ R (Lh e1) (Lh e2) (Lh e3) hn (Lh HB1) (Lh hbx) HF)
 have hz3:=World.block_lt_of_cell? w3 _ c0
 change w.heap.size < w3.heap.size at hz3
 have hn3:w.heap.size≠w3.heap.size:=by omega
 clear hs3 e1 e2 e3 HB1 hbx
 go_wp2_with fail
 refine C.out.mono ?_
 rintro e w4 ⟨⟨bb4,rfl⟩,hb4,hx4⟩
 obtain ⟨g0,g1⟩:=hx4
 go_wp2
 go_ret
 exact ⟨rfl,below_keep hb4 hB3⟩
end Go.Proofs.YtgmidodmmlmmeaaGreatDoor.tre
