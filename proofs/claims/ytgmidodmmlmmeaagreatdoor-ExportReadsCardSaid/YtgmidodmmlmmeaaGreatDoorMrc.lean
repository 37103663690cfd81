/-
  The landed parser's small methods: peek, here, skip, sees, accept, expect, end, name. Condition: the reader lies in memory.
  The landed parser's methods accept, expect, end, name, value. Condition: tokens of a source.
  The landed parser's methods name and value. Condition: tokens of a source.
-/
import Derived.Test.YtgmidodmmlmmeaaGreatDoorMrb
namespace Go.Proofs.YtgmidodmmlmmeaaGreatDoor.par
open Go.RowKit lex tre prt
abbrev tokV (t:Tok):Value:=.agg #[.int .i64 t.kind,.string (bb t.text),.int .i64 t.num,.int .i64 t.line]
def topL (L l:List Tok):Tok:=match l with
 | []=>⟨0,[],0,lineOf L []⟩
 | t :: _=>t
theorem topL_line (L l:List Tok):(topL L l).line=lineOf L l:=by cases l <;> rfl
theorem peek_nil (L:List Tok)(R:Nat)(A:ByteArray)(lev:Int)(w:World)(h:Hid (Rd L R w [] A lev)) :
    Calls Tryz.prog 178 #[.pointer (some ⟨R,0,none⟩)] w fun e w'=>e=.returned (tokV (topL L []))∧Below w.heap.size w w':=by
 obtain ⟨ao,cap,ln,c0,c1,f0,f1,e1,_,_⟩:=h.out.open
 have hR:=h.out.lt
 have hne:R≠w.heap.size:=by omega
 rw [show (topT ln []).line=ln from rfl] at e1
 go_enter Tryz.func178,Tryz.ntmps178
 go_wp2
 refine bodyPost_ret (v:=tokV (topL L [])) (by simp [results,Tryz.results178,go_sem,topL]) rfl ?_
 exact ⟨rfl,al1 w _⟩
theorem peek_cons (L:List Tok)(R:Nat)(t:Tok)(r:List Tok)(A:ByteArray)(lev:Int)(w:World)(h:Hid (Rd L R w (t :: r) A lev)) :
    Calls Tryz.prog 178 #[.pointer (some ⟨R,0,none⟩)] w fun e w'=>e=.returned (tokV t)∧Below w.heap.size w w':=by
 obtain ⟨ao,cap,ln,c0,c1,f0,f1,e1,hcap,hc⟩:=h.out.open
 obtain ⟨A0,rfl,a0,a1,a2,a3,hb⟩:=hc t r rfl
 have hR:=h.out.lt
 have hne:R≠w.heap.size:=by omega
 have hA:=World.block_lt_of_cell? w _ a0
 have hA2:A0.block≠w.heap.size:=by omega
 have z1:(0:Int) < ((t :: r).length:Int):=by simp
 have z2:((((t :: r).length:Nat):Int) == 0)=false:=by rw [beq_eq_false_iff_ne];omega
 obtain ⟨k,n,m,j⟩:=t
 have eA:A0.add 0=A0:=by unfold Addr.add;rfl
 generalize (Tok.mk k n m j :: r).length=len at c0 z1 z2
 clear hc e1
 go_enter Tryz.func178,Tryz.ntmps178
 go_wp2
 refine bodyPost_ret (v:=tokV ⟨k,n,m,j⟩) (by simp [results,Tryz.results178,go_sem]) rfl ?_
 exact ⟨rfl,al1 w _⟩
theorem Tl_tail {W:World}{A0:Addr}{cap cap':Nat}{ao':Addr}{t:Tok}{r:List Tok}(h:Tl W (.slice (some A0) (t :: r).length cap) (t :: r))(hh:(cap=1∧cap'=0)∨(ao'=⟨A0.block,A0.off+4,none⟩∧cap'=cap - 1)):Tl W (.slice (some ao') r.length cap') r:=by
 have hc:(t :: r).length≤cap:=by obtain ⟨ao,cap,e,h1,_⟩:=h;cases e;exact h1
 rw [List.length_cons] at hc
 refine ⟨some ao',cap',rfl,by omega,fun hn=>⟨ao',rfl,fun i hi=>?_⟩⟩
 rcases hh with ⟨h1,_⟩ | ⟨rfl,_⟩
 ·omega
 obtain ⟨A1,eA,_,h0⟩:=h.at' (i:=0) (by simp)
 obtain ⟨A2,eA2,_,c0,c1,c2,c3⟩:=h.at' (i:=i+1) (by simp;omega)
 cases eA;cases eA2
 have hs:=spot_none h0.1
 rw [show A0.add (0*4)=A0 by unfold Addr.add;rfl] at hs
 obtain ⟨b,o,q⟩:=A0
 simp only [Addr.mk.injEq,true_and] at hs
 subst hs
 rw [add_at] at c0 c1 c2 c3 ⊢
 have e1:o+(i+1)*4=o+4+i*4:=by omega
 rw [tokAt_succ] at c0 c1 c2 c3
 rw [e1] at c0 c1 c2 c3
 exact ⟨c0,c1,c2,c3⟩
theorem lastLn_snoc (p:List Tok)(t:Tok):lastLn (p ++ [t])=t.line:=by unfold lastLn;simp
theorem Rd.skip {L:List Tok}{R:Nat}{w:World}{t:Tok}{r:List Tok}{A:ByteArray}{lev:Int}(h:Rd L R w (t :: r) A lev){A0 ao':Addr}{cap cap':Nat}(c0:w.cell? ⟨R,0,none⟩=some (.slice (some A0) (t :: r).length cap))(hh:(cap=1∧cap'=0)∨(ao'=⟨A0.block,A0.off+4,none⟩∧cap'=cap - 1)) :
    Rd L R ((w.setCell ⟨R,1,none⟩ (.int .i64 t.line)).setCell ⟨R,0,none⟩ (.slice (some ao') r.length cap')) r A lev:=by
 obtain ⟨ao,cp,ln,h1,h2,p,h3,h4⟩:=h
 have e:w.cell? ⟨R,0,none⟩=some (.slice ao (t :: r).length cp):=by rw [blk_cell h1];rfl
 rw [c0] at e
 cases e
 refine ⟨_,cap',t.line,?_,fun W hW=>⟨Tl_tail (h2 W (fun q q1 q2=>?_)).1 hh,(h2 W (fun q q1 q2=>?_)).2⟩,p ++ [t],by rw [h3];simp,lastLn_snoc p t⟩
 ·have:=blk_set (o:=0) (blk_set (o:=1) h1 (.int .i64 t.line)) (.slice (some ao') r.length cap')
  simpa using this
 all_goals rw [hW q q1 q2,Below.heap_setCell _ _ _ _ (show q≠R by omega),Below.heap_setCell _ _ _ _ (show q≠R by omega)]
theorem skip_cons (L:List Tok)(R:Nat)(t:Tok)(r:List Tok)(A:ByteArray)(lev:Int)(w:World)(HR:Hid (Rd L R w (t :: r) A lev)) :
    Calls Tryz.prog 177 #[.pointer (some ⟨R,0,none⟩)] w fun e w'=>e=.returned (.tuple #[])∧Rd L R w' r A lev∧Pk R w w':=by
 obtain ⟨ao,cap,ln,c0,c1,f0,f1,e1,hcap,hc⟩:=HR.out.open
 obtain ⟨A0,rfl,a0,a1,a2,a3,hb⟩:=hc t r rfl
 have hR:=HR.out.lt
 have hl:(t :: r).length=r.length+1:=rfl
 have C0:=Lh c0
 rw [hl] at c0 hcap
 have z1:(0:Int) < ((r.length+1:Nat):Int):=by omega
 have eA:A0.add 0=A0:=by unfold Addr.add;rfl
 have z3:(1:Int)≤((r.length+1:Nat):Int):=by omega
 have z4:((r.length+1:Nat):Int)≤(cap:Int):=by omega
 clear hc e1 hl
 go_enter Tryz.func177,Tryz.ntmps177
 go_wp2
 ·go_end0
  exact ⟨rfl,Rd.skip HR.out C0.out (Or.inl ⟨h,rfl⟩),(Pk.set R w 1 _).trans (Pk.set R _ 0 _)⟩
 ·go_end0
  exact ⟨rfl,Rd.skip HR.out C0.out (Or.inr ⟨rfl,rfl⟩),(Pk.set R w 1 _).trans (Pk.set R _ 0 _)⟩
theorem peek_of (L:List Tok)(R:Nat)(l:List Tok)(A:ByteArray)(lev:Int)(k m ln:Int)(n:List UInt8)(w:World)(h:Hid (Rd L R w l A lev))(hT:Hid (topL L l=⟨k,n,m,ln⟩)) :
    Calls Tryz.prog 178 #[.pointer (some ⟨R,0,none⟩)] w fun e w'=>e=.returned (.agg #[.int .i64 k,.string (bb n),.int .i64 m,.int .i64 ln])∧Below w.heap.size w w':=by
 have:=hT.out
 cases l with
 | nil=>have q:=peek_nil L R A lev w h;rw [this] at q;exact q
 | cons t r=>have q:=peek_cons L R t r A lev w h;rw [show t=⟨k,n,m,ln⟩ from this] at q;exact q
theorem topL_ex (L l:List Tok):∃ k m n,topL L l=⟨k,n,m,lineOf L l⟩:=by
 have:=topL_line L l
 cases hq:topL L l with
 | mk a b c d=>rw [hq] at this;exact ⟨a,c,b,by rw [← this]⟩
set_option maxRecDepth 100000 in
theorem here_of (L:List Tok)(R:Nat)(l:List Tok)(A:ByteArray)(lev e0 ln:Int)(w:World)(h:Hid (Rd L R w l A lev))(hln:Hid (lineOf L l=ln)) :
    Calls Tryz.prog 117 #[.pointer (some ⟨R,0,none⟩),.int .i64 e0] w fun e w'=>e=.returned (.agg #[.int .i64 ln,.int .i64 e0])∧Below w.heap.size w w':=by
 obtain ⟨k,m,n,hT⟩:=topL_ex L l
 rw [hln.out] at hT
 have HT:=Lh hT
 obtain ⟨N,hN⟩:∃ N,bb n=N:=⟨_,rfl⟩
 have HP:=Lh (peek_of L R l A lev k m ln n _ (Lh (h.out.alloc (.cells #[.int .i64 0,.int .i64 0] 108))) HT)
 rw [hN] at HP
 have hfd:∀ W,(Instr.field 247 (.agg #[.int .i64 k,.string N,.int .i64 m,.int .i64 ln]) 3).run Tryz.prog W=.ok (.int .i64 ln) W:=fun W=>by kernel_rfl
 clear hT hN
 go_enter Tryz.func117,Tryz.ntmps117
 go_wp2_with fail
 refine HP.out.mono ?_
 rintro e w1 ⟨rfl,hb⟩
 have HB:=Lh (below_keep hb (al1 w _))
 have hk:=blk_new w #[.int .i64 0,.int .i64 0] 108
 have hk1:blk w1 w.heap.size 108 #[.int .i64 0,.int .i64 0]:=by unfold blk at hk ⊢;rw [hb.block _ (by simp)];exact hk
 have b0:w1.cell? ⟨w.heap.size,0,none⟩=some (.int .i64 0):=by rw [blk_cell hk1];rfl
 have b1:w1.cell? ⟨w.heap.size,1,none⟩=some (.int .i64 0):=by rw [blk_cell hk1];rfl
 have g0:w1.frozen? ⟨w.heap.size,0,none⟩=false:=blk_free hk1
 have g1:w1.frozen? ⟨w.heap.size,1,none⟩=false:=blk_free hk1
 clear hk hk1 hb
 go_wp2
 refine bodyPost_ret (v:=.agg #[.int .i64 ln,.int .i64 e0]) (by simp [results,Tryz.results117,go_sem,b0,b1]) rfl ?_
 exact ⟨rfl,(HB.out.setCell (p:=⟨w.heap.size,0,none⟩) (Nat.le_refl _) _).setCell (p:=⟨w.heap.size,1,none⟩) (Nat.le_refl _) _⟩
def seesL (c:List UInt8):List Tok→Bool
 | []=>false
 | t :: _=>(decide (t.kind=2) || decide (t.kind=5)) && decide (t.text=c)
theorem sees_top (L l:List Tok){k m ln:Int}{n:List UInt8}(c:List UInt8)(h:topL L l=⟨k,n,m,ln⟩):seesL c l=((decide (k=2) || decide (k=5)) && decide (n=c)):=by
 cases l with
 | nil=>cases h;rfl
 | cons t r=>rw [show t=⟨k,n,m,ln⟩ from h];rfl
theorem bb_eq (n c:List UInt8):((bb n).toList == (bb c).toList)=decide (n=c):=by
 rw [ByteArray.toList_eq,ByteArray.toList_eq,Bool.eq_iff_iff];simp
set_option maxRecDepth 100000 in
theorem sees_of (L:List Tok)(R:Nat)(l:List Tok)(A:ByteArray)(lev:Int)(c:List UInt8)(b:Bool)(w:World)(h:Hid (Rd L R w l A lev))(hb:Hid (seesL c l=b)) :
    Calls Tryz.prog 176 #[.pointer (some ⟨R,0,none⟩),.string (bb c)] w fun e w'=>e=.returned (.bool b)∧Below w.heap.size w w':=by
 obtain ⟨k,m,n,hT⟩:=topL_ex L l
 obtain ⟨ln,hln⟩:∃ ln,lineOf L l=ln:=⟨_,rfl⟩
 rw [hln] at hT
 have HT:=Lh hT
 have hs:=sees_top L l c hT
 rw [hb.out] at hs
 have hbb:=bb_eq n c
 obtain ⟨N,hN⟩:∃ N,bb n=N:=⟨_,rfl⟩
 obtain ⟨C,hC⟩:∃ C,bb c=C:=⟨_,rfl⟩
 have HP:=Lh (peek_of L R l A lev k m ln n _ h HT)
 rw [hN] at HP hbb
 rw [hC] at hbb ⊢
 generalize decide (n=c)=q at hs hbb
 clear hT hN hC hln
 have HS:=Lh hs
 go_enter Tryz.func176,Tryz.ntmps176
 go_wp2_with fail
 refine HP.out.mono ?_
 rintro e w1 ⟨rfl,hb1⟩
 have HB:=Lh (below_keep (al1 w1 (.cells #[.int .i64 k,.string N,.int .i64 m,.int .i64 ln] 247)) hb1)
 clear hb1 hs
 by_cases k2:k=2
 ·subst k2
  go_wp2
  go_ret
  exact ⟨ret_bool (by rw [HS.out];simp),HB.out⟩
 ·have b2:(k == 2)=false:=by rw [beq_eq_false_iff_ne];exact k2
  have d2:decide (k=2)=false:=decide_eq_false k2
  by_cases k5:k=5
  ·subst k5
   go_wp2
   go_ret
   exact ⟨ret_bool (by rw [HS.out];simp),HB.out⟩
  ·have b5:(k == 5)=false:=by rw [beq_eq_false_iff_ne];exact k5
   have d5:decide (k=5)=false:=decide_eq_false k5
   go_wp2
   go_ret
   exact ⟨ret_bool (by rw [HS.out,d2,d5];simp),HB.out⟩
def Out {α:Type}(L:List Tok)(R:Nat)(A:ByteArray)(lev:Int)(V:α→World→World→Value→Prop)(w:World)(x:Rz α)(e:Ending)(w':World):Prop :=
 Pk R w w'∧match x with
  | .ok a l'=>∃ v,e=.returned v∧V a w w' v∧Rd L R w' l' A lev
  | .er c l'=>e=.panicked (pan (lineOf L l') c)
theorem Out.er {α:Type}{L:List Tok}{R:Nat}{A:ByteArray}{lev:Int}{V:α→World→World→Value→Prop}{w w':World}{l:List Tok}{c ln:Int}(hp:Pk R w w')(hl:lineOf L l=ln) :
    Out L R A lev V w (.er c l) (.panicked [{ v:=.iface 108 (.agg #[.int .i64 ln,.int .i64 c]),recovered:=false }]) w':=⟨hp,by subst hl;rfl⟩
theorem Out.pn {α:Type}{L:List Tok}{R:Nat}{A:ByteArray}{lev:Int}{V:α→World→World→Value→Prop}{w w':World}{l:List Tok}{c:Int}{x:Rz α}(hx:.er c l=x)(hp:Pk R w w'):Out L R A lev V w x (.panicked (pan (lineOf L l) c)) w':=by subst hx;exact ⟨hp,rfl⟩
theorem Out.ok {α:Type}{L:List Tok}{R:Nat}{A:ByteArray}{lev:Int}{V:α→World→World→Value→Prop}{w w':World}{l:List Tok}{a:α}{v:Value}{x:Rz α}(hx:.ok a l=x)(hp:Pk R w w')(hv:V a w w' v)(hr:Rd L R w' l A lev):Out L R A lev V w x (.returned v) w':=by subst hx;exact ⟨hp,v,rfl,hv,hr⟩
def VU (_:Unit)(_ _:World)(v:Value):Prop:=v=.tuple #[]
def VS (a:List UInt8)(_ _:World)(v:Value):Prop:=v=.string (bb a)∧a.length≤16384
theorem sees_true {c:List UInt8}{l:List Tok}(h:seesL c l=true):∃ t r,l=t :: r:=by
 cases l with
 | nil=>cases h
 | cons t r=>exact ⟨t,r,rfl⟩
theorem sees_mk {L l:List Tok}(hL:TokL L)(hs:l <:+ L){c:List UInt8}(hk:isKw c=false):seesL c l=isT 5 c l:=by
 cases l with
 | nil=>rfl
 | cons t r =>
  have:=(hL.2 t (hs.mem (by simp))).2.2.2.1
  show ((decide (t.kind=2) || decide (t.kind=5)) && decide (t.text=c))=(decide (t.kind=5) && decide (t.text=c))
  by_cases h2:t.kind=2
  ·have h3:t.text≠c:=fun e=>by rw [← e,this h2] at hk;cases hk
   rw [decide_eq_false h3];simp
  ·rw [decide_eq_false h2];simp
theorem sees_kw {L l:List Tok}(hL:TokL L)(hs:l <:+ L){c:List UInt8}(hk:isMk c=false):seesL c l=isT 2 c l:=by
 cases l with
 | nil=>rfl
 | cons t r =>
  have:=(hL.2 t (hs.mem (by simp))).2.2.2.2
  show ((decide (t.kind=2) || decide (t.kind=5)) && decide (t.text=c))=(decide (t.kind=2) && decide (t.text=c))
  by_cases h2:t.kind=5
  ·have h3:t.text≠c:=fun e=>by rw [← e,this h2] at hk;cases hk
   rw [decide_eq_false h3];simp
  ·rw [decide_eq_false h2];simp
set_option maxRecDepth 100000 in
theorem accept_of (L:List Tok)(R:Nat)(l l':List Tok)(A:ByteArray)(lev:Int)(c:List UInt8)(b:Bool)(w:World)(h:Hid (Rd L R w l A lev))(hb:Hid (seesL c l=b))(hl:Hid ((if b then l.tail else l)=l')) :
    Calls Tryz.prog 113 #[.pointer (some ⟨R,0,none⟩),.string (bb c)] w fun e w'=>e=.returned (.bool b)∧Rd L R w' l' A lev∧Pk R w w':=by
 have HP:=Lh (sees_of L R l A lev c b w h hb)
 obtain ⟨C,hC⟩:∃ C,bb c=C:=⟨_,rfl⟩
 rw [hC] at HP ⊢
 clear hC
 cases b with
 | false =>
  go_enter Tryz.func113,Tryz.ntmps113
  go_wp2_with fail
  refine HP.out.mono ?_
  rintro e w1 ⟨rfl,hb1⟩
  have HB:=Lh hb1
  clear hb1
  go_wp2
  go_ret
  exact ⟨rfl,by have:=hl.out;simp at this;subst this;exact h.out.below HB.out,Pk.below HB.out⟩
 | true =>
  obtain ⟨t,r,rfl⟩:=sees_true hb.out
  obtain rfl:r=l':=by have:=hl.out;simpa using this
  clear hl
  go_enter Tryz.func113,Tryz.ntmps113
  go_wp2_with fail
  refine HP.out.mono ?_
  rintro e w1 ⟨rfl,hb1⟩
  have HB:=Lh hb1
  clear hb1
  go_wp2_with fail
  refine (skip_cons L R t r A lev _ (Lh (h.out.below HB.out))).mono ?_
  rintro e w2 ⟨rfl,hr,hp⟩
  have H2:=Lh (And.intro hr ((Pk.below HB.out).trans hp))
  clear hr hp
  go_wp2
  go_ret
  exact ⟨rfl,H2.out.1,H2.out.2⟩
set_option maxRecDepth 100000 in
theorem expect_of (L:List Tok)(R:Nat)(l:List Tok)(A:ByteArray)(lev:Int)(c:List UInt8)(x:Rz Unit)(w:World)(h:Hid (Rd L R w l A lev))(hx:Hid ((if seesL c l then .ok () l.tail else .er 4 l)=x)) :
    Calls Tryz.prog 114 #[.pointer (some ⟨R,0,none⟩),.string (bb c)] w (Out L R A lev VU w x):=by
 cases hs:seesL c l with
 | true =>
  have HP:=Lh (accept_of L R l l.tail A lev c true w h (Lh hs) (Lh (by simp)))
  obtain ⟨C,hC⟩:∃ C,bb c=C:=⟨_,rfl⟩
  rw [hC] at HP ⊢
  obtain rfl:.ok () l.tail=x:=by have:=hx.out;rw [hs] at this;simpa using this
  clear hC hs hx
  go_enter Tryz.func114,Tryz.ntmps114
  go_wp2_with fail
  refine HP.out.mono ?_
  rintro e w1 ⟨rfl,hr,hp⟩
  have H2:=Lh (And.intro hr hp)
  clear hr hp
  go_wp2
  go_end0
  exact ⟨H2.out.2,_,rfl,rfl,H2.out.1⟩
 | false =>
  have HP:=Lh (accept_of L R l l A lev c false w h (Lh hs) (Lh (by simp)))
  obtain ⟨C,hC⟩:∃ C,bb c=C:=⟨_,rfl⟩
  rw [hC] at HP ⊢
  obtain rfl:.er 4 l=x:=by have:=hx.out;rw [hs] at this;simpa using this
  obtain ⟨ln,hln⟩:∃ ln,lineOf L l=ln:=⟨_,rfl⟩
  have HL:=Lh hln
  clear hC hs hx hln
  go_enter Tryz.func114,Tryz.ntmps114
  go_wp2_with fail
  refine HP.out.mono ?_
  rintro e w1 ⟨rfl,hr,hp⟩
  have H2:=Lh (And.intro hr hp)
  clear hr hp
  go_wp2_with fail
  refine (here_of L R l A lev 4 ln _ (Lh H2.out.1) HL).mono ?_
  rintro e w2 ⟨rfl,hb⟩
  have H3:=Lh (H2.out.2.trans (Pk.below hb))
  clear hb
  go_wp2
  exact ⟨rfl,Out.er H3.out HL.out⟩
theorem expect_mk (L:List Tok)(hL:Hid (TokL L))(R:Nat)(l:List Tok)(A:ByteArray)(lev:Int)(c:List UInt8)(C:ByteArray)(x:Rz Unit)(w:World)(hC:bb c=C)(h:Hid (Rd L R w l A lev))(hk:isKw c=false)(hx:Hid (wantM c l=x)) :
    Calls Tryz.prog 114 #[.pointer (some ⟨R,0,none⟩),.string C] w (Out L R A lev VU w x):=by
 subst hC
 refine expect_of L R l A lev c x w h (Lh ?_)
 rw [sees_mk hL.out h.out.suf hk,← hx.out];rfl
theorem accept_mk (L:List Tok)(hL:Hid (TokL L))(R:Nat)(l l':List Tok)(A:ByteArray)(lev:Int)(c:List UInt8)(C:ByteArray)(b:Bool)(w:World)(hC:bb c=C)(h:Hid (Rd L R w l A lev))(hk:isKw c=false)(hb:Hid (isT 5 c l=b))(hl:Hid ((if b then l.tail else l)=l')) :
    Calls Tryz.prog 113 #[.pointer (some ⟨R,0,none⟩),.string C] w fun e w'=>e=.returned (.bool b)∧Rd L R w' l' A lev∧Pk R w w':=by
 subst hC
 exact accept_of L R l l' A lev c b w h (Lh (by rw [sees_mk hL.out h.out.suf hk];exact hb.out)) hl
theorem accept_kw (L:List Tok)(hL:Hid (TokL L))(R:Nat)(l l':List Tok)(A:ByteArray)(lev:Int)(c:List UInt8)(C:ByteArray)(b:Bool)(w:World)(hC:bb c=C)(h:Hid (Rd L R w l A lev))(hk:isMk c=false)(hb:Hid (isT 2 c l=b))(hl:Hid ((if b then l.tail else l)=l')) :
    Calls Tryz.prog 113 #[.pointer (some ⟨R,0,none⟩),.string C] w fun e w'=>e=.returned (.bool b)∧Rd L R w' l' A lev∧Pk R w w':=by
 subst hC
 exact accept_of L R l l' A lev c b w h (Lh (by rw [sees_kw hL.out h.out.suf hk];exact hb.out)) hl
theorem sees_mk_of (L:List Tok)(hL:Hid (TokL L))(R:Nat)(l:List Tok)(A:ByteArray)(lev:Int)(c:List UInt8)(C:ByteArray)(b:Bool)(w:World)(hC:bb c=C)(h:Hid (Rd L R w l A lev))(hk:isKw c=false)(hb:Hid (isT 5 c l=b)) :
    Calls Tryz.prog 176 #[.pointer (some ⟨R,0,none⟩),.string C] w fun e w'=>e=.returned (.bool b)∧Below w.heap.size w w':=by
 subst hC
 exact sees_of L R l A lev c b w h (Lh (by rw [sees_mk hL.out h.out.suf hk];exact hb.out))
set_option maxRecDepth 100000 in
theorem end_of (L:List Tok)(R:Nat)(l:List Tok)(A:ByteArray)(lev:Int)(x:Rz Unit)(w:World)(h:Hid (Rd L R w l A lev))(hx:Hid ((if l.isEmpty then .ok () l else .er 4 l)=x)) :
    Calls Tryz.prog 54 #[.pointer (some ⟨R,0,none⟩)] w (Out L R A lev VU w x):=by
 obtain ⟨ao,cap,ln,c0,c1,f0,f1,e1,_,_⟩:=h.out.open
 obtain ⟨lq,hln⟩:∃ ln,lineOf L l=ln:=⟨_,rfl⟩
 have HL:=Lh hln
 cases l with
 | nil =>
  obtain rfl:.ok () []=x:=hx.out
  have d:¬ (0:Int) < (([]:List Tok).length:Int):=by simp
  clear hln e1 hx
  go_enter Tryz.func54,Tryz.ntmps54
  go_wp2
  go_end0
  exact ⟨Pk.refl _ _,_,rfl,rfl,h.out⟩
 | cons t r =>
  obtain rfl:.er 4 (t :: r)=x:=hx.out
  have d:(0:Int) < ((t :: r).length:Int):=by simp
  generalize (t :: r).length=len at c0 d
  clear hln e1 hx
  go_enter Tryz.func54,Tryz.ntmps54
  go_wp2_with fail
  refine (here_of L R (t :: r) A lev 4 lq _ h HL).mono ?_
  rintro e w2 ⟨rfl,hb⟩
  have H3:=Lh (Pk.below (R:=R) hb)
  clear hb
  go_wp2
  exact ⟨rfl,Out.er H3.out HL.out⟩
set_option maxRecDepth 100000 in
theorem name_no (L:List Tok)(R:Nat)(l:List Tok)(A:ByteArray)(lev k m ln:Int)(n:List UInt8)(w:World)(h:Hid (Rd L R w l A lev))(hT:Hid (topL L l=⟨k,n,m,ln⟩))(hk:k≠1)(hl:Hid (lineOf L l=ln)) :
    Calls Tryz.prog 115 #[.pointer (some ⟨R,0,none⟩)] w (Out L R A lev VS w (.er 4 l)):=by
 have HP:=Lh (peek_of L R l A lev k m ln n w h hT)
 obtain ⟨N,hN⟩:∃ N,bb n=N:=⟨_,rfl⟩
 rw [hN] at HP
 have b1:(k != 1)=true:=by rw [bne_iff_ne];exact hk
 clear hN
 go_enter Tryz.func115,Tryz.ntmps115
 go_wp2_with fail
 refine HP.out.mono ?_
 rintro e w1 ⟨rfl,hb1⟩
 have HB:=Lh (below_keep (al1 w1 (.cells #[.int .i64 k,.string N,.int .i64 m,.int .i64 ln] 247)) hb1)
 clear hb1
 go_wp2_with fail
 refine (here_of L R l A lev 4 ln _ (Lh (h.out.below HB.out)) hl).mono ?_
 rintro e w2 ⟨rfl,hb⟩
 have H3:=Lh ((Pk.below (R:=R) HB.out).trans (Pk.below hb))
 clear hb
 go_wp2
 exact ⟨rfl,Out.er H3.out hl.out⟩
set_option maxRecDepth 100000 in
theorem name_yes (L:List Tok)(R:Nat)(r:List Tok)(A:ByteArray)(lev m j:Int)(n:List UInt8)(w:World)(h:Hid (Rd L R w (⟨1,n,m,j⟩ :: r) A lev))(hn:n.length≤16384) :
    Calls Tryz.prog 115 #[.pointer (some ⟨R,0,none⟩)] w (Out L R A lev VS w (.ok n r)):=by
 have HP:=Lh (peek_of L R _ A lev 1 m j n w h (Lh rfl))
 obtain ⟨N,hN⟩:∃ N,bb n=N:=⟨_,rfl⟩
 rw [hN] at HP
 have HN:=Lh hN
 clear hN
 go_enter Tryz.func115,Tryz.ntmps115
 go_wp2_with fail
 refine HP.out.mono ?_
 rintro e w1 ⟨rfl,hb1⟩
 have HB:=Lh (below_keep (al1 w1 (.cells #[.int .i64 1,.string N,.int .i64 m,.int .i64 j] 247)) hb1)
 have hs1:R≠w1.heap.size:=by have:=h.out.lt;have:=hb1.size;omega
 have hk0:=blk_new w1 #[.int .i64 1,.string N,.int .i64 m,.int .i64 j] 247
 have HK:=Lh hk0
 clear hb1 hk0
 go_wp2_with fail
 refine (skip_cons L R _ r A lev _ (Lh (h.out.below HB.out))).mono ?_
 rintro e w2 ⟨rfl,hr,hp⟩
 have a1:w2.cell? ⟨w1.heap.size,1,none⟩=some (.string N):=hp.cell (Ne.symm hs1) (by rw [blk_cell HK.out];rfl)
 have H2:=Lh (And.intro hr ((Pk.below HB.out).trans hp))
 clear hr hp
 go_wp2
 go_ret
 exact Out.ok rfl H2.out.2 ⟨congrArg Value.string HN.out.symm,hn⟩ H2.out.1
theorem name_of (L:List Tok)(hL:Hid (TokL L))(R:Nat)(l:List Tok)(A:ByteArray)(lev:Int)(x:Rz (List UInt8))(w:World)(h:Hid (Rd L R w l A lev))(hx:Hid (nameR l=x)) :
    Calls Tryz.prog 115 #[.pointer (some ⟨R,0,none⟩)] w (Out L R A lev VS w x):=by
 rw [← hx.out]
 cases l with
 | nil=>exact name_no L R [] A lev 0 0 (lineOf L []) [] w h (Lh rfl) (by decide) (Lh rfl)
 | cons t r =>
  obtain ⟨k,n,m,j⟩:=t
  by_cases hk:k=1
  ·subst hk
   exact name_yes L R r A lev m j n w h (h.out.tok hL.out (List.mem_cons_self ..)).1
  ·rw [show nameR (⟨k,n,m,j⟩ :: r)=.er 4 (⟨k,n,m,j⟩ :: r) from if_neg hk]
   exact name_no L R _ A lev k m j n w h (Lh rfl) hk (Lh rfl)
set_option maxRecDepth 100000 in
theorem value_no (L:List Tok)(R:Nat)(l:List Tok)(A:ByteArray)(lev k m ln:Int)(n:List UInt8)(w:World)(h:Hid (Rd L R w l A lev))(hT:Hid (topL L l=⟨k,n,m,ln⟩))(hk:k≠1)(hk4:k≠4)(hk3:k≠3)(hl:Hid (lineOf L l=ln)) :
    Calls Tryz.prog 269 #[.pointer (some ⟨R,0,none⟩)] w (Out L R A lev VS w (.er 4 l)):=by
 have HP:=Lh (peek_of L R l A lev k m ln n w h hT)
 obtain ⟨N,hN⟩:∃ N,bb n=N:=⟨_,rfl⟩
 rw [hN] at HP
 have b1:(k == 1)=false:=by rw [beq_eq_false_iff_ne];exact hk
 have b4:(k == 4)=false:=by rw [beq_eq_false_iff_ne];exact hk4
 have b3:(k == 3)=false:=by rw [beq_eq_false_iff_ne];exact hk3
 clear hN
 go_enter Tryz.func269,Tryz.ntmps269
 go_wp2_with fail
 refine HP.out.mono ?_
 rintro e w1 ⟨rfl,hb1⟩
 have HB:=Lh (below_keep (al1 w1 (.cells #[.int .i64 k,.string N,.int .i64 m,.int .i64 ln] 247)) hb1)
 clear hb1
 go_wp2_with fail
 refine (here_of L R l A lev 4 ln _ (Lh (h.out.below HB.out)) hl).mono ?_
 rintro e w2 ⟨rfl,hb⟩
 have H3:=Lh ((Pk.below (R:=R) HB.out).trans (Pk.below hb))
 clear hb
 go_wp2
 exact ⟨rfl,Out.er H3.out hl.out⟩
set_option maxRecDepth 100000 in
theorem value_txt (L:List Tok)(R:Nat)(r:List Tok)(A:ByteArray)(lev k m j:Int)(n:List UInt8)(w:World)(h:Hid (Rd L R w (⟨k,n,m,j⟩ :: r) A lev))(hk:k=1∨k=4)(hn:n.length≤16384) :
    Calls Tryz.prog 269 #[.pointer (some ⟨R,0,none⟩)] w (Out L R A lev VS w (.ok n r)):=by
 have HP:=Lh (peek_of L R _ A lev k m j n w h (Lh rfl))
 obtain ⟨N,hN⟩:∃ N,bb n=N:=⟨_,rfl⟩
 rw [hN] at HP
 have HN:=Lh hN
 clear hN
 rcases hk with hk | hk
 case' inl =>
  have b1:(k == 1)=true:=by rw [beq_iff_eq];exact hk
  clear hk
 case' inr =>
  have b1:(k == 1)=false:=by rw [hk];rfl
  have b4:(k == 4)=true:=by rw [beq_iff_eq];exact hk
  clear hk
 all_goals
  go_enter Tryz.func269,Tryz.ntmps269
  go_wp2_with fail
  refine HP.out.mono ?_
  rintro e w1 ⟨rfl,hb1⟩
  have HB:=Lh (below_keep (al1 w1 (.cells #[.int .i64 k,.string N,.int .i64 m,.int .i64 j] 247)) hb1)
  have hs1:R≠w1.heap.size:=by have:=h.out.lt;have:=hb1.size;omega
  have hk0:=blk_new w1 #[.int .i64 k,.string N,.int .i64 m,.int .i64 j] 247
  have HK:=Lh hk0
  clear hb1 hk0
  go_wp2_with fail
  refine (skip_cons L R _ r A lev _ (Lh (h.out.below HB.out))).mono ?_
  rintro e w2 ⟨rfl,hr,hp⟩
  have a1:w2.cell? ⟨w1.heap.size,1,none⟩=some (.string N):=hp.cell (Ne.symm hs1) (by rw [blk_cell HK.out];rfl)
  have H2:=Lh (And.intro hr ((Pk.below HB.out).trans hp))
  clear hr hp
  go_wp2
  go_ret
  exact Out.ok rfl H2.out.2 ⟨congrArg Value.string HN.out.symm,hn⟩ H2.out.1
set_option maxRecDepth 100000 in
theorem value_num (L:List Tok)(R:Nat)(r:List Tok)(A:ByteArray)(lev m j:Int)(n:List UInt8)(w:World)(h:Hid (Rd L R w (⟨3,n,m,j⟩ :: r) A lev))(h0:-9223372036854775808≤m)(h1:m≤9223372036854775807) :
    Calls Tryz.prog 269 #[.pointer (some ⟨R,0,none⟩)] w (Out L R A lev VS w (.ok (fmtL m) r)):=by
 have HP:=Lh (peek_of L R _ A lev 3 m j n w h (Lh rfl))
 obtain ⟨N,hN⟩:∃ N,bb n=N:=⟨_,rfl⟩
 rw [hN] at HP
 have HL:Hid ((fmtL m).length≤16384):=Lh (Nat.le_trans (fmtL_le m h0 h1) (by decide))
 have H0:Hid (-9223372036854775808≤m∧m≤9223372036854775807):=Lh ⟨h0,h1⟩
 clear hN h0 h1
 go_enter Tryz.func269,Tryz.ntmps269
 go_wp2_with fail
 refine HP.out.mono ?_
 rintro e w1 ⟨rfl,hb1⟩
 have HB:=Lh (below_keep (al1 w1 (.cells #[.int .i64 3,.string N,.int .i64 m,.int .i64 j] 247)) hb1)
 have hs1:R≠w1.heap.size:=by have:=h.out.lt;have:=hb1.size;omega
 have hk0:=blk_new w1 #[.int .i64 3,.string N,.int .i64 m,.int .i64 j] 247
 have HK:=Lh hk0
 clear hb1 hk0
 go_wp2_with fail
 refine (skip_cons L R _ r A lev _ (Lh (h.out.below HB.out))).mono ?_
 rintro e w2 ⟨rfl,hr,hp⟩
 have a1:w2.cell? ⟨w1.heap.size,2,none⟩=some (.int .i64 m):=hp.cell (Ne.symm hs1) (by rw [blk_cell HK.out];rfl)
 have H2:=Lh (And.intro hr ((Pk.below HB.out).trans hp))
 clear hr hp
 go_wp2_with fail
 refine (format_any m _ H0.out.1 H0.out.2 H2.out.1.tab).mono ?_
 rintro e w3 ⟨rfl,hb3⟩
 have H3:=Lh (And.intro (H2.out.1.below hb3) (H2.out.2.trans (Pk.below hb3)))
 clear hb3
 go_wp2
 go_ret
 exact Out.ok rfl H3.out.2 ⟨rfl,HL.out⟩ H3.out.1
theorem value_of (L:List Tok)(hL:Hid (TokL L))(R:Nat)(l:List Tok)(A:ByteArray)(lev:Int)(x:Rz (List UInt8))(w:World)(h:Hid (Rd L R w l A lev))(hx:Hid (valR fmtL l=x)) :
    Calls Tryz.prog 269 #[.pointer (some ⟨R,0,none⟩)] w (Out L R A lev VS w x):=by
 rw [← hx.out]
 cases l with
 | nil=>exact value_no L R [] A lev 0 0 (lineOf L []) [] w h (Lh rfl) (by decide) (by decide) (by decide) (Lh rfl)
 | cons t r =>
  have ht:=h.out.tok hL.out (List.mem_cons_self ..)
  obtain ⟨k,n,m,j⟩:=t
  by_cases hk:k=1∨k=4
  ·rw [show valR fmtL (⟨k,n,m,j⟩ :: r)=.ok n r from if_pos hk]
   exact value_txt L R r A lev k m j n w h hk ht.1
  ·by_cases h3:k=3
   ·rw [show valR fmtL (⟨k,n,m,j⟩ :: r)=.ok (fmtL m) r from (if_neg hk).trans (if_pos h3)]
    subst h3
    exact value_num L R r A lev m j n w h ht.2.1 ht.2.2.1
   ·rw [show valR fmtL (⟨k,n,m,j⟩ :: r)=.er 4 (⟨k,n,m,j⟩ :: r) from (if_neg hk).trans (if_neg h3)]
    exact value_no L R _ A lev k m j n w h (Lh rfl) (fun e=>hk (Or.inl e)) (fun e=>hk (Or.inr e)) h3 (Lh rfl)
end Go.Proofs.YtgmidodmmlmmeaaGreatDoor.par
