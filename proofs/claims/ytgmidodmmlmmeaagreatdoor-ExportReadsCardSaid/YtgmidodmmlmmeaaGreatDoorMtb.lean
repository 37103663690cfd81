/-
  What Names of the reference of layer 7 returns. Condition: a tree of at most 600 statements in memory, at most 40 refs in each.
  What Equal of the reference of layer 7 returns. Condition: trees in memory.
  What Preorder and Valid of the reference of layer 7 return, for trees of up to 10^12 statements. Conditions: a tree in memory; a small level.
  What hasForm of the landed tree returns: whether a statement uses only the fields of its kind. Condition: the statement lies in memory.
-/
import Derived.Test.YtgmidodmmlmmeaaGreatDoorMta
namespace Go.Proofs.YtgmidodmmlmmeaaGreatDoor.tre
open Go.RowKit lex
def stB (w:World)(b:Nat)(k:Int)(x:ByteArray)(rv av bv:Value):Prop:=w.heap[b]?=some (.cells #[.int .i64 k,.string x,rv,av,bv] 67 (0,0))
theorem stB.at5 {w:World}{b:Nat}{k:Int}{x:ByteArray}{rv av bv:Value}(h:stB w b k x rv av bv):at5 w b k x rv av bv:=by
 refine ⟨?_,?_,?_,?_,?_⟩ <;> simp [World.cell?,show w.heap[b]?=_ from h]
theorem stB.grown {w w':World}{b:Nat}{k:Int}{x:ByteArray}{rv av bv:Value}{B:Nat}{v:Value}{l:List (List UInt8)}(h:stB w b k x rv av bv)(hg:w.grownBy w' v.ownBlock)(hr:Nrow w B v l):stB w' b k x rv av bv:=by
 unfold stB at h ⊢
 rw [hg.block b (Array.getElem?_eq_some_iff.1 h).1 (fun e=>?_)]
 ·exact h
 ·rcases hr.2 with ⟨rfl,_⟩ | ⟨g,cap,cur,rfl,_,hg2,_⟩
  ·cases e
  ·have e2:b=g:=Option.some.inj e
   rw [← e2,h] at hg2
   injection hg2 with hg2
   injection hg2 with _ h5 _
   exact absurd h5 (by decide)
theorem eqL_drop {l m:List St}{k:Nat}(hl:k < l.length)(hm:k < m.length):eqL (l.drop k) (m.drop k)=(eqS l[k] m[k] && eqL (l.drop (k+1)) (m.drop (k+1))):=by
 rw [List.drop_eq_getElem_cons hl,List.drop_eq_getElem_cons hm];rfl
theorem eqL_self (l:List St):eqL l l=true:=(eq_iff.2 l l).2 rfl
def EqOk (l:List St):Prop:=∀ (m:List St) (w:World) (v1 v2:Value) (r:Bool),Sts w v1 l→Sts w v2 m→eqL l m=r →
 Calls Tryz.prog 38 #[v1,v2] w fun e w'=>e=.returned (.bool r)∧Below w.heap.size w w'
def EqCut (W:World)(k:Int)(x:ByteArray)(rv av bv:Value)(k':Int)(x':ByteArray)(rv' av' bv':Value)(s s':Value)(wx:World):Prop:=∃ b b':Nat,s=.pointer (some ⟨b,0,none⟩)∧s'=.pointer (some ⟨b',0,none⟩)∧stB wx b k x rv av bv∧stB wx b' k' x' rv' av' bv'∧Below W.heap.size W wx
theorem b_drew {W w:World}(h:Below W.heap.size W w):Below W.heap.size W w.drew:=h.drew
theorem b_alloc {W w:World}{o:Obj}(h:Below W.heap.size W w):Below W.heap.size W (w.alloc o):=below_keep (al1 ..) h
theorem b_set {W w:World}{g:Nat}{o:Nat}{v:Value}(hg:W.heap.size≤g)(h:Below W.heap.size W w):Below W.heap.size W (w.setCell ⟨g,o,none⟩ v):=h.setCell hg _
theorem ks {W w:World}{p0 p1 p2 p3 p4 q0 q1 q2 q3 q4:Addr}{u0 u1 u2 u3 u4 v0 v1 v2 v3 v4:Value}(a0:W.cell? p0=some u0)(a1:W.cell? p1=some u1)(a2:W.cell? p2=some u2)(a3:W.cell? p3=some u3)(a4:W.cell? p4=some u4)
    (b0:W.cell? q0=some v0) (b1:W.cell? q1=some v1) (b2:W.cell? q2=some v2) (b3:W.cell? q3=some v3) (b4:W.cell? q4=some v4) (h:Below W.heap.size W w) :
    Below W.heap.size W w∧w.cell? p0=some u0∧w.cell? p1=some u1∧w.cell? p2=some u2∧w.cell? p3=some u3∧w.cell? p4=some u4∧w.cell? q0=some v0∧w.cell? q1=some v1∧w.cell? q2=some v2∧w.cell? q3=some v3∧w.cell? q4=some v4 :=
 ⟨h,cell_later' h a0,cell_later' h a1,cell_later' h a2,cell_later' h a3,cell_later' h a4,cell_later' h b0,cell_later' h b1,cell_later' h b2,cell_later' h b3,cell_later' h b4⟩
theorem ne_r {x y:St}{t r:Bool}(h:(eqS x y && t)=r)(hne:x≠y):r=false:=by
 rw [← h]
 cases hq:eqS x y
 ·rfl
 ·exact absurd ((eq_iff.1 x y).1 hq) hne
theorem st_ext {x y:St}(h0:x.kind=y.kind)(h1:x.name=y.name)(h2:x.refs=y.refs)(h3:x.attrs=y.attrs)(h4:x.body=y.body):x=y:=by
 cases x;cases y
 simp only [St.kind,St.name,St.refs,St.attrs,St.body] at h0 h1 h2 h3 h4
 subst h0 h1 h2 h3 h4;rfl
theorem guard_ref:Tryz.prog.eqGuardType Tryz.prog.depth 121=false:=by kernel_rfl
theorem neq_ref (u v:Pr)(dq:Bool)(h:Hid (decide (u≠v)=dq))(w:World):(binOp .neq 121 (.agg #[.string (bb u.1),.string (bb u.2)]) (.agg #[.string (bb v.1),.string (bb v.2)])).run Tryz.prog w=.ok (.bool dq) w:=by
 have hu:Tryz.prog.underlying 121=some (.struct (Tryz.prog.fieldsOf 121)):=by kernel_rfl
 have hp:Tryz.prog.stoodInHeld 121=false:=by kernel_rfl
 obtain ⟨a,b⟩:=u
 obtain ⟨c,d⟩:=v
 rw [run_neq_struct,run_equalIn_agg w 9999 _ _ _ hu hp,← h.out]
 by_cases h1:a=c <;> by_cases h2:b=d <;> simp [go_sem,Op.eqFields,Program.fieldsOf,Tryz.underlying121,Tryz.underlying9,ByteArray.toList_eq,h1,h2]
theorem guard_att:Tryz.prog.eqGuardType Tryz.prog.depth 69=false:=by kernel_rfl
theorem neq_att (u v:Pr)(dq:Bool)(h:Hid (decide (u≠v)=dq))(w:World):(binOp .neq 69 (.agg #[.string (bb u.1),.string (bb u.2)]) (.agg #[.string (bb v.1),.string (bb v.2)])).run Tryz.prog w=.ok (.bool dq) w:=by
 have hu:Tryz.prog.underlying 69=some (.struct (Tryz.prog.fieldsOf 69)):=by kernel_rfl
 have hp:Tryz.prog.stoodInHeld 69=false:=by kernel_rfl
 obtain ⟨a,b⟩:=u
 obtain ⟨c,d⟩:=v
 rw [run_neq_struct,run_equalIn_agg w 9999 _ _ _ hu hp,← h.out]
 by_cases h1:a=c <;> by_cases h2:b=d <;> simp [go_sem,Op.eqFields,Program.fieldsOf,Tryz.underlying69,Tryz.underlying9,ByteArray.toList_eq,h1,h2]
set_option maxRecDepth 100000 in
set_option maxHeartbeats 8000000 in
theorem eq_step (l:List St)(ih:∀ s∈l,EqOk s.body):EqOk l:=by
 intro m w v1 v2 r h1 h2 hr
 have hmx:Tryz.prog.follows .mixedOrders=true:=by kernel_rfl
 obtain ⟨ao,cap,rfl,hc1,hm1,_⟩:=id h1
 obtain ⟨bo,cbp,rfl,hc2,hm2,_⟩:=id h2
 have H1:=Lh h1
 have H2:=Lh h2
 have IH:=Lh ih
 unfold maxLen at hm1 hm2
 have hlm:l.length≤9223372036854775807:=by omega
 have hmm:m.length≤9223372036854775807:=by omega
 clear hc1 hm1 hc2 hm2 h1 h2 ih
 by_cases hle:l.length=m.length
 ·have HR:Hid (eqL (l.drop 0) (m.drop 0)=r):=Lh (by rw [List.drop_zero,List.drop_zero];exact hr)
  have b0:((l.length:Int) != (m.length:Int))=false:=by rw [bne_eq_false_iff_eq];omega
  have HLE:=Lh hle
  clear hr hle
  go_enter Tryz.func38,Tryz.ntmps38
  go_wp2_with fail
  go_loopw [5] (fun iv wr=>∃ k:Nat,iv=.int .i64 k∧k≤l.length∧eqL (l.drop k) (m.drop k)=r∧Below w.heap.size w wr) (fun iv _=>l.length - (intOf iv).toNat)
  case atStart=>exact ⟨0,rfl,Nat.zero_le _,HR.out,Below.refl _ _⟩
  case round =>
   obtain ⟨k,rfl,hk,hfe,hB⟩:=hrel
   rename World=>wr
   have HFE:=Lh hfe
   clear hfe HR
   by_cases hlt:k < l.length
   ·have hlt2:k < m.length:=by have:=HLE.out;omega
    obtain ⟨A,rfl,ha0⟩:=(H1.out.keep hB).get hlt
    obtain ⟨B,rfl,hb0⟩:=(H2.out.keep hB).get hlt2
    obtain ⟨a0,a1,-,⟨_,a2,rx⟩,⟨_,a3,sx⟩,_,a4,bx⟩:=(stAt_eq _ _ _).1 ha0
    obtain ⟨b0,b1,-,⟨_,b2,ry⟩,⟨_,b3,sy⟩,_,b4,by'⟩:=(stAt_eq _ _ _).1 hb0
    have hst:=HFE.out
    rw [eqL_drop hlt hlt2] at hst
    have hih:=IH.out _ (List.getElem_mem hlt)
    obtain ⟨x,hx⟩:∃ x,l[k]=x:=⟨_,rfl⟩
    obtain ⟨y,hy⟩:∃ y,m[k]=y:=⟨_,rfl⟩
    rw [hx] at a0 a1 rx sx bx hih hst
    rw [hy] at b0 b1 ry sy by' hst
    have RX:=Lh rx
    have RY:=Lh ry
    have SX:=Lh sx
    have SY:=Lh sy
    have BX:=Lh bx
    have BY:=Lh by'
    have HIH:=Lh hih
    have HST:=Lh hst
    obtain ⟨xro,xrc,rfl,xr1,xr2,_⟩:=rx
    obtain ⟨yro,yrc,rfl,_,_,_⟩:=ry
    obtain ⟨xso,xsc,rfl,xs1,xs2,_⟩:=sx
    obtain ⟨yso,ysc,rfl,_,_,_⟩:=sy
    obtain ⟨xbo,xbc,rfl,_,_,_⟩:=bx
    obtain ⟨ybo,ybc,rfl,_,_,_⟩:=by'
    unfold maxLen at xr2 xs2
    have xrl:x.refs.length≤9223372036854775807:=by omega
    have xsl:x.attrs.length≤9223372036854775807:=by omega
    clear xr1 xr2 xs1 xs2
    have i0:(0:Int)≤(k:Int):=by omega
    have i1:(k:Int) < (l.length:Int):=by omega
    have i2:(k:Int) < (m.length:Int):=by omega
    clear hx hy HFE ha0 hb0 hih hst
    go_wp2_with fail
    go_cut [6,7] (fun s s' wx=>EqCut wr x.kind (bb x.name) (.slice xro x.refs.length xrc) (.slice xso x.attrs.length xsc) (.slice xbo x.body.length xbc) y.kind (bb y.name) (.slice yro y.refs.length yrc) (.slice yso y.attrs.length ysc) (.slice ybo y.body.length ybc) s s' wx)
    case first =>
     have hP0:Below wr.heap.size wr wr∧wr.cell? (A.add (k*5))=some (.int .i64 x.kind)∧wr.cell? ⟨(A.add (k*5)).block,(A.add (k*5)).off+1,none⟩=some (.string (bb x.name))∧wr.cell? ⟨(A.add (k*5)).block,(A.add (k*5)).off+2,none⟩=some (.slice xro x.refs.length xrc)∧wr.cell? ⟨(A.add (k*5)).block,(A.add (k*5)).off+3,none⟩=some (.slice xso x.attrs.length xsc)∧wr.cell? ⟨(A.add (k*5)).block,(A.add (k*5)).off+4,none⟩=some (.slice xbo x.body.length xbc)∧wr.cell? (B.add (k*5))=some (.int .i64 y.kind)∧wr.cell? ⟨(B.add (k*5)).block,(B.add (k*5)).off+1,none⟩=some (.string (bb y.name))∧wr.cell? ⟨(B.add (k*5)).block,(B.add (k*5)).off+2,none⟩=some (.slice yro y.refs.length yrc)∧wr.cell? ⟨(B.add (k*5)).block,(B.add (k*5)).off+3,none⟩=some (.slice yso y.attrs.length ysc)∧wr.cell? ⟨(B.add (k*5)).block,(B.add (k*5)).off+4,none⟩=some (.slice ybo y.body.length ybc):=⟨Below.refl _ _,a0,a1,a2,a3,a4,b0,b1,b2,b3,b4⟩
     go_region_held3 (fun w'=>Below wr.heap.size wr w'∧w'.cell? (A.add (k*5))=some (.int .i64 x.kind)∧w'.cell? ⟨(A.add (k*5)).block,(A.add (k*5)).off+1,none⟩=some (.string (bb x.name))∧w'.cell? ⟨(A.add (k*5)).block,(A.add (k*5)).off+2,none⟩=some (.slice xro x.refs.length xrc)∧w'.cell? ⟨(A.add (k*5)).block,(A.add (k*5)).off+3,none⟩=some (.slice xso x.attrs.length xsc)∧w'.cell? ⟨(A.add (k*5)).block,(A.add (k*5)).off+4,none⟩=some (.slice xbo x.body.length xbc)∧w'.cell? (B.add (k*5))=some (.int .i64 y.kind)∧w'.cell? ⟨(B.add (k*5)).block,(B.add (k*5)).off+1,none⟩=some (.string (bb y.name))∧w'.cell? ⟨(B.add (k*5)).block,(B.add (k*5)).off+2,none⟩=some (.slice yro y.refs.length yrc)∧w'.cell? ⟨(B.add (k*5)).block,(B.add (k*5)).off+3,none⟩=some (.slice yso y.attrs.length ysc)∧w'.cell? ⟨(B.add (k*5)).block,(B.add (k*5)).off+4,none⟩=some (.slice ybo y.body.length ybc))
      (exact ks a0 a1 a2 a3 a4 b0 b1 b2 b3 b4 (by repeat (first | (with_reducible assumption) | (with_reducible exact Below.refl _ _) | (with_reducible refine b_drew ?_) | (with_reducible refine b_alloc ?_) | (with_reducible refine b_set ?_ ?_) | omega)))
      (fail)
     all_goals
      go_split_ands
      go_wp2_with fail
      go_meet
      refine ⟨_,_,rfl,rfl,?_,?_,b_drew (b_alloc (b_alloc (Below.refl _ _)))⟩
      all_goals (first | exact heap_alloc2_old _ _ _ | exact heap_alloc2_new _ _ _)
    case rest =>
     obtain ⟨bx,by2,rfl,rfl,s1,s2,hBc⟩:=hcut
     rename World=>wc
     have hBw:=below_keep hBc hB
     clear a0 a1 a2 a3 a4 b0 b1 b2 b3 b4
     have g1:=s1.at5
     have g2:=s2.at5
     clear s1 s2
     have hxm:bb x.name=bb y.name ↔ x.name=y.name:=bb_inj
     obtain ⟨X,hX⟩:∃ X,bb x.name=X:=⟨_,rfl⟩
     obtain ⟨Y,hY⟩:∃ Y,bb y.name=Y:=⟨_,rfl⟩
     have hX2:X.toList=x.name:=by rw [← hX,ByteArray.toList_eq]
     have hY2:Y.toList=y.name:=by rw [← hY,ByteArray.toList_eq]
     rw [hX] at g1
     rw [hY] at g2
     clear hX hY hxm
     obtain ⟨c0,c1,c2,c3,c4⟩:=id g1
     obtain ⟨e0,e1,e2,e3,e4⟩:=id g2
     have HX2:=Lh hX2
     have HY2:=Lh hY2
     clear hX2 hY2
     by_cases hk0:¬ x.kind=y.kind
     ·have d1:(x.kind != y.kind)=true:=by rw [bne_iff_ne];exact hk0
      have HN:Hid (r=false):=Lh (ne_r HST.out (fun e=>hk0 (by rw [e])))
      obtain rfl:=HN.out
      clear hk0
      go_wp2
      go_ret
      exact ⟨rfl,hBw⟩
     have hk0:x.kind=y.kind:=Classical.not_not.1 hk0
     have d1:(x.kind != y.kind)=false:=by rw [bne_eq_false_iff_eq];exact hk0
     have HK0:=Lh hk0
     clear hk0
     by_cases hn:¬ x.name=y.name
     ·have d2:¬ (X.toList=Y.toList):=by rw [HX2.out,HY2.out];exact hn
      have HN:Hid (r=false):=Lh (ne_r HST.out (fun e=>hn (by rw [e])))
      obtain rfl:=HN.out
      clear hn
      go_wp2
      go_ret
      exact ⟨rfl,hBw⟩
     have hn:x.name=y.name:=Classical.not_not.1 hn
     have d2:X.toList=Y.toList:=by rw [HX2.out,HY2.out];exact hn
     have hN:=Lh hn
     clear hn
     by_cases hr2:¬ x.refs.length=y.refs.length
     ·have d3:((x.refs.length:Int) != (y.refs.length:Int))=true:=by rw [bne_iff_ne];omega
      have d3b:(x.refs.length != y.refs.length)=true:=by rw [bne_iff_ne];exact hr2
      have d3c:((x.refs.length:Int) == (y.refs.length:Int))=false:=by rw [beq_eq_false_iff_ne];omega
      have d3d:(x.refs.length == y.refs.length)=false:=by rw [beq_eq_false_iff_ne];exact hr2
      have d3e:decide ((x.refs.length:Int)=(y.refs.length:Int))=false:=decide_eq_false (by omega)
      have d3f:decide (x.refs.length=y.refs.length)=false:=decide_eq_false hr2
      have HN:Hid (r=false):=Lh (ne_r HST.out (fun e=>hr2 (by rw [e])))
      obtain rfl:=HN.out
      clear hr2
      go_wp2
      go_ret
      exact ⟨rfl,hBw⟩
     have hr2:x.refs.length=y.refs.length:=Classical.not_not.1 hr2
     have d3:(x.refs.length:Int)=(y.refs.length:Int):=by omega
     by_cases ha:¬ x.attrs.length=y.attrs.length
     ·have d4:((x.attrs.length:Int) != (y.attrs.length:Int))=true:=by rw [bne_iff_ne];omega
      have d4b:(x.attrs.length != y.attrs.length)=true:=by rw [bne_iff_ne];exact ha
      have d4c:((x.attrs.length:Int) == (y.attrs.length:Int))=false:=by rw [beq_eq_false_iff_ne];omega
      have d4d:(x.attrs.length == y.attrs.length)=false:=by rw [beq_eq_false_iff_ne];exact ha
      have d4e:decide ((x.attrs.length:Int)=(y.attrs.length:Int))=false:=decide_eq_false (by omega)
      have d4f:decide (x.attrs.length=y.attrs.length)=false:=decide_eq_false ha
      have HN:Hid (r=false):=Lh (ne_r HST.out (fun e=>ha (by rw [e])))
      obtain rfl:=HN.out
      have HRL:=Lh hr2
      clear ha hr2
      go_wp2
      go_ret
      exact ⟨rfl,hBw⟩
     have ha:x.attrs.length=y.attrs.length:=Classical.not_not.1 ha
     have d4:(x.attrs.length:Int)=(y.attrs.length:Int):=by omega
     obtain ⟨q,hq⟩:∃ q,eqL x.body y.body=q:=⟨_,rfl⟩
     have HRL:=Lh hr2
     have HAL:=Lh ha
     have HQ:=Lh hq
     clear hr2 ha hq
     cases q
     ·have HN:Hid (r=false):=Lh (ne_r HST.out (fun e=>by have:=HQ.out;rw [e,eqL_self] at this;cases this))
      obtain rfl:=HN.out
      go_wp2_with (go_at_call 38;refine (HIH.out y.body _ _ _ false (BX.out.keep hBc) (BY.out.keep hBc) HQ.out).mono ?_;rintro e w5 ⟨rfl,hb5⟩)
      go_ret
      exact ⟨rfl,below_keep hb5 hBw⟩
     ·go_wp2_with (go_at_call 38;refine (HIH.out y.body _ _ _ true (BX.out.keep hBc) (BY.out.keep hBc) HQ.out).mono ?_;rintro e w5 ⟨rfl,hb5⟩;have h5x:=hb5;clear c0 c1 c2 c3 c4 e0 e1 e2 e3 e4;have g1:=at5_keep g1 hb5;have g2:=at5_keep g2 hb5;obtain ⟨c0,c1,c2,c3,c4⟩:=id g1;obtain ⟨e0,e1,e2,e3,e4⟩:=id g2)
      clear c0 c1 c2 c3 c4 e0 e1 e2 e3 e4
      have hB5:=below_keep h5x hBw
      have hBr5:=below_keep h5x hBc
      have RX5:=Lh (RX.out.keep hBr5)
      have RY5:=Lh (RY.out.keep hBr5)
      have SX5:=Lh (SX.out.keep hBr5)
      have SY5:=Lh (SY.out.keep hBr5)
      have HEB:Hid (x.body=y.body):=Lh ((eq_iff.2 _ _).1 HQ.out)
      have hr2:=HRL.out
      have ha:=HAL.out
      have hk0:=HK0
      have hgr:=guard_ref
      have hga:=guard_att
      go_loopw [8] (fun jv wz=>∃ j:Nat,j≤x.refs.length∧jv=.int .i64 j∧x.refs.take j=y.refs.take j∧Below w5.heap.size w5 wz) (fun jv _=>x.refs.length - (intOf jv).toNat)
      case atStart=>exact ⟨0,Nat.zero_le _,rfl,rfl,Below.refl _ _⟩
      case round =>
       obtain ⟨j,hj,rfl,htk,hBz⟩:=hrel
       rename World=>wz
       have HTK:=Lh htk
       clear htk
       obtain ⟨c0,c1,c2,c3,c4⟩:=at5_keep g1 hBz
       obtain ⟨e0,e1,e2,e3,e4⟩:=at5_keep g2 hBz
       by_cases hjl:j < x.refs.length
       ·have hjl2:j < y.refs.length:=by omega
        obtain ⟨A2,rfl,q0,q1,-,-⟩:=(RX5.out.keep hBz).get hjl
        obtain ⟨B2,rfl,p0,p1,-,-⟩:=(RY5.out.keep hBz).get hjl2
        have hstep:x.refs[j]=y.refs[j]→x.refs.take (j+1)=y.refs.take (j+1):=fun e=>by rw [take_pr hjl,take_pr hjl2,HTK.out,e]
        have hbad:x.refs[j]≠y.refs[j]→x.refs≠y.refs:=fun e q=>e (by simp only [q])
        obtain ⟨u,hu⟩:∃ u,x.refs[j]=u:=⟨_,rfl⟩
        obtain ⟨v,hv⟩:∃ v,y.refs[j]=v:=⟨_,rfl⟩
        rw [hu] at q0 q1
        rw [hv] at p0 p1
        rw [hu,hv] at hstep hbad
        have HSTEP:=Lh hstep
        have HBAD:=Lh hbad
        have j0:(0:Int)≤(j:Int):=by omega
        have j1:(j:Int) < (x.refs.length:Int):=by omega
        have j2:(j:Int) < (y.refs.length:Int):=by omega
        obtain ⟨dq,hdq⟩:∃ b,decide (u≠v)=b:=⟨_,rfl⟩
        have HDQ:=Lh hdq
        have hneq:=neq_ref u v dq HDQ
        clear hu hv hstep hbad hdq
        cases dq
        ·have HN:Hid (x.refs.take (j+1)=y.refs.take (j+1)):=Lh (HSTEP.out (by simpa using HDQ.out))
         go_wp2_with fail
         go_quiet (fail)
         have hB7:=below_keep (below_drewT wz nq) hBz
         generalize wz.drewN nq=wn at hB7 ⊢
         go_wp2
         go_roundw
         case rel=>exact ⟨j+1,by omega,by go_num,HN.out,hB7⟩
         case measure=>simp [intOf];omega
        ·have HN:Hid (r=false):=Lh (ne_r HST.out (fun e=>HBAD.out (by simpa using HDQ.out) (by rw [e])))
         obtain rfl:=HN.out
         go_wp2_with fail
         go_quiet (fail)
         have hB7:=below_keep (below_drewT wz nq) hBz
         generalize wz.drewN nq=wn at hB7 ⊢
         go_wp2
         go_ret
         exact ⟨rfl,below_keep hB7 hB5⟩
       ·obtain rfl:j=x.refs.length:=by omega
        have HER:Hid (x.refs=y.refs):=Lh (by have:=HTK.out;rw [List.take_length,hr2,List.take_length] at this;exact this)
        clear HTK
        have hBy:=hBz
        go_wp2_with fail
        clear c0 c1 c2 c3 c4 e0 e1 e2 e3 e4
        go_loopw [9] (fun jv wz=>∃ j:Nat,j≤x.attrs.length∧jv=.int .i64 j∧x.attrs.take j=y.attrs.take j∧Below w5.heap.size w5 wz) (fun jv _=>x.attrs.length - (intOf jv).toNat)
        case atStart=>exact ⟨0,Nat.zero_le _,rfl,rfl,hBy⟩
        case round =>
         obtain ⟨j,hj,rfl,htk,hBz⟩:=hrel
         rename World=>wz
         have HTK:=Lh htk
         clear htk
         obtain ⟨c0,c1,c2,c3,c4⟩:=at5_keep g1 hBz
         obtain ⟨e0,e1,e2,e3,e4⟩:=at5_keep g2 hBz
         by_cases hjl:j < x.attrs.length
         ·have hjl2:j < y.attrs.length:=by omega
          obtain ⟨A2,rfl,q0,q1,-,-⟩:=(SX5.out.keep hBz).get hjl
          obtain ⟨B2,rfl,p0,p1,-,-⟩:=(SY5.out.keep hBz).get hjl2
          have hstep:x.attrs[j]=y.attrs[j]→x.attrs.take (j+1)=y.attrs.take (j+1):=fun e=>by rw [take_pr hjl,take_pr hjl2,HTK.out,e]
          have hbad:x.attrs[j]≠y.attrs[j]→x.attrs≠y.attrs:=fun e q=>e (by simp only [q])
          obtain ⟨u,hu⟩:∃ u,x.attrs[j]=u:=⟨_,rfl⟩
          obtain ⟨v,hv⟩:∃ v,y.attrs[j]=v:=⟨_,rfl⟩
          rw [hu] at q0 q1
          rw [hv] at p0 p1
          rw [hu,hv] at hstep hbad
          have HSTEP:=Lh hstep
          have HBAD:=Lh hbad
          have j0:(0:Int)≤(j:Int):=by omega
          have j1:(j:Int) < (x.attrs.length:Int):=by omega
          have j2:(j:Int) < (y.attrs.length:Int):=by omega
          obtain ⟨dq,hdq⟩:∃ b,decide (u≠v)=b:=⟨_,rfl⟩
          have HDQ:=Lh hdq
          have hneq:=neq_att u v dq HDQ
          clear hu hv hstep hbad hdq
          cases dq
          ·have HN:Hid (x.attrs.take (j+1)=y.attrs.take (j+1)):=Lh (HSTEP.out (by simpa using HDQ.out))
           go_wp2_with fail
           go_quiet (fail)
           have hB7:=below_keep (below_drewT wz nq) hBz
           generalize wz.drewN nq=wn at hB7 ⊢
           go_wp2
           go_roundw
           case rel=>exact ⟨j+1,by omega,by go_num,HN.out,hB7⟩
           case measure=>simp [intOf];omega
          ·have HN:Hid (r=false):=Lh (ne_r HST.out (fun e=>HBAD.out (by simpa using HDQ.out) (by rw [e])))
           obtain rfl:=HN.out
           go_wp2_with fail
           go_quiet (fail)
           have hB7:=below_keep (below_drewT wz nq) hBz
           generalize wz.drewN nq=wn at hB7 ⊢
           go_wp2
           go_ret
           exact ⟨rfl,below_keep hB7 hB5⟩
         ·obtain rfl:j=x.attrs.length:=by omega
          have HEA:Hid (x.attrs=y.attrs):=Lh (by have:=HTK.out;rw [List.take_length,ha,List.take_length] at this;exact this)
          have HN:Hid (eqL (l.drop (k+1)) (m.drop (k+1))=r):=Lh (by
           have:=HST.out
           rw [(eq_iff.1 x y).2 (st_ext hk0.out (hN.out) HER.out HEA.out HEB.out)] at this
           simpa using this)
          go_wp2
          go_roundw
          case rel=>exact ⟨k+1,by go_num,by omega,HN.out,below_keep hBz hB5⟩
          case measure=>simp [intOf];omega
   ·obtain rfl:k=l.length:=by omega
    have HN:Hid (r=true):=Lh (by rw [← HFE.out,List.drop_length,HLE.out,List.drop_length];rfl)
    obtain rfl:=HN.out
    go_wp2
    go_ret
    exact ⟨rfl,hB⟩
 ·have HN:Hid (r=false):=Lh (by
    rw [← hr]
    cases hq:eqL l m
    ·rfl
    ·exact absurd (congrArg List.length ((eq_iff.2 l m).1 hq)) hle)
  have b0:((l.length:Int) != (m.length:Int))=true:=by rw [bne_iff_ne];omega
  obtain rfl:=HN.out
  clear hr
  go_enter Tryz.func38,Tryz.ntmps38
  go_wp2
  go_ret
  exact ⟨rfl,Below.refl _ _⟩
set_option maxRecDepth 100000 in
set_option maxHeartbeats 8000000 in
theorem form_of (s:St)(A:Addr)(R:Bool)(w:World)(h:Hid (stAt w s A))(hR:Hid (decide (fldE s=0)=R)) :
    Calls Tryz.prog 138 #[.pointer (some A)] w fun e w'=>e=.returned (.bool R)∧w=w':=by
 obtain ⟨c0,c1,_,⟨rv,c2,hrv⟩,⟨av,c3,hav⟩,bv,c4,hbv⟩:=(stAt_eq _ _ _).1 h.out
 obtain ⟨k,n,r,a,b⟩:=s
 clear h
 simp only [St.kind,St.name,St.refs,St.attrs,St.body] at c0 c1 hrv hav hbv
 obtain ⟨E,hE⟩:∃ E,fldE (.mk k n r a b)=E:=⟨_,rfl⟩
 have hRE:Hid (decide (E=0)=R):=Lh (by rw [← hE];exact hR.out)
 have hR2:(if k < 1∨5 < k then (1:Int) else if (k=2∧n≠[])∨(k≠2∧0 < r.length)∨(k=5∧0 < a.length)∨(k≠5∧0 < b.length) then 1 else if (k=3∧n≠wNode∧n≠wEdge)∨(k=2∧r.length < 2) then 1 else if k=4∧(a.length≠1∨(a.head?.map (·.1))≠some []) then 1 else 0)=E:=hE
 clear hR hE
 obtain ⟨ro,rc,rfl,_,_,_⟩:=hrv
 obtain ⟨bo,bc,rfl,_,_,_⟩:=hbv
 obtain ⟨so,sc,rfl,_,_,hcell⟩:=hav
 have HC:=Lh hcell
 clear hcell
 obtain ⟨rn,hrn⟩:∃ q,r.length=q:=⟨_,rfl⟩
 obtain ⟨bn,hbn⟩:∃ q,b.length=q:=⟨_,rfl⟩
 rw [hrn] at c2 hR2
 rw [hbn] at c4 hR2
 clear hrn hbn
 obtain ⟨X,hX⟩:∃ X,bb n=X:=⟨_,rfl⟩
 have hXn:X.toList=n:=by rw [← hX,ByteArray.toList_eq]
 have e0:X.toList.isEmpty=decide (n=[]):=by rw [hXn];cases n <;> rfl
 have e0':(X.toList == [])=decide (n=[]):=by rw [hXn];cases n <;> rfl
 have e1:(X.toList == [110,111,100,101])=decide (n=wNode):=by rw [hXn,Bool.eq_iff_iff,beq_iff_eq,decide_eq_true_eq];rfl
 have e2:(X.toList == [101,100,103,101])=decide (n=wEdge):=by rw [hXn,Bool.eq_iff_iff,beq_iff_eq,decide_eq_true_eq];rfl
 rw [hX] at c1
 clear hX hXn
 have q1:decide ((2:Int)≤(rn:Int))=decide (2≤rn):=by rw [Bool.eq_iff_iff,decide_eq_true_eq,decide_eq_true_eq];omega
 have HR:=Lh hR2
 clear hR2
 by_cases hk:k=1∨k=2∨k=3∨k=4∨k=5
 ·rcases hk with rfl | rfl | rfl | rfl | rfl
  ·
   by_cases t_rn:rn=0
   ·subst t_rn
    by_cases t_bn:bn=0
    ·subst t_bn
     obtain rfl:true=R:=by rw [← hRE.out,← HR.out];simp []
     clear HR HC hRE
     go_enter Tryz.func138,Tryz.ntmps138
     go_wp2
     go_ret
     exact ⟨rfl,rfl⟩
    ·have v_bn:((bn:Int) == 0)=false:=by simp [t_bn]
     have u_bn:(bn == 0)=false:=by simp [t_bn]
     have p_bn:0 < bn:=by omega
     obtain rfl:false=R:=by rw [← hRE.out,← HR.out];simp [p_bn]
     clear HR HC hRE
     go_enter Tryz.func138,Tryz.ntmps138
     go_wp2
     go_ret
     exact ⟨rfl,rfl⟩
   ·have v_rn:((rn:Int) == 0)=false:=by simp [t_rn]
    have u_rn:(rn == 0)=false:=by simp [t_rn]
    have p_rn:0 < rn:=by omega
    obtain rfl:false=R:=by rw [← hRE.out,← HR.out];simp [p_rn]
    clear HR HC hRE
    go_enter Tryz.func138,Tryz.ntmps138
    go_wp2
    go_ret
    exact ⟨rfl,rfl⟩
  ·
   by_cases t_e:n=[]
   ·rw [decide_eq_true t_e] at e0 e0'
    by_cases t_g:2≤rn
    ·rw [decide_eq_true t_g] at q1
     have n_g:¬ rn < 2:=by omega
     have i_g:(2:Int)≤(rn:Int):=by omega
     by_cases t_bn:bn=0
     ·subst t_bn
      obtain rfl:true=R:=by rw [← hRE.out,← HR.out];simp [t_e,n_g]
      clear HR HC hRE
      go_enter Tryz.func138,Tryz.ntmps138
      go_wp2
      go_ret
      exact ⟨rfl,rfl⟩
     ·have v_bn:((bn:Int) == 0)=false:=by simp [t_bn]
      have u_bn:(bn == 0)=false:=by simp [t_bn]
      have p_bn:0 < bn:=by omega
      obtain rfl:false=R:=by rw [← hRE.out,← HR.out];simp [t_e,p_bn]
      clear HR HC hRE
      go_enter Tryz.func138,Tryz.ntmps138
      go_wp2
      go_ret
      exact ⟨rfl,rfl⟩
    ·rw [decide_eq_false t_g] at q1
     have n_g:rn < 2:=by omega
     obtain rfl:false=R:=by rw [← hRE.out,← HR.out];simp [t_e,n_g]
     clear HR HC hRE
     go_enter Tryz.func138,Tryz.ntmps138
     go_wp2
     go_ret
     exact ⟨rfl,rfl⟩
   ·rw [decide_eq_false t_e] at e0 e0'
    obtain rfl:false=R:=by rw [← hRE.out,← HR.out];simp [t_e]
    clear HR HC hRE
    go_enter Tryz.func138,Tryz.ntmps138
    go_wp2
    go_ret
    exact ⟨rfl,rfl⟩
  ·
   by_cases t_n:n=wNode
   ·rw [decide_eq_true t_n] at e1
    by_cases t_rn:rn=0
    ·subst t_rn
     by_cases t_bn:bn=0
     ·subst t_bn
      obtain rfl:true=R:=by rw [← hRE.out,← HR.out];simp [t_n]
      clear HR HC hRE
      go_enter Tryz.func138,Tryz.ntmps138
      go_wp2
      go_ret
      exact ⟨rfl,rfl⟩
     ·have v_bn:((bn:Int) == 0)=false:=by simp [t_bn]
      have u_bn:(bn == 0)=false:=by simp [t_bn]
      have p_bn:0 < bn:=by omega
      obtain rfl:false=R:=by rw [← hRE.out,← HR.out];simp [t_n,p_bn]
      clear HR HC hRE
      go_enter Tryz.func138,Tryz.ntmps138
      go_wp2
      go_ret
      exact ⟨rfl,rfl⟩
    ·have v_rn:((rn:Int) == 0)=false:=by simp [t_rn]
     have u_rn:(rn == 0)=false:=by simp [t_rn]
     have p_rn:0 < rn:=by omega
     obtain rfl:false=R:=by rw [← hRE.out,← HR.out];simp [t_n,p_rn]
     clear HR HC hRE
     go_enter Tryz.func138,Tryz.ntmps138
     go_wp2
     go_ret
     exact ⟨rfl,rfl⟩
   ·rw [decide_eq_false t_n] at e1
    by_cases t_d:n=wEdge
    ·rw [decide_eq_true t_d] at e2
     by_cases t_rn:rn=0
     ·subst t_rn
      by_cases t_bn:bn=0
      ·subst t_bn
       obtain rfl:true=R:=by rw [← hRE.out,← HR.out];simp [t_d,wNode,wEdge]
       clear HR HC hRE
       go_enter Tryz.func138,Tryz.ntmps138
       go_wp2
       go_ret
       exact ⟨rfl,rfl⟩
      ·have v_bn:((bn:Int) == 0)=false:=by simp [t_bn]
       have u_bn:(bn == 0)=false:=by simp [t_bn]
       have p_bn:0 < bn:=by omega
       obtain rfl:false=R:=by rw [← hRE.out,← HR.out];simp [t_d,wEdge,p_bn]
       clear HR HC hRE
       go_enter Tryz.func138,Tryz.ntmps138
       go_wp2
       go_ret
       exact ⟨rfl,rfl⟩
     ·have v_rn:((rn:Int) == 0)=false:=by simp [t_rn]
      have u_rn:(rn == 0)=false:=by simp [t_rn]
      have p_rn:0 < rn:=by omega
      obtain rfl:false=R:=by rw [← hRE.out,← HR.out];simp [t_d,wEdge,p_rn]
      clear HR HC hRE
      go_enter Tryz.func138,Tryz.ntmps138
      go_wp2
      go_ret
      exact ⟨rfl,rfl⟩
    ·rw [decide_eq_false t_d] at e2
     obtain rfl:false=R:=by rw [← hRE.out,← HR.out];simp [t_n,t_d]
     clear HR HC hRE
     go_enter Tryz.func138,Tryz.ntmps138
     go_wp2
     go_ret
     exact ⟨rfl,rfl⟩
  ·
   by_cases t_rn:rn=0
   ·subst t_rn
    rcases a with _ | ⟨x,_ | ⟨y,t⟩⟩
    ·
     obtain rfl:false=R:=by rw [← hRE.out,← HR.out];simp []
     clear HR HC hRE
     go_enter Tryz.func138,Tryz.ntmps138
     go_wp2
     go_ret
     exact ⟨rfl,rfl⟩
    ·
     obtain ⟨B,rfl,hB⟩:=HC.out (by simp)
     obtain ⟨p0,_⟩:=hB 0 (by simp)
     rw [show B.add (0*2)=B by rw [Nat.zero_mul];unfold Addr.add;rw [if_pos rfl]] at p0
     simp only [List.getElem_cons_zero] at p0
     obtain ⟨Y,hY⟩:∃ Y,bb x.1=Y:=⟨_,rfl⟩
     have hYn:Y.toList=x.1:=by rw [← hY,ByteArray.toList_eq]
     have y0:Y.toList.isEmpty=decide (x.1=[]):=by rw [hYn];cases x.1 <;> rfl
     have y1:(Y.toList == [])=decide (x.1=[]):=by rw [hYn];cases x.1 <;> rfl
     rw [hY] at p0
     clear hY hYn hB
     by_cases t_k:x.1=[]
     ·rw [decide_eq_true t_k] at y0 y1
      by_cases t_bn:bn=0
      ·subst t_bn
       obtain rfl:true=R:=by rw [← hRE.out,← HR.out];simp [t_k]
       clear HR HC hRE
       go_enter Tryz.func138,Tryz.ntmps138
       go_wp2
       go_ret
       exact ⟨rfl,rfl⟩
      ·have v_bn:((bn:Int) == 0)=false:=by simp [t_bn]
       have u_bn:(bn == 0)=false:=by simp [t_bn]
       have p_bn:0 < bn:=by omega
       obtain rfl:false=R:=by rw [← hRE.out,← HR.out];simp [p_bn]
       clear HR HC hRE
       go_enter Tryz.func138,Tryz.ntmps138
       go_wp2
       go_ret
       exact ⟨rfl,rfl⟩
     ·rw [decide_eq_false t_k] at y0 y1
      obtain rfl:false=R:=by rw [← hRE.out,← HR.out];simp [t_k]
      clear HR HC hRE
      go_enter Tryz.func138,Tryz.ntmps138
      go_wp2
      go_ret
      exact ⟨rfl,rfl⟩
    ·
     have v_a:(((x :: y :: t).length:Int) == 1)=false:=by rw [beq_eq_false_iff_ne,List.length_cons,List.length_cons];omega
     obtain ⟨an,han⟩:∃ q,(x :: y :: t).length=q:=⟨_,rfl⟩
     have w_a:an≠1:=by rw [← han,List.length_cons,List.length_cons];omega
     have HR2:=HR.out;clear HR
     rw [han] at c3 v_a HR2
     have HR:=Lh HR2;clear HR2 han
     have u_a:(an == 1)=false:=by simp [w_a]
     obtain rfl:false=R:=by rw [← hRE.out,← HR.out];simp [w_a]
     clear HR HC hRE
     go_enter Tryz.func138,Tryz.ntmps138
     go_wp2
     go_ret
     exact ⟨rfl,rfl⟩
   ·have v_rn:((rn:Int) == 0)=false:=by simp [t_rn]
    have u_rn:(rn == 0)=false:=by simp [t_rn]
    have p_rn:0 < rn:=by omega
    obtain rfl:false=R:=by rw [← hRE.out,← HR.out];simp [p_rn]
    clear HR HC hRE
    go_enter Tryz.func138,Tryz.ntmps138
    go_wp2
    go_ret
    exact ⟨rfl,rfl⟩
  ·
   by_cases t_rn:rn=0
   ·subst t_rn
    rcases a with _ | ⟨x,t⟩
    ·
     obtain rfl:true=R:=by rw [← hRE.out,← HR.out];simp []
     clear HR HC hRE
     go_enter Tryz.func138,Tryz.ntmps138
     go_wp2
     go_ret
     exact ⟨rfl,rfl⟩
    ·
     obtain ⟨an,han⟩:∃ q,(x :: t).length=q:=⟨_,rfl⟩
     have w_a:an≠0:=by rw [← han,List.length_cons];omega
     have p_a:0 < an:=by omega
     have HR2:=HR.out;clear HR
     rw [han] at c3 HR2
     have HR:=Lh HR2;clear HR2 han
     have v_a:((an:Int) == 0)=false:=by simp [w_a]
     have u_a:(an == 0)=false:=by simp [w_a]
     obtain rfl:false=R:=by rw [← hRE.out,← HR.out];simp [p_a]
     clear HR HC hRE
     go_enter Tryz.func138,Tryz.ntmps138
     go_wp2
     go_ret
     exact ⟨rfl,rfl⟩
   ·have v_rn:((rn:Int) == 0)=false:=by simp [t_rn]
    have u_rn:(rn == 0)=false:=by simp [t_rn]
    have p_rn:0 < rn:=by omega
    obtain rfl:false=R:=by rw [← hRE.out,← HR.out];simp [p_rn]
    clear HR HC hRE
    go_enter Tryz.func138,Tryz.ntmps138
    go_wp2
    go_ret
    exact ⟨rfl,rfl⟩
 ·have k1:(k == 1)=false:=by rw [beq_eq_false_iff_ne];omega
  have k2:(k == 2)=false:=by rw [beq_eq_false_iff_ne];omega
  have k3:(k == 3)=false:=by rw [beq_eq_false_iff_ne];omega
  have k4:(k == 4)=false:=by rw [beq_eq_false_iff_ne];omega
  have k5:(k == 5)=false:=by rw [beq_eq_false_iff_ne];omega
  obtain rfl:false=R:=by rw [← hRE.out,← HR.out,eq_comm,decide_eq_false_iff_not,if_pos (by omega)];decide
  clear HR HC hk hRE
  go_enter Tryz.func138,Tryz.ntmps138
  go_wp2
  go_ret
  exact ⟨rfl,rfl⟩
end Go.Proofs.YtgmidodmmlmmeaaGreatDoor.tre
