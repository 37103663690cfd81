/-
  The text of a valid tree consists of tokens (P8.3, second half), as lists of bytes. No function of the program is named here; no condition.
  The text of a valid tree: tokens, bytes and lines (P8.3), as lists of bytes. No function of the program is named here; no condition.
  Layer 8, plain: how long texts are; attributes and references as joined lists. No condition.
  What value, list, refs and after of the reference of layer 8 return. Conditions: short values; attributes and references as valid statements have them.
  What Grow of a fresh builder and strings.Join do. Conditions: at most 40 strings, a separator of 1 to 10 bytes, a result of at most 100000 bytes.
-/
import Derived.Test.YtgmidodmmlmmeaaGreatDoorMpa
import Derived.Lib.Join
import Derived.Lib.QuietBelow
namespace Go.Proofs.YtgmidodmmlmmeaaGreatDoor.prt
open lex tre
section
variable {pr:List UInt8→Int × Int}
theorem mk_no (c:UInt8)(hc:c∈[123,125,91,93,59,44,61,58])(y:UInt8):isMk [c,y]=false:=by
 simp only [List.mem_cons,List.not_mem_nil,or_false] at hc
 unfold isMk mks
 rcases hc with rfl | rfl | rfl | rfl | rfl | rfl | rfl | rfl <;> simp
def attOk (l:List Pr):Prop:=∀ a∈l,isNm a.1=true∧a.2.length≤32∧a.2.all isPl=true
def refOk (l:List Pr):Prop:=∀ x∈l,isNm x.1=true∧(x.2=[]∨isNm x.2=true)
end
theorem attL_vals {k:Int}:∀ {l done:List Pr},attL k done l=0→∀ a∈l,a.2.length≤32∧a.2.all isPl=true:=by
 intro l
 induction l with
 | nil=>intro done _ a ha;simp at ha
 | cons x t ih =>
  intro done h a ha
  unfold attL at h
  split at h
  ·exact absurd h (by decide)
  ·split at h
   ·exact absurd h (by decide)
   ·split at h
    ·exact absurd h (by decide)
    ·rename_i h3
     split at h
     ·exact absurd h (by decide)
     ·rename_i h4
      rcases List.mem_cons.1 ha with rfl | ha
      ·exact ⟨by omega,by simpa using h4⟩
      ·exact ih h a ha
theorem staE_att {s:St}{lv:Int}(h:staE s lv=0):attL s.kind [] s.attrs=0:=by
 unfold staE at h
 by_cases h1:fldE s≠0
 ·rw [if_pos h1] at h;exact absurd h h1
 rw [if_neg h1] at h
 by_cases h2:s.kind=5∧6≤lv
 ·rw [if_pos h2] at h;exact absurd h (by decide)
 rw [if_neg h2] at h
 by_cases h3:s.kind≠2∧s.kind≠3∧isNm s.name=false
 ·rw [if_pos h3] at h;exact absurd h (by decide)
 rw [if_neg h3] at h
 by_cases h4:s.refs.all refB=false
 ·rw [if_pos h4] at h;exact absurd h (by decide)
 rw [if_neg h4] at h
 unfold attE at h
 by_cases f5:16 < s.attrs.length
 ·rw [if_pos f5] at h;exact absurd h (by decide)
 rwa [if_neg f5] at h
theorem vS.vals {s:St}(h:vS s):∀ a∈s.attrs,a.2.length≤32∧a.2.all isPl=true:=by
 obtain ⟨lv,h⟩:=h
 exact attL_vals (staE_att (h (s,lv) (by rw [preS_eq];simp)))
theorem vS.att {s:St}(h:vS s)(hk:s.kind≠4):attOk s.attrs:=by
 have h2:=h.vals
 obtain ⟨lv,h⟩:=h
 exact fun a ha=>⟨attL_keys hk (staE_att (h (s,lv) (by rw [preS_eq];simp))) a ha,h2 a ha⟩
section
variable {pr:List UInt8→Int × Int}
theorem aft_head (a:List Pr)(u:List UInt8):∃ x t,aft pr a ++ 59 :: u=x :: t∧isWd x=false:=by
 rcases aft_stop (pr:=pr) a u with ⟨q,e⟩ | ⟨q,e⟩
 ·exact ⟨_,_,e,by decide⟩
 ·exact ⟨_,_,e,by decide⟩
end
end Go.Proofs.YtgmidodmmlmmeaaGreatDoor.prt
namespace Go.Proofs.YtgmidodmmlmmeaaGreatDoor.prt
open Go.RowKit lex tre
theorem prL_form:∀ l,(prL l).2=0→numForm l:=fun l h=>by
 rcases parseV_ways l with e | e | ⟨n,_,_,_,e⟩
 ·rw [prL_of (n:=0) (e:=4) e] at h;cases h
 ·rw [prL_of (n:=0) (e:=16) e] at h;cases h
 ·rw [← e];exact fmt_form n
theorem nm_le {l:List UInt8}(h:isNm l=true):l.length≤16:=by
 unfold isNm at h
 simp only [Bool.and_eq_true,decide_eq_true_eq] at h
 exact h.1.2
theorem quo_len (v:List UInt8):(quoL v).length≤2*v.length+2:=by
 unfold quoL
 have:=esc_len v
 simp only [List.length_cons,List.length_append,List.length_nil]
 omega
theorem val_len {v:List UInt8}(h:v.length≤32):(valS prL v).length≤66:=by
 unfold valS
 have:=quo_len v
 split
 ·omega
 ·split <;> omega
theorem attB_len {a:Pr}(h:isNm a.1=true∧a.2.length≤32∧a.2.all isPl=true):(attB prL a).length≤83:=by
 have h1:=nm_le h.1
 have h2:=val_len h.2.1
 unfold attB
 rw [List.length_append,List.length_cons];omega
theorem attT_len:∀ {l:List Pr},attOk l→(attT prL l).length≤1+85*l.length:=by
 intro l
 induction l with
 | nil=>intro _;simp [attT]
 | cons a t ih =>
  intro h
  have h1:=attB_len (h a (by simp))
  have h2:=ih (fun x hx=>h x (List.mem_cons_of_mem _ hx))
  simp only [attT,List.length_cons,List.length_append];omega
theorem attS_len {l:List Pr}(h:attOk l):(attS prL l).length≤2+85*l.length:=by
 cases l with
 | nil=>simp [attS]
 | cons a t =>
  have h1:=attB_len (h a (by simp))
  have h2:=attT_len (fun x hx=>h x (List.mem_cons_of_mem _ hx):attOk t)
  simp only [attS,List.length_cons,List.length_append];omega
theorem aft_len {l:List Pr}(h:attOk l):(aft prL l).length≤3+85*l.length:=by
 have:=attS_len h
 unfold aft
 split
 ·simp
 ·rw [List.length_cons];omega
theorem prtP_len {p:List UInt8}(h:p=[]∨isNm p=true):(prtP p).length≤17:=by
 unfold prtP
 rcases h with rfl | h
 ·simp
 ·have:=nm_le h
  split
  ·simp
  ·rw [List.length_cons];omega
theorem refT_len (d:Bool):∀ {l:List Pr},refOk l→(refT d l).length≤37*l.length:=by
 intro l
 induction l with
 | nil=>intro _;simp [refT]
 | cons a t ih =>
  intro h
  have h1:=nm_le (h a (by simp)).1
  have h2:=prtP_len (h a (by simp)).2
  have h3:=ih (fun x hx=>h x (List.mem_cons_of_mem _ hx))
  simp only [refT,List.length_cons,List.length_append];omega
theorem refS_len (d:Bool){l:List Pr}(h:refOk l):(refS d l).length≤37*l.length:=by
 cases l with
 | nil=>simp [refS]
 | cons a t =>
  have h1:=nm_le (h a (by simp)).1
  have h2:=prtP_len (h a (by simp)).2
  have h3:=refT_len d (fun x hx=>h x (List.mem_cons_of_mem _ hx):refOk t)
  simp only [refS,List.length_cons,List.length_append];omega
theorem attT_join (pr:List UInt8→Int × Int)(l:List Pr):attT pr l=Lib.joinTail [44,32] (l.map (attB pr)) ++ [93]:=by
 induction l with
 | nil=>rfl
 | cons a t ih=>simp only [attT,ih];simp [Lib.joinTail]
def attJ (l:List Pr):List UInt8:=Lib.join (l.map (attB prL)) [44,32]
theorem attS_join {l:List Pr}(h:l≠[]):attS prL l=91 :: (attJ l ++ [93]):=by
 cases l with
 | nil=>exact absurd rfl h
 | cons a t=>simp only [attS,attT_join,attJ,List.map_cons,Lib.join_cons,List.append_assoc]
def arrS (d:Bool):List UInt8:=[32,45,if d then 62 else 45,32]
def refX (r:Pr):List UInt8:=r.1 ++ prtP r.2
theorem refT_join (d:Bool)(l:List Pr):refT d l=Lib.joinTail (arrS d) (l.map refX):=by
 induction l with
 | nil=>rfl
 | cons a t ih=>simp only [refT,ih];simp [Lib.joinTail,arrS,refX]
theorem refS_join (d:Bool)(l:List Pr):refS d l=Lib.join (l.map refX) (arrS d):=by
 cases l with
 | nil=>rfl
 | cons a t=>simp only [refS,refT_join,List.map_cons,Lib.join_cons,refX,List.append_assoc]
theorem attJ_len {l:List Pr}(h:attOk l):(attJ l).length≤85*l.length:=by
 cases l with
 | nil=>simp [attJ,Lib.join_nil]
 | cons a t =>
  have h1:=attS_len h
  rw [attS_join (by simp)] at h1
  simp only [List.length_cons,List.length_append,List.length_nil] at h1 ⊢;omega
end Go.Proofs.YtgmidodmmlmmeaaGreatDoor.prt
namespace Go.Proofs.YtgmidodmmlmmeaaGreatDoor.prt
open Go.RowKit Go.Sort lex tre
theorem ret_str {a b:ByteArray}(h:a=b):Ending.returned (.string a)=.returned (.string b):=by rw [h]
theorem ba_eq {a b:ByteArray}(h:a.data.toList=b.data.toList):a=b:=ba_ext h
theorem prt_str {p:ByteArray}:(p.toList.isEmpty=true→prtP p.data.toList=[])∧(p.toList.isEmpty=false→prtP p.data.toList=58 :: p.data.toList):=by
 rw [ByteArray.toList_eq]
 constructor
 ·intro h;unfold prtP;rw [if_pos h]
 ·intro h;unfold prtP;rw [if_neg (by rw [h];decide)]
section
variable {T:TypeId} {r:List Value}
theorem bd_room {w:World}{b:Nat}{cs:Array Value}{p:Value}(hT:T≠5)(hb:w.heap[b]?=some (.cells (p :: .slice none 0 0 :: r).toArray T (0,0)))(hm:cs.size≤maxLen) :
    BdP T r ((w.setCell ⟨b,1,none⟩ (.slice (some ⟨w.heap.size,0,none⟩) 0 cs.size)).alloc (.cells cs 5)) b p []:=by
 have hlt:b < w.heap.size:=(Array.getElem?_eq_some_iff.1 hb).1
 obtain ⟨h1,_⟩:=bd_set hT hb (Byt.nil w b) 1 (.slice (some ⟨w.heap.size,0,none⟩) 0 cs.size)
 have hz:(w.setCell ⟨b,1,none⟩ (.slice (some ⟨w.heap.size,0,none⟩) 0 cs.size)).heap.size=w.heap.size:=by simp [World.setCell]
 have hn:=heap_alloc_new (w.setCell ⟨b,1,none⟩ (.slice (some ⟨w.heap.size,0,none⟩) 0 cs.size)) (.cells cs 5)
 rw [hz] at hn
 exact ⟨_,by rw [Lib.alloc_old _ _ b (by omega),h1];simp,⟨rfl,Or.inr ⟨w.heap.size,cs.size,cs,rfl,Nat.le_of_lt hlt,hn,Nat.zero_le _,hm,by simp,by simp [Lib.byteCells]⟩⟩⟩
set_option maxRecDepth 100000 in
set_option maxHeartbeats 4000000 in
theorem grow_of (hT:T≠5)(b n:Nat)(w:World)(p:Value)(hb:w.heap[b]?=some (.cells (p :: .slice none 0 0 :: r).toArray T (0,0)))(hn:n≤1000000) :
    Calls Tryz.prog 290 #[.pointer (some ⟨b,0,none⟩),.int .i64 n] w fun e w'=>e=.returned (.tuple #[])∧BdP T r w' b p []∧Fr b w w':=by
 obtain ⟨cs,hrun,hle,hmax⟩:=Lib.run_makeNoZero (P:=Tryz.prog) w.drew #[3] 147 5 Tryz.underlying147 n (by omega)
 have hlt:b < w.heap.size:=(Array.getElem?_eq_some_iff.1 hb).1
 have hw:IntKind.i64.wrap (IntKind.i64.wrap 0+(n:Int))=n:=by
  rw [IntKind.wrap_i64,IntKind.wrap_i64]
  omega
 have hcall:(callFunc 312 #[.int .i64 (IntKind.i64.wrap (IntKind.i64.wrap 0+(n:Int)))]).run Tryz.prog w.drew=.ok (.value (.slice (some ⟨w.drew.heap.size,0,none⟩) n cs.size)) (w.drew.drew.drew.alloc (.cells cs 5)):=by
  rw [hw,run_callFunc_extern Tryz.func312 (by kernel_rfl) (by kernel_rfl) (by kernel_rfl) (e:=Extern.BytealgMakeNoZero.makeNoZero #[3] #[147]) (by kernel_rfl),hrun]
  rfl
 have c1:w.drew.cell? ⟨b,1,none⟩=some (.slice none 0 0):=by
  have h:w.drew.heap[b]?=_:=hb
  rw [Lib.cell_of_heap h];rfl
 have hb2:(w.alloc (.cells cs 5)).heap[b]?=_:=(Lib.alloc_old w _ b hlt).trans hb
 have c2:(w.alloc (.cells cs 5)).cell? ⟨b,1,none⟩=some (.slice none 0 0):=by rw [Lib.cell_of_heap hb2];rfl
 have f2:(w.alloc (.cells cs 5)).frozen? ⟨b,1,none⟩=false:=Lib.frozen_of_heap hb2 1
 have hcopy:∀ W:World,(Builtin.copy_ #[147,147] 3 #[.slice (some ⟨w.heap.size,0,none⟩) 0 cs.size,.slice none 0 0]).run Tryz.prog W=.ok (goInt 0) W :=
  fun W=>run_copy_none W 147 147 3 5 _ _ 0 cs.size 0 0 Tryz.underlying147 (by kernel_rfl) rfl
 have hfin:=Lh (bd_room hT hb (hmax (by unfold maxLen;omega)))
 have hfr:Hid (Fr b w ((w.setCell ⟨b,1,none⟩ (.slice (some ⟨w.heap.size,0,none⟩) 0 cs.size)).alloc (.cells cs 5))):=Lh (((Fr.refl b w).set _ _).alloc (by simp [World.setCell];omega) _)
 clear hw hb2 hb
 go_enter Tryz.func290,Tryz.ntmps290
 go_wp2_with fail
 go_region_held3 (fun w'=>w'.cell? ⟨b,1,none⟩=some (.slice none 0 0)) (first | assumption | exact c1 | exact c2) (fail)
 all_goals (go_wp2;go_end0;exact ⟨rfl,hfin.out,hfr.out.drew.drew.drew⟩)
set_option maxRecDepth 100000 in
set_option maxHeartbeats 4000000 in
theorem growth_of (hT:BT T r.length)(b n:Nat)(w:World)(hb:Hid (w.heap[b]?=some (.cells (.pointer none :: .slice none 0 0 :: r).toArray T (0,0))))(hn:n≤1000000) :
    Calls Tryz.prog 273 #[.pointer (some ⟨b,0,none⟩),.int .i64 n] w fun e w'=>e=.returned (.tuple #[])∧Bd T r w' b []∧Fr b w w':=by
 have hmx:Tryz.prog.follows .mixedOrders=true:=by kernel_rfl
 have hcf:=cc_fresh hT b w (by rw [Lib.cell_of_heap hb.out];rfl) (by simp [World.shape?,hb.out]) (Lib.frozen_of_heap hb.out 0)
 have hb1:(w.setCell ⟨b,0,none⟩ (.pointer (some ⟨b,0,none⟩))).heap[b]?=some (.cells (.pointer (some ⟨b,0,none⟩) :: .slice none 0 0 :: r).toArray T (0,0)):=by
  simp [World.setCell,Array.getElem?_modify,hb.out]
 have hf1:Fr b w (w.setCell ⟨b,0,none⟩ (.pointer (some ⟨b,0,none⟩))):=(Fr.refl b w).set _ _
 obtain ⟨w1,hw1⟩:∃ w1,w.setCell ⟨b,0,none⟩ (.pointer (some ⟨b,0,none⟩))=w1:=⟨_,rfl⟩
 rw [hw1] at hcf hb1 hf1
 clear hw1
 have HCF:=Lh hcf
 clear hcf
 go_enter Tryz.func273,Tryz.ntmps273
 go_wp2_with (go_at_call 250;refine (HCF.out).mono ?_)
 rintro e w2 ⟨rfl,rfl⟩
 have c1:w2.cell? ⟨b,1,none⟩=some (.slice none 0 0):=by rw [Lib.cell_of_heap hb1];rfl
 have t1:=fun d os=>cell_regrown c1 d os
 have HB:=Lh hb1
 clear c1 hb1
 go_wp2_with fail
 refine wp_region_quiet_below hmx (by kernel_rfl) ?_
 repeat (go_big_quiet_step (fail))
 refine wpQuiet_nil ?_
 intro _ hw'
 obtain ⟨⟨dq,osq⟩,hw''⟩:=hw'
 subst hw''
 have hbq:=below_regrown w2 dq osq
 have hlt:b < w2.heap.size:=(Array.getElem?_eq_some_iff.1 HB.out).1
 generalize grow (redrawn w2 dq) osq=w3 at hbq ⊢
 have hb3:w3.heap[b]?=_:=(hbq.block b hlt).trans HB.out
 have hf3:=hf1.trans (Fr.of hbq (by omega))
 have HG:=Lh (grow_of hT.ne b n w3 _ hb3 hn)
 have hg0:Bd T r w3 b []:=Or.inr ⟨_,hb3,Byt.nil _ _⟩
 have HG0:=Lh hg0
 clear hb3 hg0 t1
 by_cases h0:(0:Int) < n
 ·go_wp2_with (go_at_call 290;refine (HG.out).mono ?_;rintro e w4 ⟨rfl,h4,hf4⟩)
  go_end0
  exact ⟨rfl,Or.inr h4,hf3.trans hf4⟩
 ·go_wp2
  go_end0
  exact ⟨rfl,HG0.out,hf3⟩
end
theorem lens_le (xs:List (List UInt8))(k:Nat):Lib.lens (xs.take k)≤Lib.lens xs:=Lib.lens_take_le _ _
set_option maxRecDepth 100000 in
set_option maxHeartbeats 8000000 in
theorem sjoin_many (bk o c:Nat)(xs:List ByteArray)(sep Q:ByteArray)(w:World)(hcells:Hid (∀ (j:Nat) x,xs[j]?=some x→w.cell? ⟨bk,o+j,none⟩=some (.string x)))(hbk:bk < w.heap.size)
    (h2:2≤xs.length) (hN:xs.length≤40) (hcap:xs.length≤c) (hs0:1≤sep.size) (hs1:sep.size≤10) (hQ:Q.size≤100000) (hq:Hid (Lib.join (xs.map (·.data.toList)) sep.data.toList=Q.data.toList)) :
    Calls Tryz.prog 242 #[.slice (some ⟨bk,o,none⟩) xs.length c,.string sep] w fun e w'=>e=.returned (.string Q)∧Below w.heap.size w w':=by
 obtain ⟨x0,r,hxs⟩:∃ x0 r,xs=x0 :: r:=by
  cases xs with
  | nil=>simp at h2
  | cons a t=>exact ⟨a,t,rfl⟩
 have hJ:sep.size*(xs.length - 1)+Lib.lens (xs.map (·.data.toList))=Q.size:=by
  have:=Lib.join_length x0.data.toList (r.map (·.data.toList)) sep.data.toList
  rw [← b_size Q,← hq.out,hxs]
  simp only [List.map_cons]
  rw [this,List.length_map,b_size,List.length_cons,Nat.add_sub_cancel]
 generalize hM:sep.size*(xs.length - 1)=M at hJ
 have hcast:((xs.length:Int) - 1)=((xs.length - 1:Nat):Int):=by omega
 have hdv:¬ (9223372036854775807 / ((xs.length:Int) - 1)≤(sep.size:Int)):=by
  have h3:((xs.length:Int) - 1)≤39:=by omega
  have h4:0 < ((xs.length:Int) - 1):=by omega
  have h5:(11:Int)≤9223372036854775807 / ((xs.length:Int) - 1):=by
   rw [Int.le_ediv_iff_mul_le h4];omega
  omega
 have hprod:wrap64 ((sep.size:Int)*((xs.length:Int) - 1))=(M:Int):=by
  have e:(sep.size:Int)*((xs.length - 1:Nat):Int)=((sep.size*(xs.length - 1):Nat):Int):=IntWalk.up_mul rfl rfl
  rw [hcast,e,hM]
  exact IntWalk.wrap64_in _ ⟨by omega,by omega⟩
 have hne0:((xs.length:Int) == 0)=false:=beq_eq_false_iff_ne.2 (by omega)
 have hne1:((xs.length:Int) == 1)=false:=beq_eq_false_iff_ne.2 (by omega)
 have hsp:(0:Int) < (sep.size:Int):=by omega
 have HXS:=Lh hxs
 have HJ:=Lh hJ
 have hMb:M≤100000:=by omega
 clear hxs hJ hcast hM
 go_enter Tryz.func242,Tryz.ntmps242
 go_wp2_with fail
 go_loop [5,41] (fun n i=>∃ k:Nat,k≤xs.length∧i=.int .i64 k∧n=.int .i64 ((M+Lib.lens ((xs.map (·.data.toList)).take k):Nat):Int)) (fun _ i=>xs.length - (intOf i).toNat)
 case atStart=>exact ⟨0,Nat.zero_le _,rfl,by simp [Lib.lens]⟩
 case round =>
  obtain ⟨k,hk,rfl,rfl⟩:=hrel
  by_cases hkn:k < xs.length
  ·obtain ⟨x,hx⟩:∃ x,xs[k]?=some x:=⟨xs[k],List.getElem?_eq_getElem hkn⟩
   have hc:=hcells.out k x hx
   have hstep:=Lib.lens_take_succ (xs.map (·.data.toList)) k x.data.toList (by simp [hx])
   have hbound:=lens_le (xs.map (·.data.toList)) (k+1)
   have hJ2:=HJ.out
   rw [b_size] at hstep
   generalize hA1:Lib.lens ((xs.map (·.data.toList)).take (k+1))=A1 at hstep hbound
   generalize Lib.lens ((xs.map (·.data.toList)).take k)=A0 at hstep
   have HA1:=Lh hA1
   have hA0b:A0≤100000:=by omega
   have hA1b:A0+x.size≤100000:=by omega
   have hA1e:=Lh hstep
   clear hA1 hbound hJ2 hstep
   go_wp2
   go_round
   case rel=>exact ⟨k+1,by omega,by go_num,by rw [HA1.out,hA1e.out];refine congrArg _ ?_;omega⟩
   case measure=>simp [intOf];omega
  ·obtain rfl:k=xs.length:=by omega
   have hall:(xs.map (·.data.toList)).take xs.length=xs.map (·.data.toList):=List.take_of_length_le (by simp)
   rw [hall]
   have hMT:((M+Lib.lens (xs.map (·.data.toList)):Nat):Int)=(Q.size:Int):=by rw [HJ.out]
   rw [hMT]
   clear hall hMT
   go_wp2_with fail
   refine (growth_of bt_builder w.heap.size Q.size _ (Lh (heap_alloc_new w _)) (by omega)).mono ?_
   rintro e w1 ⟨rfl,h1,hf1⟩
   have hb1:Below w.heap.size w w1:=((Below.refl w.heap.size w).alloc (Nat.le_refl _) _).trans hf1.1
   have hx0:xs[0]?=some x0:=by rw [HXS.out];rfl
   have hc0:w1.cell? ⟨bk,o,none⟩=some (.string x0):=by
    rw [hb1.cell (p:=⟨bk,o,none⟩) hbk]
    exact hcells.out 0 x0 hx0
   have H1:=Lh h1
   have HB1:=Lh hb1
   have hwhole:Q.data.toList=x0.data.toList ++ Lib.joinTail sep.data.toList (r.map (·.data.toList)):=by
    rw [← hq.out,HXS.out,List.map_cons,Lib.join_cons]
   have hCle:∀ k,(x0.data.toList ++ Lib.joinTail sep.data.toList ((r.map (·.data.toList)).take k)).length≤100000:=fun k=>by
    have h1:=congrArg List.length hwhole
    rw [b_size,List.length_append] at h1
    have h2:=Lib.joinTail_take_le sep.data.toList (r.map (·.data.toList)) k
    rw [List.length_append]
    omega
   have HCLE:=Lh hCle
   have HWH:=Lh hwhole
   have hx0s:x0.size≤100000:=by have:=hCle 0;rw [List.length_append,b_size] at this;omega
   clear h1 hf1 hb1 hx0 hCle hwhole
   go_wp2_with fail
   refine (wstr_of bt_builder w.heap.size [] x0 w1 H1 (by simp;omega)).mono ?_
   rintro e w2 ⟨rfl,h2',hf2⟩
   have H2:Hid (Bd 149 [] w2 w.heap.size (x0.data.toList ++ Lib.joinTail sep.data.toList ((r.map (·.data.toList)).take 0))):=Lh (by simpa [Lib.joinTail] using h2')
   have HB2:=Lh (HB1.out.trans hf2.1)
   have hrl:r.length=xs.length - 1:=by rw [HXS.out];simp
   clear h2' hf2 HB1 H1 hc0
   go_wp2_with fail
   go_loopw [65] (fun i wr=>∃ k:Nat,k≤r.length∧i=.int .i64 k∧Hid (Bd 149 [] wr w.heap.size (x0.data.toList ++ Lib.joinTail sep.data.toList ((r.map (·.data.toList)).take k)))∧Hid (Below w.heap.size w wr)) (fun i _=>r.length - (intOf i).toNat)
   case atStart=>exact ⟨0,Nat.zero_le _,rfl,H2,HB2⟩
   case round =>
    obtain ⟨k,hk',rfl,HB,HW⟩:=hrel
    rename World=>wr
    by_cases hkr:k < r.length
    ·obtain ⟨y,hy⟩:∃ y,r[k]?=some y:=⟨r[k],List.getElem?_eq_getElem hkr⟩
     have hxy:xs[k+1]?=some y:=by rw [HXS.out];simpa using hy
     have hcy:wr.cell? ⟨bk,o+1+k,none⟩=some (.string y):=by
      rw [HW.out.cell (p:=⟨bk,o+1+k,none⟩) hbk,show o+1+k=o+(k+1) by omega]
      exact hcells.out (k+1) y hxy
     have hts:=Lib.joinTail_take_succ sep.data.toList (r.map (·.data.toList)) k y.data.toList (by simp [hy])
     have hl1:=HCLE.out (k+1)
     rw [hts] at hl1
     simp only [List.length_append,b_size] at hl1
     have HN:Hid (x0.data.toList ++ Lib.joinTail sep.data.toList ((r.map (·.data.toList)).take k) ++ sep.data.toList ++ y.data.toList=x0.data.toList ++ Lib.joinTail sep.data.toList ((r.map (·.data.toList)).take (k+1))):=Lh (by rw [hts];simp)
     have hl0:(x0.data.toList ++ Lib.joinTail sep.data.toList ((r.map (·.data.toList)).take k)).length=x0.size+(Lib.joinTail sep.data.toList ((r.map (·.data.toList)).take k)).length:=by rw [List.length_append,b_size]
     generalize x0.data.toList ++ Lib.joinTail sep.data.toList ((r.map (·.data.toList)).take k)=acc at HB HN hl0
     generalize (Lib.joinTail sep.data.toList ((r.map (·.data.toList)).take k)).length=J at hl0 hl1
     have hl2:acc.length+sep.size+y.size≤100000:=by omega
     clear hxy hy hts hl1 hl0
     go_wp2_with fail
     refine (wstr_of bt_builder w.heap.size acc sep wr HB (by omega)).mono ?_
     rintro e w3 ⟨rfl,h3,hf3⟩
     have H3:=Lh h3
     have HB3:=Lh (HW.out.trans hf3.1)
     clear h3 hf3
     go_wp2_with fail
     refine (wstr_of bt_builder w.heap.size (acc ++ sep.data.toList) y w3 H3 (by rw [List.length_append,b_size];omega)).mono ?_
     rintro e w4 ⟨rfl,h4,hf4⟩
     rw [HN.out] at h4
     have H4:=Lh h4
     have HB4:=Lh (HB3.out.trans hf4.1)
     clear h4 hf4
     go_wp2
     go_roundw
     case rel=>exact ⟨k+1,by omega,by go_num,H4,HB4⟩
     case measure=>simp [intOf];omega
    ·obtain rfl:k=r.length:=by omega
     have hfull:(r.map (·.data.toList)).take r.length=r.map (·.data.toList):=List.take_of_length_le (by simp)
     have hB:=HB.out
     rw [hfull,← HWH.out] at hB
     have HBQ:=Lh hB
     have hQ1:0 < Q.size:=by
      have h5:xs.length - 1≠0:=by omega
      have h6:=Lib.join_length x0.data.toList (r.map (·.data.toList)) sep.data.toList
      have h7:=congrArg List.length HWH.out
      rw [← Lib.join_cons,h6,List.length_map,b_size,b_size,hrl] at h7
      have h8:1≤sep.size*(xs.length - 1):=Nat.mul_pos hs0 (by omega)
      omega
     have hQn:Q.data.toList≠[]:=by intro e;rw [← b_size,e] at hQ1;simp at hQ1
     clear hB hfull HB hQ1
     go_wp2_with fail
     refine (wtext_of w.heap.size Q.data.toList wr HBQ hQn).mono ?_
     rintro e w5 ⟨rfl,hb5⟩
     have HB5:=Lh (HW.out.trans hb5)
     clear hb5
     go_wp2
     go_ret
     exact ⟨ret_str (ba_eq (by simp)),HB5.out⟩
end Go.Proofs.YtgmidodmmlmmeaaGreatDoor.prt
