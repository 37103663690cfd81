/-
  What Ports of the landed code answers. Condition: a text's length; that the library's variable MaxLen holds a number.
  What lists ports is a text, and what the code's rules accept is what the chapter's do. No function of the program is named here; no condition.
  What accepts, Check and CheckAll of the landed code answer. Condition: the length of texts and lists; that the library's variable MaxLen holds a number.
-/
import Derived.Test.YtcdoicgbjoikkaaGreatDoorMcg
namespace Go.Proofs.YtcdoicgbjoikkaaGreatDoor.att
open Go.RowKit lex tre
attribute [local go_sem] Oper.semAt_some
set_option maxHeartbeats 1000000 in
theorem spl_of (S:ByteArray)(w:World):Calls Tryz.prog 101 #[.string S,.string ⟨#[44,32]⟩] w fun e w' =>
    e=.returned (.func (.func 160) #[] #[.pointer (some ⟨w.heap.size+1,0,none⟩),.pointer (some ⟨w.heap.size,0,none⟩),.pointer (some ⟨w.heap.size+2,0,none⟩)]) ∧
     (Below w.heap.size w w'∧Box3 w' w.heap.size S∧w'.heap.size=w.heap.size+3):=by
 have b3:Box3 (((w.alloc (.cells #[.string S] 9)).alloc (.cells #[.string ⟨#[44,32]⟩] 9)).alloc (.cells #[.int .i64 0] 3)) w.heap.size S:=by
  refine ⟨?_,?_,?_⟩
  ·rw [heap_alloc_old _ _ (h:=by simp;omega),heap_alloc_old _ _ (h:=by simp)];exact heap_alloc_new w _
  ·rw [heap_alloc_old _ _ (h:=by simp)]
   have:=heap_alloc_new (w.alloc (.cells #[.string S] 9)) (.cells #[.string ⟨#[44,32]⟩] 9)
   rwa [show (w.alloc (.cells #[.string S] 9)).heap.size=w.heap.size+1 by simp] at this
  ·have:=heap_alloc_new ((w.alloc (.cells #[.string S] 9)).alloc (.cells #[.string ⟨#[44,32]⟩] 9)) (.cells #[.int .i64 0] 3)
   rwa [show ((w.alloc (.cells #[.string S] 9)).alloc (.cells #[.string ⟨#[44,32]⟩] 9)).heap.size=w.heap.size+2 by simp] at this
 have hz:(((w.alloc (.cells #[.string S] 9)).alloc (.cells #[.string ⟨#[44,32]⟩] 9)).alloc (.cells #[.int .i64 0] 3)).heap.size=w.heap.size+3:=by simp
 have hb:=al3 w (.cells #[.string S] 9) (.cells #[.string ⟨#[44,32]⟩] 9) (.cells #[.int .i64 0] 3)
 have HH:=Lh (And.intro hb (And.intro b3 hz))
 clear b3 hz hb
 go_enter Tryz.func101,Tryz.ntmps101
 go_wp2
 go_ret
 exact ⟨rfl,HH.out⟩
def partB (S:ByteArray):List ByteArray:=(splitL S.data.toList).map bb
theorem partB_list (S:ByteArray):(partB S).map (·.data.toList)=splitL S.data.toList:=by
 unfold partB
 rw [List.map_map]
 exact (List.map_congr_left (fun x _=>by simp)).trans (List.map_id _)
theorem partB_len {S:ByteArray}{pre:List ByteArray}{x:ByteArray}(h:pre ++ [x] <+: partB S):x.size≤S.size:=by
 have hm:x∈partB S:=h.subset (by simp)
 unfold partB at hm
 obtain ⟨y,hy,rfl⟩:=List.mem_map.1 hm
 have:=split_len _ S.data.toList [] (Nat.le_refl _) y hy
 rw [bb_len]
 simpa using this
theorem spl_seq (S:ByteArray)(hS:S.size≤1000)(c m:Nat)(hM:2 < m)(hmc:m≤c)(w:World)(hc3:c+3≤w.heap.size)(hB:Box3 w c S)(hX:Mx w) :
    SeqC Tryz.prog 160 #[.pointer (some ⟨c+1,0,none⟩),.pointer (some ⟨c,0,none⟩),.pointer (some ⟨c+2,0,none⟩)] (fun x:ByteArray=>#[.string x]) m c (some c) (partB S) w:=fun n l J Jx W hW hJ hY h0 =>
 spl1_in n l c m S hS hM hmc J Jx (partB S) (partB_list S) (fun pre X Y row h hg hr=>hJ pre X Y row h hg (fun r e=>by rw [hr r e])) hY W (hB.keep (m:=m) ⟨hW.mono (by omega),fun k _ hk=>hW.block k (by omega)⟩) (hX.keep hW) h0
theorem parts_app:∀ (a b:List (List UInt8)) (o:List Pt),partsL (a ++ b) o=if (partsL a o).2≠0 then partsL a o else partsL b (partsL a o).1
 | [],b,o=>by rw [parts_nil,if_neg (by simp)];rfl
 | s :: t,b,o=>by
  have ih:=parts_app t b
  rw [List.cons_append,parts_cons,parts_cons]
  split
  ·rename_i h
   first | rfl | exact (if_pos h).symm
  ·split
   ·first | rfl | exact (if_pos (by simp)).symm
   ·split
    ·first | rfl | exact (if_pos (by simp)).symm
    ·exact ih _
def prtA (pre:List ByteArray):List Pt × Int:=partsL (pre.map (·.data.toList)) []
theorem prtA_snoc {pre:List ByteArray}{out:List Pt}(x:ByteArray)(h:prtA pre=(out,0)):prtA (pre ++ [x])=partsL [x.data.toList] out:=by
 unfold prtA at *
 rw [List.map_append,parts_app,h,if_neg (by simp)];rfl
theorem prtA_err {pre xs:List ByteArray}{e0:Int}(hp:pre <+: xs)(h:prtA pre=([],e0))(h0:e0≠0):prtA xs=([],e0):=by
 obtain ⟨t,rfl⟩:=hp
 unfold prtA at *
 rw [List.map_append,parts_app,h,if_pos h0]
theorem prtA_all (S:ByteArray)(h:S.data.toList≠[]):prtA (partB S)=portsL S.data.toList:=by
 unfold prtA portsL
 rw [partB_list,if_neg h]
theorem app_poIn {F:Fence}{nF:Nat}{w:World}{ops:Array Oper}{rest:List Oper}{o:Oper}{a:Act}{Q:Exit→Act→World→Prop}(hg:o.guard=none)(p y:Operand)(ho:o.op=.call { callee:=.builtin .append,args:=#[p,y],argTypes:=#[43,43] })
    (B:Nat) (v:Value) (l:List Pt) (x:ByteArray) (d:Int) (H:Nat) (hH:w.heap.size=H) (hs:a.eval p=v) (hx:a.eval y=.slice (some ⟨H,0,none⟩) 1 1) (h:Hid (Prow w B v l)) (hl:l.length≤1000000) (hB:B≤w.heap.size)
    (hK:∀ ao cap w',Prow w' B (.slice ao (l.length+1) cap) (l ++ [(x.data.toList,d)])→w.grownBy w' v.ownBlock→wpListIn F nF Tryz.prog ops Q rest (a.put o.dst (.slice ao (l.length+1) cap)) w'):wpListIn F nF Tryz.prog ops Q (o :: rest) a (w.alloc (.cells #[.string x,.int .i64 d] 129)):=by
 subst hH
 obtain ⟨i0,hi,hz0,hz1,hz2⟩:=info_of_cpo
 refine wpListIn_append_own _ hg p y 43 ho B 129 i0 _ 2 24 Tryz.underlying43 hi hz0 hz1 hz2 rfl (by decide) v l.length _ hs (World.ownsRow.alloc h.out _) ⟨w.heap.size,0,none⟩ 1 1 [.string x,.int .i64 d] hx rfl ?_ (by simp [Value.oneCell']) (by unfold maxLen;omega) (by omega) (by simp;omega) ?_
 ·intro j u hj
  rw [add_at,Nat.zero_add,blk_cell (blk_new w #[.string x,.int .i64 d] 129),← hj]
  simp
 ·intro v' w' hown hgrow _
  obtain ⟨ao,cap,rfl,_,_⟩:=own_form hown
  refine hK ao cap w' ?_ ?_
  ·unfold Prow
   rw [List.length_append,List.flatMap_append]
   have hx:bb x.data.toList=x:=by simp [bb]
   show World.ownsRow _ _ _ _ _ _ (_ ++ (poC (x.data.toList,d) ++ []))
   unfold poC
   simp only [hx,List.append_nil]
   exact hown
  ·refine ⟨hgrow.os,hgrow.tape,hgrow.output,Nat.le_trans (by simp) hgrow.size,fun k hk hne=>?_⟩
   rw [hgrow.block k (by simp;omega) hne,heap_alloc_old w _ (h:=hk)]
theorem boxed_keep2 {w1 w2:World}{B:Nat}{t:TypeId}{v:Value}(h2:Below w1.heap.size w1 w2)(h:Boxed w1 B t v):Boxed w2 B t v:=(h2.block B h.lt).trans h
theorem bx_keep {n:Nat}{w1 w2:World}{B:Nat}{t:TypeId}{v:Value}(h2:Below n w1 w2)(hn:B < n)(h:Boxed w1 B t v):Boxed w2 B t v:=(h2.block B hn).trans h
theorem prow_at {W:World}{B:Nat}{v:Value}{l:List Pt}(h:Prow W B v l){q:Nat}(hq:v.ownBlock=some q):B≤q:=by
 rcases h.2 with ⟨rfl,_⟩ | ⟨b,cap,cur,rfl,hb,_⟩
 ·cases hq
 ·have:b=q:=Option.some.inj hq
  omega
theorem prow_kept {W Y:World}{B q:Nat}{v:Value}{l:List Pt}(h:Prow W B v l)(hg:W.grownBy Y (some q))(hq:q < B):Prow Y B v l:=by
 refine World.ownsRow.kept h hg ?_
 cases hv:v.ownBlock with
 | none=>exact Or.inl rfl
 | some b=>exact Or.inr (fun e=>by have:=prow_at h hv;cases e;omega)
def PoI (w:World)(g:Nat)(pre:List ByteArray)(W:World):Prop :=
 ∃ out v,prtA pre=(out,0)∧out.length≤8∧Boxed W (g+1+1) 43 v∧Prow W (g+8) v out∧Boxed W g 43 (.slice none 0 0)∧Boxed W (g+1) 32 (.int .i64 0)∧Below g w W
def PoX (w:World)(g:Nat)(pre:List ByteArray)(W:World):Prop :=
 ∃ e0,prtA pre=([],e0)∧e0≠0∧Boxed W g 43 (.slice none 0 0)∧Boxed W (g+1) 32 (.int .i64 e0)∧Below g w W
theorem PoI.step {w:World}{g:Nat}{pre:List ByteArray}{X Y:World}{row:Option Nat}(h:PoI w g pre X)(hg:X.grownBy Y row)(hr:∀ r,row=some r→r=g+3∨r=g+7):PoI w g pre Y:=by
 obtain ⟨out,v,h1,h2,h3,h4,h5,h6,h7⟩:=h
 have hz:g≤X.heap.size:=Nat.le_of_lt h5.lt
 refine ⟨out,v,h1,h2,h3.kept hg (fun e=>by have:=hr _ e.symm;omega),?_,h5.kept hg (fun e=>by have:=hr _ e.symm;omega),h6.kept hg (fun e=>by have:=hr _ e.symm;omega),h7.grown hg hz (fun k e=>by have:=hr k e;omega)⟩
 refine World.ownsRow.kept h4 hg ?_
 cases hq:v.ownBlock with
 | none=>exact Or.inl rfl
 | some q =>
  refine Or.inr (fun e=>?_)
  have h8:=hr q e.symm
  rcases h4.2 with ⟨rfl,_⟩ | ⟨b,cap,cur,rfl,hb,_⟩
  ·cases hq
  ·have:b=q:=Option.some.inj hq
   omega
theorem PoX.step {w:World}{g:Nat}{pre:List ByteArray}{X Y:World}{row:Option Nat}(h:PoX w g pre X)(hg:X.grownBy Y row)(hr:∀ r,row=some r→r=g+7):PoX w g pre Y:=by
 obtain ⟨e0,h1,h2,h5,h6,h7⟩:=h
 have hz:g≤X.heap.size:=Nat.le_of_lt h5.lt
 exact ⟨e0,h1,h2,h5.kept hg (fun e=>by have:=hr _ e.symm;omega),h6.kept hg (fun e=>by have:=hr _ e.symm;omega),h7.grown hg hz (fun k e=>by have:=hr k e;omega)⟩
set_option maxRecDepth 100000 in
set_option maxHeartbeats 4000000 in
theorem ports_loop (S:ByteArray)(l:List Pt)(e0:Int)(w:World)(hM:Hid (Mx w))(hs:S.size≤1000)(hne:S.data.toList≠[])(h:Hid (portsL S.data.toList=(l,e0))) :
    Calls Tryz.prog 58 #[.string S] w fun e w'=>(∃ v,e=.returned (.tuple #[v,.int .i64 e0])∧PosT w' v l)∧Below w.heap.size w w':=by
 have bS:=str_no (c:=[]) hne
 obtain ⟨g,hg⟩:∃ g,w.heap.size=g:=⟨_,rfl⟩
 have hMg:2 < g:=by
  obtain ⟨q,hq⟩:=hM.out
  rw [← hg]
  exact World.block_lt_of_cell? w _ hq
 refine (callsIn_wide (n:=9)).1 ?_
 refine callsIn_of_wp_marks Tryz.func58 rfl trivial ?_ rfl
 simp only [Tryz.ntmps58,List.size_toArray,List.length_cons,List.length_nil,Nat.reduceAdd,Nat.reduceSub,Array.replicate_succ,Array.replicate_zero,List.push_toArray,List.append_toArray,List.nil_append,List.cons_append]
 gi_wp2
 have bA:=((Boxed.new w 43 (.slice none 0 0)).alloc (.cells #[.int .i64 0] 32)).alloc (.cells #[.slice none 0 0] 43)
 have bE:=(Boxed.new (w.alloc (.cells #[.slice none 0 0] 43)) 32 (.int .i64 0)).alloc (.cells #[.slice none 0 0] 43)
 have bL:=Boxed.new ((w.alloc (.cells #[.slice none 0 0] 43)).alloc (.cells #[.int .i64 0] 32)) 43 (.slice none 0 0)
 have hB0:=al3 w (.cells #[.slice none 0 0] 43) (.cells #[.int .i64 0] 32) (.cells #[.slice none 0 0] 43)
 simp only [World.size_alloc] at bE bL
 have hsz:(((w.alloc (.cells #[.slice none 0 0] 43)).alloc (.cells #[.int .i64 0] 32)).alloc (.cells #[.slice none 0 0] 43)).heap.size=w.heap.size+3:=by simp
 generalize ((w.alloc (.cells #[.slice none 0 0] 43)).alloc (.cells #[.int .i64 0] 32)).alloc (.cells #[.slice none 0 0] 43)=w0 at bA bE bL hB0 hsz ⊢
 rw [hg] at bA bE bL hB0 hsz
 have hX0:=hM.out.keep (by rw [hg];exact hB0)
 refine ⟨trivial,?_⟩
 refine (callsIn_wide.2 (spl_of S w0)).mono ?_
 rintro e W0 ⟨rfl,hb1,hb3,hz1⟩
 rw [hsz] at hb1 hb3 hz1
 simp only [hsz]
 have hX1:=hX0.keep (by rw [hsz];exact hb1)
 have bA1:=bx_keep hb1 (by omega) bA
 have bE1:=bx_keep hb1 (by omega) bE
 have bL1:=bx_keep hb1 (by omega) bL
 have hB1:Below g w W0:=hB0.trans (hb1.mono (by omega))
 have HP:Hid (prtA (partB S)=(l,e0)):=Lh ((prtA_all S hne).trans h.out)
 gi_wp2
 refine range_c rfl (enters_of Tryz.func160 (by kernel_rfl) rfl) (spl_seq S hs (g+3) g hMg (by omega) W0 (by omega) hb3 hX1) (fun r e=>by cases e;omega) (by omega) (by omega) (fun _=>rfl)
  (PoI w g) (PoX w g) (fun pre X Y row h hg hr=>h.step hg (fun r e=>by rcases hr r e with e | e;exact Or.inl (Option.some.inj e).symm;exact Or.inr (by omega))) (fun pre X Y row h hg hr=>h.step hg (fun r e=>by have:=hr r e;omega))
  ⟨[],.slice none 0 0,rfl,by decide,bL1,World.ownsRow_nil _ _ _ _,bA1,bE1,hB1⟩
  (fun x a' _=>a'={ tmps:=#[.string S,undef,.pointer (some ⟨g,0,none⟩),.pointer (some ⟨g+1,0,none⟩),.pointer (some ⟨g+1+1,0,none⟩),.string x,undef,undef,undef,.string S,.bool false,.string S,.func (.func 160) #[] #[.pointer (some ⟨g+3+1,0,none⟩),.pointer (some ⟨g+3,0,none⟩),.pointer (some ⟨g+3+2,0,none⟩)],.string x,undef,undef,undef,undef,undef,undef,undef,undef,undef,undef,undef,undef,undef,undef,undef,undef,undef,undef,undef,undef,undef,undef,undef],defers:=[] }) (fun _ _ _ _ h _=>h) ?assign ?body ?done ?stop
 case assign =>
  intro k l pre x W K hI hz hK
  gi_wp2
  exact hK _ _ ⟨Below.refl _ _,fun _ _ _=>rfl,rfl,rfl⟩ hI rfl
 case body =>
  rintro k l pre x a' W ⟨out,v,hpa,hol,bL,hrow,bA,bE,hB⟩ hz rfl hpre
  obtain ⟨ao,cap,rfl,hc1,hc2⟩:=own_form hrow
  have hxs:=partB_len hpre
  have hMW:Mx W:=by
   obtain ⟨q,hq⟩:=hM.out
   exact ⟨q,(hB.cell (p:=⟨2,0,none⟩) hMg).trans hq⟩
  obtain ⟨pe,pn,pd,hp⟩:∃ a b c,partL x.data.toList=(a,b,c):=⟨_,_,_,rfl⟩
  have hst:=prtA_snoc x hpa
  rw [parts_cons,hp] at hst
  simp only [parts_nil] at hst
  have HST:=Lh hst
  have HPL:=Lh hp
  have HMW:=Lh hMW
  clear hst hp hMW hpa
  have hg1:=bA.lt
  gi_wp2
  refine ⟨trivial,fun h=>(by cases h),?_⟩
  refine (CallsIn.inRound l (callsIn_wide.2 (port_of x pe pn pd W HMW (by omega) HPL))).mono ?_
  rintro e w1 ⟨rfl,hb1⟩
  have hq1:=hb1.size
  have bL2:=(boxed_keep2 hb1 bL).alloc (.cells #[.string (bb pn),.int .i64 pd] 129)
  have bA2:=(boxed_keep2 hb1 bA).alloc (.cells #[.string (bb pn),.int .i64 pd] 129)
  have bE2:=(boxed_keep2 hb1 bE).alloc (.cells #[.string (bb pn),.int .i64 pd] 129)
  have hrow2:Prow (w1.alloc (.cells #[.string (bb pn),.int .i64 pd] 129)) (g+8) (.slice ao out.length cap) out:=World.ownsRow.alloc (own_keep hrow hb1) _
  have o2:=own2_new w1 (.string (bb pn)) (.int .i64 pd) 129
  have hb2:=below_keep (al1 w1 (.cells #[.string (bb pn),.int .i64 pd] 129)) hb1
  have hq2:(w1.alloc (.cells #[.string (bb pn),.int .i64 pd] 129)).heap.size=w1.heap.size+1:=by simp
  have k2:Kp3 g (g+3) W0.heap.size W (w1.alloc (.cells #[.string (bb pn),.int .i64 pd] 129)):=Kp3.of (by omega) (by omega) (by omega) hb2
  obtain ⟨o20,o21,o2f,o2g⟩:=id o2
  have K2:=Lh k2
  have HR2:=Lh hrow2
  clear k2 hrow2 hrow hb2 hb1 bL bA bE
  by_cases hpe:pe=0
  case neg =>
   have b0:(pe != 0)=true:=by rw [bne_iff_ne];exact hpe
   have HX:Hid (prtA (pre ++ [x])=([],pe)):=Lh (HST.out.trans (if_pos hpe))
   have HPE:=Lh hpe
   clear hpe
   have cA:=bA2.cell
   have fA:=bA2.frozen
   have cE:=(bE2.other (B':=g) (by omega) (.slice none 0 0)).cell
   have fE:=(bE2.other (B':=g) (by omega) (.slice none 0 0)).frozen
   gi_wp2
   have k3:=(K2.out.t (Kp3.set (b:=g) (o:=0) (v:=.slice none 0 0) (Nat.le_refl _) (by omega) (by omega) (by omega))).t (Kp3.set (b:=g+1) (o:=0) (v:=.int .i64 pe) (by omega) (by omega) (by omega) (by omega))
   exact ⟨k3.2.2.1,k3.2.2.2,pe,HX.out,HPE.out,(bA2.set _).other (by omega) _,(bE2.other (by omega) _).set _,hB.trans k3.1⟩
  case pos =>
   subst hpe
   obtain ⟨ba,hba⟩:∃ b,out.any (fun p=>decide (pn=p.1))=b:=⟨_,rfl⟩
   have hany:out.any (fun p=>decide (p.1=pn))=ba:=by
    rw [← hba]
    congr 1
    funext p
    rw [Bool.eq_iff_iff];simp [eq_comm]
   have hst:=HST.out
   rw [if_neg (by simp),hany] at hst
   have HBA:=Lh hba
   have HST:=Lh hst
   clear hba hany hst
   have cL2:=bL2.cell
   gi_wp2
   clear cL2
   generalize w1.alloc (.cells #[.string (bb pn),.int .i64 pd] 129)=w2 at bL2 bA2 bE2 HR2 o2 hq2 K2 o20 o21 o2f o2g ⊢
   refine ⟨trivial,fun h=>(by cases h),?_⟩
   refine (CallsIn.inRound l (callsIn_wide.2 (pocon_of _ out w1.heap.size pn ba w2 (by omega) (Lh HR2.out.pos) (Lh o20) HBA))).mono ?_
   rintro e w3 ⟨rfl,hb3⟩
   have hq3:=hb3.size
   have bL3:=boxed_keep2 hb3 bL2
   have b3A:=boxed_keep2 hb3 bA2
   have b3E:=boxed_keep2 hb3 bE2
   have hrow3:Prow w3 (g+8) (.slice ao out.length cap) out:=own_keep HR2.out hb3
   have o3:=o2.keep hb3
   have K3:=Lh (K2.out.t (Kp3.of (by omega) (by omega) (by omega) hb3))
   have HR3:=Lh hrow3
   clear hb3 bL2 bA2 bE2 o2 o20 o21 o2f o2g HR2 K2 hrow3
   obtain ⟨o30,o31,o3f,o3g⟩:=o3
   cases ba
   case true =>
    have HS:Hid (prtA (pre ++ [x])=([],6)):=Lh (HST.out.trans (if_pos rfl))
    clear HST
    have cA:=b3A.cell
    have fA:=b3A.frozen
    have cE:=(b3E.other (B':=g) (by omega) (.slice none 0 0)).cell
    have fE:=(b3E.other (B':=g) (by omega) (.slice none 0 0)).frozen
    gi_wp2
    have k5:=(K3.out.t (Kp3.set (b:=g) (o:=0) (v:=.slice none 0 0) (Nat.le_refl _) (by omega) (by omega) (by omega))).t (Kp3.set (b:=g+1) (o:=0) (v:=.int .i64 6) (by omega) (by omega) (by omega) (by omega))
    exact ⟨k5.2.2.1,k5.2.2.2,6,HS.out,by decide,(b3A.set _).other (by omega) _,(b3E.other (by omega) _).set _,hB.trans k5.1⟩
   case false =>
    have hst:=HST.out
    rw [if_neg (by simp)] at hst
    have cL:=bL3.cell
    by_cases h8:out.length=8
    ·have HS:Hid (prtA (pre ++ [x])=([],2)):=Lh (hst.trans (if_pos h8))
     have i8:decide ((8:Int)≤(out.length:Int))=true:=by simp;omega
     clear HST hst h8
     have cA:=b3A.cell
     have fA:=b3A.frozen
     have cE:=(b3E.other (B':=g) (by omega) (.slice none 0 0)).cell
     have fE:=(b3E.other (B':=g) (by omega) (.slice none 0 0)).frozen
     gi_wp2
     have k5:=(K3.out.t (Kp3.set (b:=g) (o:=0) (v:=.slice none 0 0) (Nat.le_refl _) (by omega) (by omega) (by omega))).t (Kp3.set (b:=g+1) (o:=0) (v:=.int .i64 2) (by omega) (by omega) (by omega) (by omega))
     exact ⟨k5.2.2.1,k5.2.2.2,2,HS.out,by decide,(b3A.set _).other (by omega) _,(b3E.other (by omega) _).set _,hB.trans k5.1⟩
    ·have HS:Hid (prtA (pre ++ [x])=(out ++ [(pn,pd)],0)):=Lh (hst.trans (if_neg h8))
     have i8:decide ((8:Int)≤(out.length:Int))=false:=by simp;omega
     have hol':out.length+1≤8:=by omega
     clear HST hst h8 hol
     gi_wp2_with (gi_at_builtin;refine app_poIn rfl (.tmp 32) (.tmp 34) rfl (g+8) _ out (bb pn) pd _ rfl rfl rfl HR3 (by omega) (by omega) ?_;intro ao4 cap4 w4 hrow4 hgr4;have bL4:=bL3.kept hgr4 (bL3.not_row (by decide) HR3.out);have cL4:=bL4.cell;have fL4:=bL4.frozen)
     have b4A:=b3A.kept hgr4 (b3A.not_row (by decide) HR3.out)
     have b4E:=b3E.kept hgr4 (b3E.not_row (by decide) HR3.out)
     have k4:=K3.out.t ((Kp3.grown hgr4 (by omega) (by omega) (by omega) (fun r e=>by have:=prow_at HR3.out e;omega)).t (Kp3.set (b:=g+1+1) (o:=0) (v:=.slice ao4 (out.length+1) cap4) (by omega) (by omega) (by omega) (by omega)))
     rw [hz1] at k4
     exact ⟨k4,out ++ [(pn,pd)],.slice ao4 (out.length+1) cap4,HS.out,by simp;omega,bL4.set _,prow_kept hrow4 (grownBy_setCell' _ _ _) (by omega),b4A.other (by omega) _,b4E.other (by omega) _,hB.trans k4.1⟩
 case done =>
  rintro W ⟨out,v,hpa,hol,bL,hrow,bA,bE,hB⟩ hK
  obtain ⟨ao,cap,rfl,hc1,hc2⟩:=own_form hrow
  have hall:=hpa.symm.trans HP.out
  obtain ⟨rfl,rfl⟩:=Prod.mk.inj hall
  have cL:=bL.cell
  have cA:=bA.cell
  have fA:=bA.frozen
  have cE:=(bE.other (B':=g) (by omega) (.slice ao out.length cap)).cell
  have fE:=(bE.other (B':=g) (by omega) (.slice ao out.length cap)).frozen
  have hK1:=((KeepsOthers.setCell W ⟨g,0,none⟩ (.slice ao out.length cap)).trans (KeepsOthers.setCell _ ⟨g+1,0,none⟩ (.int .i64 0))).same W0.heap.size _ hK rfl
  have bA2:=(((bA.set (.slice ao out.length cap)).other (B':=g+1) (by omega) (.int .i64 0)).kept (grownBy_putObj' _ W0.heap.size (.deferred none)) (by simp;omega))
  have bE2:=(((bE.other (B':=g) (by omega) (.slice ao out.length cap)).set (.int .i64 0)).kept (grownBy_putObj' _ W0.heap.size (.deferred none)) (by simp;omega))
  have hr2:=prow_kept (prow_kept (prow_kept hrow (grownBy_setCell' W g (.slice ao out.length cap)) (by omega)) (grownBy_setCell' _ (g+1) (.int .i64 0)) (by omega)) (grownBy_putObj' _ W0.heap.size (.deferred none)) (by omega)
  have hB2:=(((hB.setCell (p:=⟨g,0,none⟩) (Nat.le_refl _) (.slice ao out.length cap)).setCell (p:=⟨g+1,0,none⟩) (by simp) (.int .i64 0)).grown (grownBy_putObj' _ W0.heap.size (.deferred none)) (by have:=bE2.lt;simp at this ⊢;omega) (fun k e=>by cases e;omega))
  have cA2:=bA2.cell
  have cE2:=bE2.cell
  have HR2:=Lh hr2
  have HB2:=Lh hB2
  clear hr2 hB2 hpa hall hrow hB
  gi_wp2
  refine ⟨by simp,.inl ⟨_,_,rfl,run_takeDeferred hK1,?_⟩⟩
  exact ⟨.tuple #[.slice ao out.length cap,.int .i64 0],by simp [results,Tryz.results58,go_sem,cA2,cE2],⟨_,rfl,HR2.out.posT⟩,by rw [hg];exact HB2.out⟩
 case stop =>
  rintro pre W hpre ⟨e1,hpa,he,bA,bE,hB⟩ hK
  have hall:=(prtA_err hpre hpa he).symm.trans HP.out
  obtain ⟨rfl,rfl⟩:=Prod.mk.inj hall
  have bA2:=bA.kept (grownBy_putObj' _ W0.heap.size (.deferred none)) (by simp;omega)
  have bE2:=bE.kept (grownBy_putObj' _ W0.heap.size (.deferred none)) (by simp;omega)
  have hB2:=hB.grown (grownBy_putObj' _ W0.heap.size (.deferred none)) (Nat.le_of_lt bA.lt) (fun k e=>by cases e;omega)
  have cA2:=bA2.cell
  have cE2:=bE2.cell
  have HB2:=Lh hB2
  clear hB2 hpa hall hB he
  gi_wp2
  refine ⟨by simp,.inl ⟨_,_,rfl,run_takeDeferred hK,?_⟩⟩
  exact ⟨.tuple #[.slice none 0 0,.int .i64 e1],by simp [results,Tryz.results58,go_sem,cA2,cE2],⟨_,rfl,PosT.nil _⟩,by rw [hg];exact HB2.out⟩
set_option maxHeartbeats 2000000 in
theorem portsT_of (S:ByteArray)(l:List Pt)(e0:Int)(w:World)(hM:Hid (Mx w))(hs:S.size≤1000)(h:Hid (portsL S.data.toList=(l,e0))) :
    Calls Tryz.prog 58 #[.string S] w fun e w'=>∃ v,e=.returned (.tuple #[v,.int .i64 e0])∧PosT w' v l∧Below w.heap.size w w':=by
 by_cases hne:S.data.toList=[]
 ·have hp:=h.out
  unfold portsL at hp
  rw [if_pos hne] at hp
  obtain ⟨rfl,rfl⟩:=Prod.mk.inj hp
  have bS:=str_yes hne
  have b0:=al2 w (.cells #[.slice none 0 0] 43) (.cells #[.int .i64 0] 32)
  clear hp h hne hM hs
  go_enter Tryz.func58,Tryz.ntmps58
  go_wp2
  exact bodyPost_ret (v:=.tuple #[.slice none 0 0,.int .i64 0]) (by simp [results,Tryz.results58,go_sem]) rfl ⟨_,rfl,PosT.nil _,b0⟩
 ·exact (ports_loop S l e0 w hM hs hne h).mono fun _ _ ⟨⟨v,h1,h2⟩,h3⟩=>⟨v,h1,h2,h3⟩
theorem ports_of (S:ByteArray)(l:List Pt)(e0:Int)(w:World)(hM:Hid (Mx w))(hs:S.size≤1000)(h:Hid (portsL S.data.toList=(l,e0))) :
    Calls Tryz.prog 58 #[.string S] w fun e w'=>∃ v,e=.returned (.tuple #[v,.int .i64 e0])∧Pos w' v l∧Below w.heap.size w w' :=
 (portsT_of S l e0 w hM hs h).mono fun _ _ ⟨v,h1,h2,h3⟩=>⟨v,h1,h2.pos,h3⟩
theorem wd_pl {c:UInt8}(h:isWd c=true):isPl c=true:=by
 unfold isWd isLet isDgt at h
 unfold isPl
 simp only [Bool.or_eq_true,decide_eq_true_eq] at *
 omega
theorem tw_mem (p:UInt8→Bool):∀ (t:List UInt8) (x:UInt8),x∈t.takeWhile p→p x=true
 | [],_,h=>(nomatch h)
 | c :: t,x,h=>by
  rw [List.takeWhile_cons] at h
  cases hc:p c with
  | true =>
   rw [hc] at h
   rcases List.mem_cons.1 h with rfl | h
   ·exact hc
   ·exact tw_mem p t x h
  | false=>rw [hc] at h;exact nomatch h
theorem nm_pl {n:List UInt8}(h:isNm n=true):n.all isPl=true:=by
 unfold isNm at h
 simp only [Bool.and_eq_true,decide_eq_true_eq] at h
 obtain ⟨⟨⟨_,hw⟩,_⟩,_⟩:=h
 cases n with
 | nil=>rfl
 | cons c t =>
  have hw':(if isLet c then (t.takeWhile isWd).length+1 else 0)=t.length+1:=hw
  by_cases hc:isLet c=true
  ·rw [if_pos hc] at hw'
   have ht:t.takeWhile isWd=t:=(List.takeWhile_prefix _).eq_of_length (by omega)
   rw [List.all_cons,Bool.and_eq_true]
   refine ⟨wd_pl (show (isLet c || isDgt c)=true by rw [hc];rfl),?_⟩
   rw [List.all_eq_true]
   intro x hx
   rw [← ht] at hx
   exact wd_pl (tw_mem isWd t x hx)
  ·rw [if_neg hc] at hw';omega
theorem side_pl {r:List UInt8}(h:¬ sideL r < 0):r.all isPl=true:=by
 unfold sideL sides at h
 simp only [idxA] at h
 split at h
 ·rename_i e;rw [← e];decide
 ·split at h
  ·rename_i e;rw [← e];decide
  ·split at h
   ·rename_i e;rw [← e];decide
   ·split at h
    ·rename_i e;rw [← e];decide
    ·exact absurd (by decide) h
theorem part_pl {s:List UInt8}(h:(partL s).1=0):s.all isPl=true:=by
 unfold partL gapL at h
 by_cases hg:(s.takeWhile (·≠32)).length < s.length
 ·rw [if_pos hg] at h
  simp only at h
  by_cases hsd:sideL (s.drop ((s.takeWhile (·≠32)).length+1)) < 0
  ·rw [if_pos hsd] at h;simp at h
  ·rw [if_neg hsd] at h
   by_cases hn:isNm (s.takeWhile (·≠32))=false
   ·rw [if_pos hn] at h;simp at h
   ·have hg':gapN s < s.length:=hg
    have h1:(s.takeWhile (·≠32)).all isPl=true:=nm_pl (by
     cases hq:isNm (s.takeWhile (·≠32)) with
     | true=>rfl
     | false=>exact absurd hq hn)
    have h2:(s.drop (gapN s+1)).all isPl=true:=side_pl hsd
    have hk:=(gap_at s (gapN s) hg').2
    have h32:s[gapN s]'hg'=32:=Decidable.byContradiction fun e=>hk e rfl
    have e1:s=s.take (gapN s) ++ s[gapN s]'hg' :: s.drop (gapN s+1):=by
     rw [← List.drop_eq_getElem_cons hg',List.take_append_drop]
    have e2:s.all isPl=((s.take (gapN s)).all isPl && (isPl (s[gapN s]'hg') && (s.drop (gapN s+1)).all isPl)):=by
     rw [← List.all_cons,← List.all_append,← e1]
    rw [e2,h32,h2,gap_take,h1]
    decide
 ·rw [if_neg hg] at h;simp at h
theorem parts_ok:∀ (L:List (List UInt8)) (o:List Pt),(partsL L o).2=0→∀ s∈L,(partL s).1=0
 | [],_,_,_,h=>(nomatch h)
 | p :: t,o,h,s,hs=>by
  rw [parts_cons] at h
  by_cases h1:(partL p).1≠0
  ·rw [if_pos h1] at h;exact absurd h h1
  ·rw [if_neg h1] at h
   have h1':=Decidable.not_not.1 h1
   split at h
   ·simp at h
   ·split at h
    ·simp at h
    ·rcases List.mem_cons.1 hs with rfl | hs
     ·exact h1'
     ·exact parts_ok t _ h s hs
theorem split_pl:∀ (s c:List UInt8),(∀ p∈splitA c s,p.all isPl=true)→c.all isPl=true∧s.all isPl=true
 | [],c,h=>⟨h c (by unfold splitA;simp),rfl⟩
 | [x],c,h=>by
  have:=h (c ++ [x]) (by unfold splitA;simp)
  rw [List.all_append,Bool.and_eq_true] at this
  exact this
 | x :: y :: t,c,h=>by
  unfold splitA at h
  by_cases hs:x=44∧y=32
  ·rw [if_pos hs] at h
   obtain ⟨rfl,rfl⟩:=hs
   have h1:=h c (by simp)
   have h2:=(split_pl t [] (fun p hp=>h p (by simp [hp]))).2
   refine ⟨h1,?_⟩
   rw [List.all_cons,List.all_cons,h2];decide
  ·rw [if_neg hs] at h
   have h1:=split_pl (y :: t) (c ++ [x]) h
   rw [List.all_append,Bool.and_eq_true] at h1
   refine ⟨h1.1.1,?_⟩
   rw [List.all_cons,h1.2]
   simpa using h1.1.2
termination_by s=>s.length
theorem ports_pl {s:List UInt8}(h:(portsL s).2=0):s.all isPl=true:=by
 unfold portsL at h
 by_cases hs:s=[]
 ·rw [hs];rfl
 ·rw [if_neg hs] at h
  exact (split_pl s [] (fun p hp=>part_pl (parts_ok _ _ h p hp))).2
def accC (x:Ru)(s:List UInt8):Bool :=
 if x.form=1 then textL s else if x.form=4 then textL s && decide ((portsL s).2=0) else if x.form=5 then decide (0≤modeL s) else (numC (ruU x) x.low x.high s).2
theorem acc_ok (k:Int)(c s:List UInt8)(h0:(knownL k c).form≠0)(h1:¬ ((knownL k c).form=1∧32 < s.length)):accC (knownL k c) s=okV (knownL k c) s:=by
 unfold accC okV
 by_cases a1:(knownL k c).form=1
 ·rw [if_pos a1,if_pos a1]
  unfold textL
  rw [decide_eq_true (show s.length≤32 by by_cases hl:32 < s.length;exact absurd ⟨a1,hl⟩ h1;omega)];rfl
 rw [if_neg a1,if_neg a1]
 by_cases a4:(knownL k c).form=4
 ·rw [if_pos a4,if_neg (show ¬ ((knownL k c).form=2∨(knownL k c).form=3) by omega),if_pos a4]
  unfold textL
  by_cases hp:(portsL s).2=0
  ·rw [ports_pl hp,decide_eq_true hp];simp
  ·rw [decide_eq_false hp];simp
 rw [if_neg a4]
 by_cases a5:(knownL k c).form=5
 ·rw [if_pos a5,if_neg (show ¬ ((knownL k c).form=2∨(knownL k c).form=3) by omega),if_neg a4,if_pos a5]
 rw [if_neg a5,numC_val]
 by_cases a2:(knownL k c).form=2∨(knownL k c).form=3
 ·rw [if_neg (show ¬ ((knownL k c).form≠2∧(knownL k c).form≠3) by omega),if_pos a2]
 ·exfalso
  have hw:=known_ways k c
  simp only at hw
  omega
theorem lab_form (k:Int)(c:List UInt8)(h:(knownL k c).form≠0):(knownL k c).form=1 ↔ c=wLabel:=by
 revert h
 unfold knownL
 split
 ·unfold ruN
  by_cases a:c=wLabel
  ·rw [if_pos a];simp [a]
  ·rw [if_neg a]
   repeat' split
   all_goals simp [a]
 ·split
  ·unfold ruE
   by_cases a:c=wLabel
   ·rw [if_pos a];simp [a]
   ·rw [if_neg a]
    repeat' split
    all_goals simp [a]
  ·split
   ·by_cases a:c=wLabel
    ·rw [a];intro h;exact absurd (by decide) h
    ·unfold ruS
     repeat' split
     all_goals simp [a]
   ·intro h;exact absurd rfl h
set_option maxHeartbeats 2000000 in
theorem isports_of (s:ByteArray)(b:Bool)(w:World)(hM:Hid (Mx w))(hs:s.size≤1000)(h:Hid ((textL s.data.toList && decide ((portsL s.data.toList).2=0))=b)) :
    Calls Tryz.prog 119 #[.string s] w fun e w'=>e=.returned (.bool b)∧Below w.heap.size w w':=by
 obtain ⟨l,e0,hp⟩:∃ l e0,portsL s.data.toList=(l,e0):=⟨_,_,rfl⟩
 obtain ⟨t,ht⟩:∃ t,textL s.data.toList=t:=⟨_,rfl⟩
 have hb:=h.out
 rw [hp,ht] at hb
 have HP:=Lh hp
 have HT:=Lh ht
 have HB:Hid ((t && decide (e0=0))=b):=Lh hb
 have hsm:s.size≤maxLen:=by unfold maxLen;omega
 clear hp ht hb h
 go_enter Tryz.func119,Tryz.ntmps119
 go_wp2_with fail
 refine (ports_of s l e0 w hM hs HP).mono ?_
 rintro e w1 ⟨v,rfl,-,hb1⟩
 have HB1:=Lh hb1
 clear hb1
 go_wp2_with fail
 refine (istext_of s t w1 hsm HT).mono ?_
 rintro e w2 ⟨rfl,hb2⟩
 have HB2:=Lh (below_keep hb2 HB1.out)
 clear hb2
 cases t
 ·go_wp2
  go_ret
  exact ⟨ret_bool (by rw [← HB.out];rfl),HB2.out⟩
 ·go_wp2
  go_ret
  exact ⟨ret_bool (by rw [← HB.out];first | rfl | (rw [Bool.eq_iff_iff];simp)),HB2.out⟩
set_option maxRecDepth 100000 in
set_option maxHeartbeats 4000000 in
theorem acc_of (x:Ru)(s:ByteArray)(b:Bool)(w:World)(hM:Hid (Mx w))(hs:s.size≤1000)(h:Hid (accC x s.data.toList=b)) :
    Calls Tryz.prog 75 #[(ruC x).1,.string s] w fun e w'=>e=.returned (.bool b)∧Below w.heap.size w w':=by
 have hb:=h.out
 have hsm:s.size≤maxLen:=by unfold maxLen;omega
 have hu:=ruU_of x
 unfold accC at hb
 show Calls Tryz.prog 75 #[.agg #[.int .i64 (ruU x),.int .i64 x.low,.int .i64 x.high,.int .i64 x.normal,ruF x],.string s] w _
 unfold ruF
 generalize ruU x=u at hb hu ⊢
 obtain ⟨fo,lo,hi,us⟩:=x
 simp only at hb ⊢
 by_cases a1:fo=1
 ·rw [if_pos a1] at hb ⊢
  have HB:=Lh hb
  clear hb h a1 hu
  unfold fTx
  have hal:=al1 w (.cells #[.int .i64 u,.int .i64 lo,.int .i64 hi,.int .i64 us,.func (.func 118) #[] #[]] 133)
  have hne:∀ W:World,Sem.run Tryz.prog (binOp BinOp.neq 92 (Value.func (Fn.func 118) #[] #[]) Value.nilFunc) W=.ok (.bool true) W:=fun W=>by kernel_rfl
  go_enter Tryz.func75,Tryz.ntmps75
  go_wp2_with fail
  refine (istext_of s b _ hsm HB).mono ?_
  rintro e w2 ⟨rfl,hb2⟩
  have HB2:=Lh (below_keep hb2 hal)
  clear hb2 hal
  go_wp2
  go_ret
  exact ⟨rfl,HB2.out⟩
 rw [if_neg a1] at hb ⊢
 by_cases a4:fo=4
 ·rw [if_pos a4] at hb ⊢
  have HB:=Lh hb
  clear hb h a1 a4 hu
  unfold fPo
  have hal:=al1 w (.cells #[.int .i64 u,.int .i64 lo,.int .i64 hi,.int .i64 us,.func (.func 119) #[] #[]] 133)
  have hM1:=mxh hM hal
  have hne:∀ W:World,Sem.run Tryz.prog (binOp BinOp.neq 92 (Value.func (Fn.func 119) #[] #[]) Value.nilFunc) W=.ok (.bool true) W:=fun W=>by kernel_rfl
  go_enter Tryz.func75,Tryz.ntmps75
  go_wp2_with fail
  refine (isports_of s b _ hM1 hs HB).mono ?_
  rintro e w2 ⟨rfl,hb2⟩
  have HB2:=Lh (below_keep hb2 hal)
  clear hb2 hal hM1
  go_wp2
  go_ret
  exact ⟨rfl,HB2.out⟩
 rw [if_neg a4] at hb ⊢
 by_cases a5:fo=5
 ·rw [if_pos a5] at hb ⊢
  have HB:=Lh hb
  clear hb h a1 a4 a5 hu
  unfold fMo
  have hal:=Lh (al1 w (.cells #[.int .i64 u,.int .i64 lo,.int .i64 hi,.int .i64 us,.func (.func 120) #[] #[]] 133))
  have hne:∀ W:World,Sem.run Tryz.prog (binOp BinOp.neq 92 (Value.func (Fn.func 120) #[] #[]) Value.nilFunc) W=.ok (.bool true) W:=fun W=>by kernel_rfl
  go_enter Tryz.func75,Tryz.ntmps75
  go_wp2_with fail
  refine (ismode_of s b _ HB).mono ?_
  rintro e w2 ⟨rfl,rfl⟩
  go_wp2
  go_ret
  exact ⟨rfl,hal.out⟩
 rw [if_neg a5] at hb ⊢
 obtain ⟨m,ok,hm⟩:∃ m ok,numC u lo hi s.data.toList=(m,ok):=⟨_,_,rfl⟩
 rw [hm] at hb
 obtain rfl:ok=b:=hb
 have HM:=Lh hm
 have HU:=Lh hu
 clear h a1 a4 a5 hm hu
 have hal:=al1 w (.cells #[.int .i64 u,.int .i64 lo,.int .i64 hi,.int .i64 us,.nilFunc] 133)
 have hne:∀ W:World,Sem.run Tryz.prog (binOp BinOp.neq 92 Value.nilFunc Value.nilFunc) W=.ok (.bool false) W:=fun W=>by kernel_rfl
 go_enter Tryz.func75,Tryz.ntmps75
 go_wp2_with fail
 refine (number_of u lo hi us _ s m ok _ hsm HU.out HM).mono ?_
 rintro e w2 ⟨rfl,hb2⟩
 have HB2:=Lh (below_keep hb2 hal)
 clear hb2 hal
 go_wp2
 go_ret
 exact ⟨rfl,HB2.out⟩
set_option maxRecDepth 100000 in
theorem check_no (k:Int)(a1 a2:List UInt8)(w:World)(hg:goodK k=false) :
    Calls Tryz.prog 33 #[.int .i64 k,.agg #[.string (bb a1),.string (bb a2)]] w fun e w'=>e=.returned (.int .i64 1)∧Below w.heap.size w w':=by
 have hal:=al1 w (.cells #[.string (bb a1),.string (bb a2)] 82)
 have hne:∀ W:World,Sem.run Tryz.prog (binOp BinOp.eql 130 (Value.map none) (Value.map none)) W=.ok (.bool true) W:=fun W=>by kernel_rfl
 go_enter Tryz.func33,Tryz.ntmps33
 go_wp2_with fail
 refine (rules_no k _ hg).mono ?_
 rintro e w1 ⟨rfl,hb1⟩
 have HB1:=Lh (below_keep hb1 hal)
 clear hb1 hal
 go_wp2
 go_ret
 exact ⟨rfl,HB1.out⟩
set_option maxRecDepth 100000 in
set_option maxHeartbeats 16000000 in
theorem check_yes (k:Int)(a1 a2:List UInt8)(e0:Int)(w:World)(hM:Hid (Mx w))(h1:a1.length≤1000)(h2:a2.length≤1000)(hg:goodK k=true)(h:Hid (checkL k (a1,a2)=e0)) :
    Calls Tryz.prog 33 #[.int .i64 k,.agg #[.string (bb a1),.string (bb a2)]] w fun e w'=>e=.returned (.int .i64 e0)∧Below w.heap.size w w':=by
 have hf:=ruF_of (knownL k a1)
 have h1m:(bb a1).size≤maxLen:=by rw [bb_len];unfold maxLen;omega
 have HRUN:Hid (∀ W b,RuM W b k→(Instr.lookup 130 (.map (some b)) (.string (bb a1)) true).run Tryz.prog W=.ok (.tuple #[(ruC (knownL k a1)).1,.bool (ruC (knownL k a1)).2]) W):=Lh (fun W b hr=>by
  have:=hr.lookOk (bb a1) h1m
  rw [rv_known] at this
  exact this)
 obtain ⟨ab,hab⟩:∃ b,accC (knownL k a1) a2=b:=⟨_,rfl⟩
 have HACC:Hid (∀ W,Mx W→Calls Tryz.prog 75 #[(ruC (knownL k a1)).1,.string (bb a2)] W fun e w'=>e=.returned (.bool ab)∧Below W.heap.size W w'):=Lh (fun W hw=>acc_of (knownL k a1) (bb a2) ab W (Lh hw) (by rw [bb_len];omega) (Lh hab))
 have HE:Hid (e0=if decide ((knownL k a1).form≠0)=false then 5 else if decide (a1=wLabel)=true∧decide (32 < a2.length)=true then 2 else if ab=true then 0 else 7):=by
  refine Lh ?_
  rw [← h.out]
  unfold checkL
  rw [if_neg (by rw [hg];decide)]
  simp only
  by_cases f0:(knownL k a1).form=0
  ·rw [if_pos f0,if_pos (by simp [f0])]
  ·rw [if_neg f0,if_neg (show ¬ decide ((knownL k a1).form≠0)=false by simp [f0])]
   have hl:=lab_form k a1 f0
   by_cases hc:(knownL k a1).form=1∧32 < a2.length
   ·rw [if_pos hc,if_pos ⟨by rw [decide_eq_true_eq];exact hl.1 hc.1,by rw [decide_eq_true_eq];exact hc.2⟩]
   ·rw [if_neg hc,if_neg (show ¬ (decide (a1=wLabel)=true∧decide (32 < a2.length)=true) by rw [decide_eq_true_eq,decide_eq_true_eq];exact fun e=>hc ⟨hl.2 e.1,e.2⟩),← hab,acc_ok k a1 a2 f0 hc]
 obtain ⟨lb,hlb⟩:∃ b,decide (a1=wLabel)=b:=⟨_,rfl⟩
 obtain ⟨lg,hlg⟩:∃ b,decide (32 < a2.length)=b:=⟨_,rfl⟩
 have bl:(a1 == [108,97,98,101,108])=lb:=by rw [← hlb,Bool.eq_iff_iff,beq_iff_eq,decide_eq_true_eq];rfl
 have bs:decide ((32:Int) < ((bb a2).size:Int))=lg:=by
  rw [← hlg,Bool.eq_iff_iff,bb_len,decide_eq_true_eq,decide_eq_true_eq];omega
 have bs2:decide ((32:Int) < (a2.length:Int))=lg:=by
  rw [← hlg,Bool.eq_iff_iff,decide_eq_true_eq,decide_eq_true_eq];omega
 rw [hlb,hlg] at HE
 unfold ruC RV at HRUN HACC
 generalize knownL k a1=x at hf HRUN HACC HE
 obtain ⟨u,hU⟩:∃ u,ruU x=u:=⟨_,rfl⟩
 obtain ⟨f,hF⟩:∃ f,ruF x=f:=⟨_,rfl⟩
 rw [hU] at HRUN HACC
 rw [hF] at hf HRUN HACC
 obtain ⟨f0,lo,hi,us⟩:=x
 simp only at HRUN HACC HE
 obtain ⟨kn,hkn⟩:∃ b,decide (f0≠0)=b:=⟨_,rfl⟩
 rw [hkn] at HRUN HE
 simp only [fTx,fPo,fMo] at hf
 have hal:=al1 w (.cells #[.string (bb a1),.string (bb a2)] 82)
 have hM1:=mxh hM hal
 have o2:=own2_new w (.string (bb a1)) (.string (bb a2)) 82
 clear hab hU hF h h1 h2 h1m hlb hlg hkn hM
 generalize hw0:w.alloc (.cells #[.string (bb a1),.string (bb a2)] 82)=w0 at hal hM1 o2
 have hne:∀ (W:World) (b:Nat),Sem.run Tryz.prog (binOp BinOp.eql 130 (Value.map (some b)) (Value.map none)) W=.ok (.bool false) W:=fun W b=>by kernel_rfl
 rcases hf with rfl | rfl | rfl | rfl
 all_goals
  go_enter Tryz.func33,Tryz.ntmps33
  go_wp2_with fail
  refine (rules_yes k w0 hg).mono ?_
  rintro e w1 ⟨⟨b,rfl,hrv⟩,hb1⟩
  have hrun:=HRUN.out w1 b hrv
  have hM2:=mxh hM1 hb1
  obtain ⟨c0,c1,_,_⟩:=o2.keep hb1
  have HB1:=Lh (below_keep hb1 hal)
  have hz1:w.heap.size < w1.heap.size:=by
   have h1:=hb1.size
   have h2:w0.heap.size=w.heap.size+1:=by rw [← hw0];simp
   omega
  clear hrv hb1 hw0 hal hM1 o2
  cases kn
  ·go_wp2
   go_ret
   exact ⟨ret_int (by rw [HE.out];rfl),below_keep (al1 ..) HB1.out⟩
  ·cases lb
   case false =>
    go_wp2_with fail
    refine (HACC.out _ (hM2.out.keep (al1 ..))).mono ?_
    rintro e w3 ⟨rfl,hb3⟩
    have HB3:=Lh (below_keep hb3 (below_keep (al1 ..) HB1.out))
    clear hb3
    cases ab
    ·go_wp2
     go_ret
     exact ⟨ret_int (by rw [HE.out];rfl),HB3.out⟩
    ·go_wp2
     go_ret
     exact ⟨ret_int (by rw [HE.out];rfl),HB3.out⟩
   case true =>
    cases lg
    case true =>
     go_wp2
     go_ret
     exact ⟨ret_int (by rw [HE.out];rfl),below_keep (al1 ..) HB1.out⟩
    case false =>
     go_wp2_with fail
     refine (HACC.out _ (hM2.out.keep (al1 ..))).mono ?_
     rintro e w3 ⟨rfl,hb3⟩
     have HB3:=Lh (below_keep hb3 (below_keep (al1 ..) HB1.out))
     clear hb3
     cases ab
     ·go_wp2
      go_ret
      exact ⟨ret_int (by rw [HE.out];rfl),HB3.out⟩
     ·go_wp2
      go_ret
      exact ⟨ret_int (by rw [HE.out];rfl),HB3.out⟩
theorem check10_of (k:Int)(a:Pr)(e0:Int)(w:World)(hM:Hid (Mx w))(h1:a.1.length≤1000)(h2:a.2.length≤1000)(h:Hid (checkL k a=e0)) :
    Calls Tryz.prog 33 #[.int .i64 k,.agg #[.string (bb a.1),.string (bb a.2)]] w fun e w'=>e=.returned (.int .i64 e0)∧Below w.heap.size w w':=by
 cases hg:goodK k with
 | true=>exact check_yes k a.1 a.2 e0 w hM h1 h2 hg h
 | false =>
  have:=h.out
  unfold checkL at this
  rw [if_pos hg] at this
  subst this
  exact check_no k a.1 a.2 w hg
end Go.Proofs.YtcdoicgbjoikkaaGreatDoor.att
