/-
  What isText and port of the landed code answer. Condition: a text's length; for port, that the library's variable MaxLen holds a number.
  What Get of the landed code answers: the library's iterator over a list of attributes from its end, and the loop over it. Condition: a list's length.
-/
import Derived.Test.YtgmidodmmlmmeaaGreatDoorMcc
import Derived.Test.YtgmidodmmlmmeaaGreatDoorMxc
namespace Go.Proofs.YtgmidodmmlmmeaaGreatDoor.att
open Go.RowKit lex tre
theorem index_gap:∀ l:List UInt8,Lib.index l [32]=if gapN l < l.length then (gapN l:Int) else -1
 | []=>by rfl
 | b :: t=>by
  have ih:=index_gap t
  have hg:=gap_le t
  unfold Lib.index
  by_cases hb:b=32
  ·subst hb
   have e1:gapN (32 :: t)=0:=by unfold gapN;simp
   rw [e1,if_pos (by simp [List.isPrefixOf]),if_pos (by simp)];rfl
  ·have e1:gapN (b :: t)=gapN t+1:=by unfold gapN;simp [hb]
   have hp:([32]:List UInt8).isPrefixOf (b :: t)=false:=by
    simp only [List.isPrefixOf,Bool.and_true]
    rw [beq_eq_false_iff_ne];exact fun e=>hb e.symm
   rw [e1,hp,ih]
   simp only [Bool.false_eq_true,if_false]
   by_cases hl:gapN t < t.length
   ·rw [if_pos hl,if_neg (by first | (simp;done) | (simp;omega)),if_pos (by simp only [List.length_cons];omega)];omega
   ·rw [if_neg hl,if_pos (by simp),if_neg (by simp only [List.length_cons];omega)]
theorem gap_take (l:List UInt8):l.take (gapN l)=l.takeWhile (·≠32) :=
 (List.prefix_iff_eq_take.1 (List.takeWhile_prefix _)).symm
theorem cut_gap (l:List UInt8):Lib.cut l [32]=match gapL l with | none=>(l,[],false) | some (n,r)=>(n,r,true):=by
 unfold Lib.cut gapL
 rw [index_gap]
 show _=match (if gapN l < l.length then some (l.takeWhile (·≠32),l.drop (gapN l+1)) else none) with | none=>(l,[],false) | some (n,r)=>(n,r,true)
 by_cases h:gapN l < l.length
 ·rw [if_pos h,if_pos (by omega),if_pos h,← gap_take];rfl
 ·rw [if_neg h,if_neg (by omega),if_neg h]
def Own2 (W:World)(g:Nat)(v0 v1:Value):Prop:=W.cell? ⟨g,0,none⟩=some v0∧W.cell? ⟨g,1,none⟩=some v1∧W.frozen? ⟨g,0,none⟩=false∧W.frozen? ⟨g,1,none⟩=false
theorem own2_of {W:World}{g:Nat}{x y:Value}{t:TypeId}(h:W.heap[g]?=some (.cells #[x,y] t (0,0))):Own2 W g x y:=by
 refine ⟨?_,?_,?_,?_⟩ <;> simp [World.cell?,World.frozen?,h]
theorem own2_new (w:World)(x y:Value)(t:TypeId):Own2 (w.alloc (.cells #[x,y] t)) w.heap.size x y:=own2_of (heap_alloc_new w _)
theorem Own2.keep {w1 w2:World}{b:Nat}{x y:Value}(h:Own2 w1 b x y)(h2:Below w1.heap.size w1 w2):Own2 w2 b x y :=
 ⟨cell_keep h2 h.1,cell_keep h2 h.2.1,fr_keep h2 h.1 h.2.2.1,fr_keep h2 h.2.1 h.2.2.2⟩
theorem bb_len (l:List UInt8):(bb l).size=l.length:=by simp [ByteArray.size]
set_option maxRecDepth 100000 in
set_option maxHeartbeats 4000000 in
theorem port_of (s:ByteArray)(e0:Int)(n:List UInt8)(d:Int)(w:World)(hM:Hid (Mx w))(hs:s.size≤1000)(h:Hid (partL s.data.toList=(e0,n,d))) :
    Calls Tryz.prog 159 #[.string s] w fun e w'=>e=.returned (.tuple #[.agg #[.string (bb n),.int .i64 d],.int .i64 e0])∧Below w.heap.size w w':=by
 have hcut:=cut_gap s.data.toList
 obtain ⟨x,r,f,hx⟩:∃ x r f,Lib.cut s.data.toList [32]=(x,r,f):=⟨_,_,_,rfl⟩
 have hxl:x.length≤1000:=by
  have hz:s.data.toList.length=s.size:=by simp
  have:=congrArg (fun t=>t.1) hx
  unfold Lib.cut at this
  split at this
  ·simp only at this;rw [← this,List.length_take];omega
  ·simp only at this;rw [← this];omega
 obtain ⟨d1,b1,hsd⟩:∃ d1 b1,sideC r=(d1,b1):=⟨_,_,rfl⟩
 obtain ⟨nm,hnm⟩:∃ b,isNm x=b:=⟨_,rfl⟩
 have hpart:partL s.data.toList=if b1=false then (4,[],0) else if nm=false then (5,[],0) else (0,x,d1):=by
  unfold partL
  rw [hx] at hcut
  cases hg:gapL s.data.toList with
  | none =>
   rw [hg] at hcut
   simp only [Prod.mk.injEq] at hcut
   obtain ⟨rfl,rfl,rfl⟩:=hcut
   have:sideC ([]:List UInt8)=(0,false):=by decide
   rw [this] at hsd
   cases hsd
   rfl
  | some g =>
   obtain ⟨g1,g2⟩:=g
   rw [hg] at hcut
   simp only [Prod.mk.injEq] at hcut
   obtain ⟨rfl,rfl,rfl⟩:=hcut
   unfold sideC at hsd
   simp only
   by_cases hs0:sideL r < 0
   ·rw [if_pos hs0] at hsd ⊢
    cases hsd;rfl
   ·rw [if_neg hs0] at hsd ⊢
    cases hsd
    rw [hnm]
    cases nm <;> rfl
 rw [hpart] at h
 have HX:=Lh hx
 have HSD:Hid (sideC (bb r).data.toList=(d1,b1)):=Lh hsd
 have HNM:Hid (isNm (bb x).data.toList=nm):=Lh hnm
 have hxm:(bb x).size≤maxLen:=by rw [bb_len];unfold maxLen;omega
 have H:=h
 clear hcut hx hsd hnm hpart h
 have CC:Hid (∀ W:World,Mx W→Calls Tryz.prog 217 #[.string s,.string ⟨#[32]⟩] W fun e w'=>e=.returned (.tuple #[.string (bb x),.string (bb r),.bool f])∧∃ n,w'=W.drewN n):=Lh (fun W ⟨m,hm⟩=>by
  have cc:=Tryz.strings_Cut s ⟨#[32]⟩ m W (by omega) hm
  rw [show (ByteArray.mk #[32]).data.toList=[32] from rfl,HX.out] at cc
  exact cc)
 have B0:=al1 w (.cells #[.string ⟨#[]⟩,.int .i64 0] 192)
 have o2:=own2_new w (.string ⟨#[]⟩) (.int .i64 0) 192
 have hM0:=hM.out.keep B0
 obtain ⟨g,hg⟩:∃ g,w.heap.size=g:=⟨_,rfl⟩
 rw [hg] at o2
 have HG:=Lh hg
 have gg:w.heap.size≤g:=by omega
 clear hg
 go_enter Tryz.func159,Tryz.ntmps159
 go_wp2_with fail
 rw [HG.out]
 generalize w.alloc (.cells #[.string ⟨#[]⟩,.int .i64 0] 192)=w1 at B0 o2 hM0 ⊢
 refine (CC.out _ hM0).mono ?_
 rintro e w2 ⟨rfl,nq,rfl⟩
 have B2:=below_keep (drew_n w1 nq) B0
 have p2:=o2.keep (drew_n w1 nq)
 generalize w1.drewN nq=w2 at B2 p2 ⊢
 clear B0 o2 hM0
 cases b1
 ·obtain ⟨rfl,rfl,rfl⟩:e0=4∧n=[]∧d=0:=by have:=H.out;simpa [eq_comm] using this
  clear H
  go_wp2_with fail
  refine (side_of _ d1 false w2 HSD).mono ?_
  rintro e w' ⟨rfl,rfl⟩
  obtain ⟨c0,c1,f0,f1⟩:=p2
  go_wp2
  exact bodyPost_ret (v:=.tuple #[.agg #[.string ⟨#[]⟩,.int .i64 0],.int .i64 4]) (by simp [results,Tryz.results159,go_sem,c0,c1]) rfl ⟨rfl,set2 B2 gg⟩
 go_wp2_with fail
 refine (side_of _ d1 true w2 HSD).mono ?_
 rintro e w' ⟨rfl,rfl⟩
 go_wp2_with fail
 refine (isname_of _ nm w2 hxm HNM).mono ?_
 rintro e w3 ⟨rfl,hb3⟩
 have B3:=below_keep hb3 B2
 have p3:=p2.keep hb3
 clear hb3 B2 p2
 obtain ⟨c0,c1,f0,f1⟩:=p3
 cases nm
 ·obtain ⟨rfl,rfl,rfl⟩:e0=5∧n=[]∧d=0:=by have:=H.out;simpa [eq_comm] using this
  clear H
  go_wp2
  exact bodyPost_ret (v:=.tuple #[.agg #[.string ⟨#[]⟩,.int .i64 0],.int .i64 5]) (by simp [results,Tryz.results159,go_sem,c0,c1]) rfl ⟨rfl,set2 B3 gg⟩
 ·obtain ⟨rfl,rfl,rfl⟩:0=e0∧x=n∧d1=d:=by have:=H.out;simpa using this
  clear H
  go_wp2
  exact bodyPost_ret (v:=.tuple #[.agg #[.string (bb x),.int .i64 d1],.int .i64 0]) (by simp [results,Tryz.results159,go_sem,c0,c1]) rfl ⟨rfl,set2 B3 gg⟩
attribute [local go_sem] Oper.semAt_some
def bkL (l:List Pr):List (Nat × Pr):=(List.range l.length).map fun j=>(l.length - 1 - j,l.getD (l.length - 1 - j) ([],[]))
theorem bk_len (l:List Pr):(bkL l).length=l.length:=by simp [bkL]
theorem bk_at (l:List Pr)(j:Nat)(h:j < l.length):(bkL l)[j]'(by rw [bk_len];exact h)=(l.length - 1 - j,l[l.length - 1 - j]'(by omega)):=by
 simp only [bkL,List.getElem_map,List.getElem_range,Prod.mk.injEq,true_and]
 rw [List.getD_eq_getElem?_getD,List.getElem?_eq_getElem (by omega)];rfl
theorem bk_next {l:List Pr}{pre:List (Nat × Pr)}{x:Nat × Pr}(h:pre ++ [x] <+: bkL l):∃ hp:pre.length < l.length,x=(l.length - 1 - pre.length,l[l.length - 1 - pre.length]'(by omega)):=by
 obtain ⟨t,ht⟩:=h
 have hl:=congrArg List.length ht
 rw [bk_len] at hl
 simp at hl
 have hp:pre.length < l.length:=by omega
 refine ⟨hp,?_⟩
 rw [← bk_at l pre.length hp]
 simp only [← ht]
 simp
theorem bk_take (l:List Pr)(j:Nat)(h:j < l.length):(bkL l).take (j+1)=(bkL l).take j ++ [(l.length - 1 - j,l[l.length - 1 - j]'(by omega))]:=by
 rw [List.take_succ_eq_append_getElem (by rw [bk_len];exact h),bk_at l j h]
theorem bk_step (l:List Pr)(i:Nat)(h:i < l.length):(bkL l).take (l.length - i)=(bkL l).take (l.length - (i+1)) ++ [(i,l[i])]:=by
 have h1:=bk_take l (l.length - (i+1)) (by omega)
 have e1:l.length - 1 - (l.length - (i+1))=i:=by omega
 have e2:l.length - (i+1)+1=l.length - i:=by omega
 rw [e2] at h1
 simp only [e1] at h1
 exact h1
def bkV (x:Nat × Pr):Array Value:=#[.int .i64 x.1,.agg #[.string (bb x.2.1),.string (bb x.2.2)]]
set_option maxRecDepth 100000 in
set_option maxHeartbeats 4000000 in
theorem bk1_in (n l c m:Nat)(v:Value)(L:List Pr)(hL:L.length≤1000)(J Jx:List (Nat × Pr)→World→Prop)
    (hY:∀ k pre x X,J pre X→pre ++ [x] <+: bkL L→YieldAt Fence.wide k Tryz.prog l (bkV x) X fun e Y =>
     (e=.returned (.bool true)∧J (pre ++ [x]) Y∧KpC m c X Y)∨(e=.returned (.bool false)∧Jx (pre ++ [x]) Y))
    (W:World) (hP:∀ Y,Below m W Y→Prs Y v L) (hB:Boxed W (c+2) 65 v) (h0:J [] W) :
    CallsIn Fence.wide n Tryz.prog 165 #[.func (.yield l) #[] #[],.pointer (some ⟨c+2,0,none⟩)] W fun e W'=>(∃ v,e=.returned v) ∧
     (J (bkL L) W'∨∃ pre,pre <+: bkL L∧Jx pre W'):=by
 obtain ⟨ao,cap,rfl,_,_,_⟩:=id (hP W (Below.refl _ _))
 have c0:=hB.cell
 refine callsIn_of_wp Tryz.func165 rfl trivial ?_ rfl
 simp only [Tryz.ntmps165,List.size_toArray,List.length_cons,List.length_nil,Nat.reduceAdd,Nat.reduceSub,Array.replicate_succ,Array.replicate_zero,List.push_toArray,List.append_toArray,List.nil_append,List.cons_append]
 gi_wp2
 clear c0
 gi_loopw [3] (fun iv wr=>∃ k:Nat,iv=.int .i64 ((k:Int) - 1)∧k≤L.length∧J ((bkL L).take (L.length - k)) wr∧Below m W wr∧Boxed wr (c+2) 65 (.slice ao L.length cap)) (fun iv _=>(intOf iv+1).toNat)
 case atStart=>exact ⟨L.length,by go_num,Nat.le_refl _,by rw [Nat.sub_self];exact h0,Below.refl _ _,hB⟩
 case round =>
  obtain ⟨k,rfl,hk,hJs,hbw,hbx⟩:=hrel
  rename World=>wr
  have cb:=hbx.cell
  cases k with
  | zero =>
   rw [Nat.sub_zero,← bk_len,List.take_length] at hJs
   have HJ:=Lh hJs
   clear hJs
   gi_wp2
   go_end0
   exact ⟨⟨_,rfl⟩,Or.inl HJ.out⟩
  | succ i =>
   have em:((i+1:Nat):Int) - 1=(i:Int):=by omega
   rw [em]
   have hlt:i < L.length:=by omega
   have hq:=hP wr hbw
   obtain ⟨A,rfl,q0,q1,-,-⟩:=hq.get hlt
   have hst:=bk_step L i hlt
   have hpre:(bkL L).take (L.length - (i+1)) ++ [(i,L[i])] <+: bkL L:=by rw [← hst];exact List.take_prefix _ _
   obtain ⟨fn,tmps,assign,body,hy,hR⟩:=hY (n - 1) _ (i,L[i]) wr hJs hpre
   have HST:=Lh hst
   have HPRE:=Lh hpre
   have i0:(0:Int)≤(i:Int):=by omega
   have i1:(i:Int) < (L.length:Int):=by omega
   dsimp only [bkV] at hy
   clear hst em hq hpre hJs
   gi_wp2
   refine ⟨fun h=>(by cases h),?_⟩
   refine hR.mono ?_
   rintro e W3 (⟨rfl,hJ3,hk3⟩ | ⟨rfl,hJx3⟩)
   ·have HJ3:=Lh hJ3
    have HB3:=Lh (hbw.trans hk3.1)
    have HX3:=Lh ((hk3.2 (c+2) (by omega) (by omega)).trans hbx)
    clear hJ3
    gi_wp2
    go_roundw
    case rel=>exact ⟨i,by go_num,by omega,by rw [HST.out];exact HJ3.out,HB3.out,HX3.out⟩
    case measure=>simp [intOf]
   ·gi_wp2
    refine bodyPost_ret (results_none rfl _ _ _) rfl ?_
    exact ⟨⟨_,rfl⟩,Or.inr ⟨_,HPRE.out,hJx3⟩⟩
theorem bk_seq (v:Value)(L:List Pr)(hL:L.length≤1000)(c m b:Nat)(w:World)(hm:m≤w.heap.size)(hP:∀ Y,Below m w Y→Prs Y v L)(hbc:b=c+2)(hB:Boxed w b 65 v) :
    SeqC Tryz.prog 165 #[.pointer (some ⟨b,0,none⟩)] bkV m c none (bkL L) w:=fun n l J Jx W hW _ hY h0=>by
 subst hbc
 exact bk1_in n l c m v L hL J Jx hY W (fun Y hY'=>hP Y ((hW.mono hm).trans hY')) ((hW.block _ hB.lt).trans hB) h0
set_option maxHeartbeats 1000000 in
theorem bkw_of (ao:Option Addr)(n cap:Nat)(w:World) :
    Calls Tryz.prog 98 #[.slice ao n cap] w fun e w'=>e=.returned (.func (.func 165) #[] #[.pointer (some ⟨w.heap.size,0,none⟩)])∧w'=w.alloc (.cells #[.slice ao n cap] 65):=by
 go_enter Tryz.func98,Tryz.ntmps98
 go_wp2
 go_ret
 exact ⟨rfl,rfl⟩
def GeI (w:World)(g:Nat)(s:ByteArray)(L:List Pr)(x:List UInt8)(r:Bool)(pre:List (Nat × Pr))(W:World):Prop :=
 getL (L.take (L.length - pre.length)) s.data.toList=(x,r)∧Boxed W g 9 (.string s)∧Boxed W (g+1) 9 (.string ⟨#[]⟩)∧Boxed W (g+1+1) 4 (.bool false)∧Below g w W
def GeX (w:World)(g:Nat)(x:List UInt8)(r:Bool)(W:World):Prop:=Boxed W (g+1) 9 (.string (bb x))∧Boxed W (g+1+1) 4 (.bool r)∧Below g w W
theorem GeI.step {w:World}{g:Nat}{s:ByteArray}{L:List Pr}{x:List UInt8}{r:Bool}{pre:List (Nat × Pr)}{X Y:World}{row:Option Nat}(h:GeI w g s L x r pre X)(hg:X.grownBy Y row)(hr:∀ q,row=some q→g+3≤q):GeI w g s L x r pre Y:=by
 obtain ⟨h1,h2,h3,h4,h5⟩:=h
 exact ⟨h1,h2.kept hg (fun e=>by have:=hr _ e.symm;omega),h3.kept hg (fun e=>by have:=hr _ e.symm;omega),h4.kept hg (fun e=>by have:=hr _ e.symm;omega),h5.grown hg (Nat.le_of_lt h2.lt) (fun k e=>by have:=hr k e;omega)⟩
theorem GeX.step {w:World}{g:Nat}{x:List UInt8}{r:Bool}{X Y:World}{row:Option Nat}(h:GeX w g x r X)(hg:X.grownBy Y row)(hr:∀ q,row=some q→g+3≤q):GeX w g x r Y:=by
 obtain ⟨h3,h4,h5⟩:=h
 exact ⟨h3.kept hg (fun e=>by have:=hr _ e.symm;omega),h4.kept hg (fun e=>by have:=hr _ e.symm;omega),h5.grown hg (by have:=h3.lt;omega) (fun k e=>by have:=hr k e;omega)⟩
def Blk2 (W:World)(g:Nat)(u:Pr):Prop:=W.heap[g]?=some (.cells #[.string (bb u.1),.string (bb u.2)] 69 (0,0))
set_option maxRecDepth 100000 in
set_option maxHeartbeats 4000000 in
theorem get_of (v:Value)(L:List Pr)(s:ByteArray)(x:List UInt8)(r:Bool)(w:World)(h:Hid (Prs w v L))(hL:L.length≤1000)(hr:Hid (getL L s.data.toList=(x,r))) :
    Calls Tryz.prog 92 #[v,.string s] w fun e w'=>e=.returned (.tuple #[.string (bb x),.bool r])∧Below w.heap.size w w':=by
 obtain ⟨ao,cap,rfl,_,_,_⟩:=id h.out
 obtain ⟨g,hg⟩:∃ g,w.heap.size=g:=⟨_,rfl⟩
 have hP:∀ Y,Below g w Y→Prs Y (.slice ao L.length cap) L:=fun Y hY=>h.out.keep (by rw [hg];exact hY)
 have HPP:=Lh hP
 clear hP
 refine (callsIn_wide (n:=9)).1 ?_
 refine callsIn_of_wp_marks Tryz.func92 rfl trivial ?_ rfl
 simp only [Tryz.ntmps92,List.size_toArray,List.length_cons,List.length_nil,Nat.reduceAdd,Nat.reduceSub,Array.replicate_succ,Array.replicate_zero,List.push_toArray,List.append_toArray,List.nil_append,List.cons_append]
 gi_wp2
 have bK:=((Boxed.new w 9 (.string s)).alloc (.cells #[.string ⟨#[]⟩] 9)).alloc (.cells #[.bool false] 4)
 have bV:=(Boxed.new (w.alloc (.cells #[.string s] 9)) 9 (.string ⟨#[]⟩)).alloc (.cells #[.bool false] 4)
 have bF:=Boxed.new ((w.alloc (.cells #[.string s] 9)).alloc (.cells #[.string ⟨#[]⟩] 9)) 4 (.bool false)
 have hB0:=al3 w (.cells #[.string s] 9) (.cells #[.string ⟨#[]⟩] 9) (.cells #[.bool false] 4)
 simp only [World.size_alloc] at bV bF
 have hsz:(((w.alloc (.cells #[.string s] 9)).alloc (.cells #[.string ⟨#[]⟩] 9)).alloc (.cells #[.bool false] 4)).heap.size=w.heap.size+3:=by simp
 generalize ((w.alloc (.cells #[.string s] 9)).alloc (.cells #[.string ⟨#[]⟩] 9)).alloc (.cells #[.bool false] 4)=w0 at bK bV bF hB0 hsz ⊢
 rw [hg] at bK bV bF hB0 hsz
 refine ⟨trivial,?_⟩
 refine (callsIn_wide.2 (bkw_of _ _ _ w0)).mono ?_
 rintro e W0' ⟨rfl,rfl⟩
 have bS:=Boxed.new w0 65 (.slice ao L.length cap)
 have bK1:=bK.alloc (.cells #[.slice ao L.length cap] 65)
 have bV1:=bV.alloc (.cells #[.slice ao L.length cap] 65)
 have bF1:=bF.alloc (.cells #[.slice ao L.length cap] 65)
 have hB1:Below g w (w0.alloc (.cells #[.slice ao L.length cap] 65)):=hB0.trans ((al1 w0 _).mono (by omega))
 have hz1:(w0.alloc (.cells #[.slice ao L.length cap] 65)).heap.size=g+3+1:=by simp [hsz]
 simp only [hsz] at bS ⊢
 generalize w0.alloc (.cells #[.slice ao L.length cap] 65)=W0 at bS bK1 bV1 bF1 hB1 hz1 ⊢
 clear bK bV bF hB0 hsz
 gi_wp2
 refine range_c rfl (enters_of Tryz.func165 (by kernel_rfl) rfl) (bk_seq (.slice ao L.length cap) L (by omega) (g+1) g (g+3) W0 (by omega) (fun Y hY=>HPP.out Y (hB1.trans hY)) rfl bS) (fun r e=>by cases e) (by omega) (by omega) (fun _=>rfl)
  (GeI w g s L x r) (fun _=>GeX w g x r) (fun pre X Y row h hg' hr'=>h.step hg' (fun q e=>by rcases hr' q e with e | e;cases e;omega)) (fun pre X Y row h hg' hr'=>h.step hg' (fun q e=>by have:=hr' q e;omega))
  ⟨by rw [List.length_nil,Nat.sub_zero,List.take_length];exact hr.out,bK1,bV1,bF1,hB1⟩
  (fun y a' W=>∃ Bx,W0.heap.size+2≤Bx∧Blk2 W Bx y.2∧a'={ tmps:=#[.slice ao L.length cap,.string s,undef,.pointer (some ⟨g,0,none⟩),.pointer (some ⟨g+1,0,none⟩),.pointer (some ⟨g+1+1,0,none⟩),undef,.pointer (some ⟨Bx,0,none⟩),.slice ao L.length cap,.func (.func 165) #[] #[.pointer (some ⟨g+3,0,none⟩)],.int .i64 y.1,.agg #[.string (bb y.2.1),.string (bb y.2.2)],undef,undef,undef,undef,undef,undef],defers:=[] })
  (fun y a' X Y h hg'=>by
   obtain ⟨Bx,h1,h2,h3⟩:=h
   exact ⟨Bx,h1,(hg'.block Bx (Array.getElem?_eq_some_iff.1 h2).1 (fun e=>by cases e;omega)).trans h2,h3⟩) ?assign ?body ?done ?stop
 case assign =>
  rintro k l pre y W K hI hz hK
  dsimp only [bkV]
  gi_wp2
  exact hK _ _ (Kp3.of (by omega) (by omega) (by omega) (al1 _ _)) (hI.step (World.grownBy_alloc W _ none) (fun q e=>by cases e)) ⟨W.heap.size,by omega,heap_alloc_new W _,rfl⟩
 case body =>
  rintro k l pre y a' W ⟨hi,bK,bV,bF,hB⟩ hz ⟨Bx,hBx,bX,rfl⟩ hpre
  obtain ⟨hlt,rfl⟩:=bk_next hpre
  have e1:L.length - pre.length=(L.length - 1 - pre.length)+1:=by omega
  have hjl:L.length - 1 - pre.length < L.length:=by omega
  have hn:L.length - (pre.length+1)=L.length - 1 - pre.length:=by omega
  rw [e1,List.take_succ_eq_append_getElem hjl,getL_snoc] at hi
  simp only at bX hi
  obtain ⟨u,hu⟩:∃ u,L[L.length - 1 - pre.length]=u:=⟨_,rfl⟩
  simp only [hu] at bX hi ⊢
  obtain ⟨u1,u2⟩:=u
  simp only at bX hi ⊢
  obtain ⟨o0,o1,_,_⟩:=own2_of bX
  have cK:=bK.cell
  have cV:=bV.cell
  have fV:=bV.frozen
  obtain ⟨Y,hY⟩:∃ Y,bb u1=Y:=⟨_,rfl⟩
  rw [hY] at o0
  have hY2:Y.data.toList=u1:=by rw [← hY]
  clear hu e1 bX
  by_cases hxy:u1=s.data.toList
  ·have b1:(Y.toList == s.toList)=true:=by rw [ByteArray.toList_eq,ByteArray.toList_eq,hY2,beq_iff_eq];exact hxy
   rw [if_pos hxy] at hi
   obtain ⟨rfl,rfl⟩:=Prod.mk.inj hi
   have cF:=(bF.other (B':=g+1) (by omega) (.string (bb u2))).cell
   have fF:=(bF.other (B':=g+1) (by omega) (.string (bb u2))).frozen
   clear hi hY hY2 hxy hn hjl
   gi_wp2
   have k3:Kp3 g (g+1+2) W0.heap.size W ((W.setCell ⟨g+1,0,none⟩ (.string (bb u2))).setCell ⟨g+1+1,0,none⟩ (.bool true)) :=
    (Kp3.set (b:=g+1) (o:=0) (v:=.string (bb u2)) (by omega) (by omega) (by omega) (by omega)).t (Kp3.set (b:=g+1+1) (o:=0) (v:=.bool true) (by omega) (by omega) (by omega) (by omega))
   rw [hz1] at k3
   exact ⟨k3.2.2.1,k3.2.2.2,(bV.set _).other (by omega) _,(bF.other (by omega) _).set _,hB.trans k3.1⟩
  ·have b1:(Y.toList == s.toList)=false:=by rw [ByteArray.toList_eq,ByteArray.toList_eq,hY2,beq_eq_false_iff_ne];exact hxy
   rw [if_neg hxy] at hi
   have HF:Hid (getL (L.take (L.length - (pre.length+1))) s.data.toList=(x,r)):=Lh (by rw [hn];exact hi)
   clear hi hY hY2 hxy hn hjl
   gi_wp2
   exact ⟨⟨Below.refl _ _,fun _ _ _=>rfl,rfl,rfl⟩,by rw [List.length_append];exact HF.out,bK,bV,bF,hB⟩
 case done =>
  rintro W ⟨hi,bK,bV,bF,hB⟩ hK
  rw [bk_len,Nat.sub_self] at hi
  obtain ⟨rfl,rfl⟩:=Prod.mk.inj hi
  have cV:=bV.cell
  have fV:=bV.frozen
  have cF:=(bF.other (B':=g+1) (by omega) (.string ⟨#[]⟩)).cell
  have fF:=(bF.other (B':=g+1) (by omega) (.string ⟨#[]⟩)).frozen
  have hK1:=((KeepsOthers.setCell W ⟨g+1,0,none⟩ (.string ⟨#[]⟩)).trans (KeepsOthers.setCell _ ⟨g+1+1,0,none⟩ (.bool false))).same W0.heap.size _ hK rfl
  have bV2:=(((bV.set (.string ⟨#[]⟩)).other (B':=g+1+1) (by omega) (.bool false)).kept (grownBy_putObj' _ W0.heap.size (.deferred none)) (by simp;omega))
  have bF2:=(((bF.other (B':=g+1) (by omega) (.string ⟨#[]⟩)).set (.bool false)).kept (grownBy_putObj' _ W0.heap.size (.deferred none)) (by simp;omega))
  have hB2:=(((hB.setCell (p:=⟨g+1,0,none⟩) (by simp) (.string ⟨#[]⟩)).setCell (p:=⟨g+1+1,0,none⟩) (by simp;omega) (.bool false)).grown (grownBy_putObj' _ W0.heap.size (.deferred none)) (by have:=bF2.lt;simp at this ⊢;omega) (fun k e=>by cases e;omega))
  have cV2:=bV2.cell
  have cF2:=bF2.cell
  have HB2:=Lh hB2
  clear hB2 hB hi
  gi_wp2
  refine ⟨by simp,.inl ⟨_,_,rfl,run_takeDeferred hK1,?_⟩⟩
  exact ⟨.tuple #[.string ⟨#[]⟩,.bool false],by simp [results,Tryz.results92,go_sem,cV2,cF2],rfl,by rw [hg];exact HB2.out⟩
 case stop =>
  rintro pre W hpre ⟨bV,bF,hB⟩ hK
  have bV2:=bV.kept (grownBy_putObj' _ W0.heap.size (.deferred none)) (by simp;omega)
  have bF2:=bF.kept (grownBy_putObj' _ W0.heap.size (.deferred none)) (by simp;omega)
  have hB2:=hB.grown (grownBy_putObj' _ W0.heap.size (.deferred none)) (by have:=bV.lt;omega) (fun k e=>by cases e;omega)
  have cV2:=bV2.cell
  have cF2:=bF2.cell
  have HB2:=Lh hB2
  clear hB2 hB
  gi_wp2
  refine ⟨by simp,.inl ⟨_,_,rfl,run_takeDeferred hK,?_⟩⟩
  exact ⟨.tuple #[.string (bb x),.bool r],by simp [results,Tryz.results92,go_sem,cV2,cF2],rfl,by rw [hg];exact HB2.out⟩
end Go.Proofs.YtgmidodmmlmmeaaGreatDoor.att
