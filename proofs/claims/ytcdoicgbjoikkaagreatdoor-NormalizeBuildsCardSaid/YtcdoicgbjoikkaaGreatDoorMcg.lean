/-
  What Number of the landed code answers. Condition: a list's length, a text's length.
  The library's iterator over the parts of a text between its separators, at the separator of ports: its contract. Condition: a text's length; that the library's variable MaxLen holds a number.
  The library's slices.ContainsFunc at ports and at attributes, with the closures of the landed code that compare a name or a key. Condition: a list's length.
-/
import Derived.Test.YtcdoicgbjoikkaaGreatDoorMcf
import Derived.Laws.EntriesVeiled
namespace Go.Proofs.YtcdoicgbjoikkaaGreatDoor.att
open Go.RowKit lex tre
def ruU (x:Ru):Int:=if x.form=2 then 1 else if x.form=3 then 1000 else 0
def ruF (x:Ru):Value:=if x.form=1 then fTx else if x.form=4 then fPo else if x.form=5 then fMo else .nilFunc
def ruC (x:Ru):Value × Bool:=(RV (ruU x) x.low x.high x.normal (ruF x),decide (x.form≠0))
theorem rv_known (k:Int)(c:List UInt8):rvK k c=ruC (knownL k c):=by
 unfold rvK knownL
 by_cases h1:k=1
 ·rw [if_pos h1,if_pos h1]
  unfold rvN ruN
  by_cases a:c=wLabel
  ·rw [if_pos a,if_pos a];rfl
  rw [if_neg a,if_neg a]
  by_cases a:c=wWidth
  ·rw [if_pos a,if_pos a];rfl
  rw [if_neg a,if_neg a]
  by_cases a:c=wHeight
  ·rw [if_pos a,if_pos a];rfl
  rw [if_neg a,if_neg a]
  by_cases a:c=wPorts
  ·rw [if_pos a,if_pos a];rfl
  rw [if_neg a,if_neg a];rfl
 rw [if_neg h1,if_neg h1]
 by_cases h2:k=2
 ·rw [if_pos h2,if_pos h2]
  unfold rvE ruE
  by_cases a:c=wLabel
  ·rw [if_pos a,if_pos a];rfl
  rw [if_neg a,if_neg a]
  by_cases a:c=wWeight
  ·rw [if_pos a,if_pos a];rfl
  rw [if_neg a,if_neg a]
  by_cases a:c=wLen
  ·rw [if_pos a,if_pos a];rfl
  rw [if_neg a,if_neg a];rfl
 rw [if_neg h2,if_neg h2]
 by_cases h4:k=4
 ·rw [if_pos h4,if_pos h4]
  unfold rvS ruS
  by_cases a:c=wMode
  ·rw [if_pos a,if_pos a];rfl
  rw [if_neg a,if_neg a]
  by_cases a:c=wNodesep
  ·rw [if_pos a,if_pos a];rfl
  rw [if_neg a,if_neg a]
  by_cases a:c=wRanksep
  ·rw [if_pos a,if_pos a];rfl
  rw [if_neg a,if_neg a]
  by_cases a:c=wMargin
  ·rw [if_pos a,if_pos a];rfl
  rw [if_neg a,if_neg a]
  by_cases a:c=wRounds
  ·rw [if_pos a,if_pos a];rfl
  rw [if_neg a,if_neg a];rfl
 rw [if_neg h4,if_neg h4];rfl
theorem ruU_of (x:Ru):ruU x=0∨ruU x=1∨ruU x=1000:=by
 unfold ruU
 repeat' split
 all_goals simp
theorem ruF_of (x:Ru):ruF x=.nilFunc∨ruF x=fTx∨ruF x=fPo∨ruF x=fMo:=by
 unfold ruF
 repeat' split
 all_goals simp
theorem known_zero (k:Int)(c:List UInt8)(h2:(knownL k c).form≠2)(h3:(knownL k c).form≠3):(knownL k c).low=0∧(knownL k c).high=0∧(knownL k c).normal=0:=by
 revert h2 h3
 unfold knownL
 split
 ·unfold ruN
  repeat' split
  all_goals simp
 ·split
  ·unfold ruE
   repeat' split
   all_goals simp
  ·split
   ·unfold ruS
    repeat' split
    all_goals simp
   ·simp
theorem known_good {k:Int}(c:List UInt8)(h:goodK k=false):knownL k c=⟨0,0,0,0⟩:=by
 unfold goodK at h
 simp only [Bool.or_eq_false_iff,decide_eq_false_iff_not] at h
 unfold knownL
 rw [if_neg h.1.1,if_neg h.1.2,if_neg h.2]
theorem numC_val (k:Int)(c s:List UInt8):numC (ruU (knownL k c)) (knownL k c).low (knownL k c).high s=if (knownL k c).form≠2∧(knownL k c).form≠3 then (0,false) else valR (knownL k c) s:=by
 generalize knownL k c=x
 unfold numC valR ruU
 by_cases h2:x.form=2
 ·rw [if_pos h2,if_neg (show ¬ (x.form≠2∧x.form≠3) from fun e=>e.1 h2)]
  by_cases h0:(prL s).2≠0
  ·rw [if_pos (Or.inl h0),if_pos h0]
  ·rw [if_neg (show ¬ ((prL s).2≠0∨(1:Int)=0∨(prL s).1.tmod 1≠0) by rintro (e | e | e);exact h0 e;exact absurd e (by decide);exact e (Int.tmod_one _)),if_neg h0,if_neg (show ¬ x.form=3 by omega),Int.tdiv_one]
 ·rw [if_neg h2]
  by_cases h3:x.form=3
  ·rw [if_pos h3,if_neg (show ¬ (x.form≠2∧x.form≠3) from fun e=>e.2 h3)]
   by_cases h0:(prL s).2≠0
   ·rw [if_pos (Or.inl h0),if_pos h0]
   ·rw [if_neg h0,if_pos h3]
    by_cases h4:(prL s).1.tmod 1000≠0
    ·rw [if_pos (Or.inr (Or.inr h4)),if_pos h4]
    ·rw [if_neg (show ¬ ((prL s).2≠0∨(1000:Int)=0∨(prL s).1.tmod 1000≠0) by rintro (e | e | e);exact h0 e;exact absurd e (by decide);exact h4 e),if_neg h4]
  ·rw [if_neg h3,if_pos (show x.form≠2∧x.form≠3 from ⟨h2,h3⟩),if_pos (Or.inr (Or.inl rfl))]
def RuV (w:World)(v:Value)(k:Int):Prop:=(goodK k=true∧∃ b,v=.map (some b)∧RuM w b k)∨(goodK k=false∧v=.map none)
theorem RuV.look {w:World}{v:Value}{k:Int}(h:RuV w v k)(s:ByteArray)(hs:s.size≤maxLen):(Instr.lookup 130 v (.string s) false).run Tryz.prog w=.ok (ruC (knownL k s.data.toList)).1 w:=by
 rcases h with ⟨_,b,rfl,h⟩ | ⟨h,rfl⟩
 ·rw [← rv_known];exact h.look s hs
 ·rw [known_good _ h]
  have:=Maps.look_nil (w:=w) false (Maps.string_keyed Tryz.underlying9) Tryz.underlying130 (rz_zero w) (WideMaps.keyOf_string_mk Tryz.underlying9 hs)
  exact this
theorem rules_of (k:Int)(w:World):Calls Tryz.prog 74 #[.int .i64 k] w fun e w'=>(∃ v,e=.returned v∧RuV w' v k)∧Below w.heap.size w w':=by
 cases h:goodK k with
 | true=>exact (rules_yes k w h).mono fun _ _ ⟨⟨b,h1,h2⟩,h3⟩=>⟨⟨_,h1,Or.inl ⟨h,b,rfl,h2⟩⟩,h3⟩
 | false=>exact (rules_no k w h).mono fun _ _ ⟨h1,h3⟩=>⟨⟨_,h1,Or.inr ⟨h,rfl⟩⟩,h3⟩
def Own5 (W:World)(g:Nat)(u lo hi us:Int)(f:Value):Prop:=W.cell? ⟨g,0,none⟩=some (.int .i64 u)∧W.cell? ⟨g,1,none⟩=some (.int .i64 lo)∧W.cell? ⟨g,2,none⟩=some (.int .i64 hi)∧W.cell? ⟨g,3,none⟩=some (.int .i64 us)∧W.cell? ⟨g,4,none⟩=some f
theorem own5_of {W:World}{g:Nat}{u lo hi us:Int}{f:Value}{t:TypeId}(h:W.heap[g]?=some (.cells #[.int .i64 u,.int .i64 lo,.int .i64 hi,.int .i64 us,f] t (0,0))):Own5 W g u lo hi us f:=by
 refine ⟨?_,?_,?_,?_,?_⟩ <;> simp [World.cell?,h]
theorem Own5.keep {w1 w2:World}{b:Nat}{u lo hi us:Int}{f:Value}(h:Own5 w1 b u lo hi us f)(h2:Below w1.heap.size w1 w2):Own5 w2 b u lo hi us f :=
 ⟨cell_keep h2 h.1,cell_keep h2 h.2.1,cell_keep h2 h.2.2.1,cell_keep h2 h.2.2.2.1,cell_keep h2 h.2.2.2.2⟩
theorem getL_val:∀ {l:List Pr} {k q:List UInt8},getL l k=(q,true)→∃ a∈l,a.2=q
 | [],k,q,h=>by unfold getL at h;cases h
 | a :: t,k,q,h=>by
  unfold getL at h
  split at h
  ·obtain ⟨b,hb,e⟩:=getL_val h
   exact ⟨b,List.mem_cons_of_mem _ hb,e⟩
  ·split at h
   ·cases h;exact ⟨a,List.mem_cons_self,rfl⟩
   ·cases h
theorem prs_bnd2 {w:World}{v:Value}{l:List Pr}(h:Prs w v l):Bnd l:=by
 obtain ⟨ao,cap,rfl,h1,h2,h3⟩:=h
 intro r hr
 obtain ⟨i,hi,rfl⟩:=List.mem_iff_getElem.1 hr
 obtain ⟨A,_,h4⟩:=h3 (by omega)
 exact (h4 i hi).2.2
theorem num_C (k:Int)(l:List Pr)(c:List UInt8):numL k l c=if (getL l c).2=false then (knownL k c).normal else if (numC (ruU (knownL k c)) (knownL k c).low (knownL k c).high (getL l c).1).2 then (numC (ruU (knownL k c)) (knownL k c).low (knownL k c).high (getL l c).1).1 else (knownL k c).normal:=by
 rw [numC_val]
 unfold numL
 by_cases h:(knownL k c).form≠2∧(knownL k c).form≠3
 ·rw [if_pos h,if_pos h,(known_zero k c h.1 h.2).2.2]
  split <;> simp
 ·rw [if_neg h,if_neg h]
set_option maxRecDepth 100000 in
set_option maxHeartbeats 8000000 in
theorem num10_of (k:Int)(v:Value)(l:List Pr)(s:ByteArray)(n:Int)(w:World)(h:Hid (Prs w v l))(hl:l.length≤1000)(hs:s.size≤maxLen)(hn:Hid (numL k l s.data.toList=n)) :
    Calls Tryz.prog 35 #[.int .i64 k,v,.string s] w fun e w'=>e=.returned (.int .i64 n)∧Below w.heap.size w w':=by
 have hb:=prs_bnd2 h.out
 obtain ⟨ao,cap,rfl,_,_,_⟩:=id h.out
 have hn2:=hn.out
 rw [num_C] at hn2
 have hu:=ruU_of (knownL k s.data.toList)
 have hf:=ruF_of (knownL k s.data.toList)
 have HRUN:Hid (∀ W rv,RuV W rv k→(Instr.lookup 130 rv (.string s) false).run Tryz.prog W=.ok (ruC (knownL k s.data.toList)).1 W):=Lh (fun W rv hr=>hr.look s hs)
 unfold ruC RV at HRUN
 generalize knownL k s.data.toList=x at hn2 hu hf HRUN
 obtain ⟨u,hU⟩:∃ u,ruU x=u:=⟨_,rfl⟩
 obtain ⟨f,hF⟩:∃ f,ruF x=f:=⟨_,rfl⟩
 rw [hU] at hn2 hu HRUN
 rw [hF] at hf HRUN
 obtain ⟨q,r,hg⟩:∃ q r,getL l s.data.toList=(q,r):=⟨_,_,rfl⟩
 have HG:=Lh hg
 have hq:r=true→(bb q).size≤maxLen:=by
  intro hr
  subst hr
  obtain ⟨a,ha,hk⟩:=getL_val hg
  rw [bb_len,← hk]
  exact (hb a ha).2
 rw [hg] at hn2
 simp only at hn2
 obtain ⟨m,ok,hm⟩:∃ m ok,numC u x.low x.high q=(m,ok):=⟨_,_,rfl⟩
 have HM:Hid (numC u x.low x.high (bb q).data.toList=(m,ok)):=Lh hm
 rw [hm] at hn2
 simp only at hn2
 obtain ⟨f0,lo,hi,us⟩:=x
 simp only at hn2 HM HRUN
 have HN:=Lh hn2
 have HU:=Lh hu
 have HQ:=Lh hq
 clear hn2 hu hg hm hU hF hb hn hq
 simp only [fTx,fPo,fMo] at hf
 rcases hf with rfl | rfl | rfl | rfl
 all_goals
  go_enter Tryz.func35,Tryz.ntmps35
  go_wp2_with fail
  refine (rules_of k w).mono ?_
  rintro e w1 ⟨⟨rv,rfl,hrv⟩,hb1⟩
  have hrun:=HRUN.out w1 rv hrv
  have HRV:=Lh hrv
  have h1:=Lh (h.out.keep hb1)
  have HB1:=Lh hb1
  clear hrv hb1
  go_wp2_with fail
  generalize hw2:w1.alloc _=w2
  have o5:Own5 w2 w1.heap.size u lo hi us _:=own5_of (by rw [← hw2];exact heap_alloc_new w1 _)
  have hb2:Below w1.heap.size w1 w2:=by rw [← hw2];exact al1 ..
  have h2:=Lh (h1.out.keep hb2)
  have HB2:=Lh (below_keep hb2 HB1.out)
  clear hw2 hb2 hrun h1 HB1 HRV
  refine (get_of _ l s q r w2 h2 hl HG).mono ?_
  rintro e w3 ⟨rfl,hb3⟩
  obtain ⟨c0,c1,c2,c3,c4⟩:=o5.keep hb3
  have HB3:=Lh (below_keep hb3 HB2.out)
  clear hb3 HB2 h2 o5
  cases r
  ·obtain rfl:us=n:=by have:=HN.out;simpa using this
   go_wp2
   go_ret
   exact ⟨rfl,HB3.out⟩
  ·go_wp2_with fail
   refine (number_of u lo hi us _ (bb q) m ok w3 (by simpa using HQ.out) HU.out HM).mono ?_
   rintro e w4 ⟨rfl,hb4⟩
   have d3:=cell_keep hb4 c3
   have HB4:=Lh (below_keep hb4 HB3.out)
   clear hb4 HB3 c0 c1 c2 c3 c4
   cases ok
   ·obtain rfl:us=n:=by have:=HN.out;simpa using this
    go_wp2
    go_ret
    exact ⟨rfl,HB4.out⟩
   ·obtain rfl:m=n:=by have:=HN.out;simpa using this
    go_wp2
    go_ret
    exact ⟨rfl,HB4.out⟩
attribute [local go_sem] Oper.semAt_some
theorem index_range (s p:List UInt8):-1≤Lib.index s p∧Lib.index s p≤s.length:=by
 induction s with
 | nil=>unfold Lib.index;split <;> simp
 | cons b t ih =>
  unfold Lib.index
  split
  ·simp only [List.length_cons];omega
  ·split
   ·simp only [List.length_cons];omega
   ·rename_i h;simp at h;simp only [List.length_cons];omega
theorem index_room (s:List UInt8)(h:0≤Lib.index s [44,32]):(Lib.index s [44,32]).toNat+2≤s.length:=by
 induction s with
 | nil=>simp [Lib.index] at h
 | cons b t ih =>
  unfold Lib.index at h ⊢
  by_cases hp:[44,32].isPrefixOf (b :: t)=true
  ·rw [if_pos hp]
   cases t with
   | nil=>simp [List.isPrefixOf] at hp
   | cons y t=>simp
  ·rw [if_neg hp] at h ⊢
   by_cases h1:(Lib.index t [44,32] == -1)=true
   ·rw [if_pos h1] at h;omega
   ·rw [if_neg h1] at h ⊢
    have hr:=(index_range t [44,32]).1
    simp at h1
    have:=ih (by omega)
    simp only [List.length_cons]
    omega
theorem split_any:∀ (s c:List UInt8),splitA c s=if Lib.index s [44,32] < 0 then [c ++ s] else (c ++ s.take (Lib.index s [44,32]).toNat) :: splitL (s.drop ((Lib.index s [44,32]).toNat+2))
 | [],c=>by unfold splitA;rw [if_pos (by decide)];simp
 | [x],c=>by
  unfold splitA
  rw [if_pos (by simp [Lib.index,List.isPrefixOf])]
 | x :: y :: t,c=>by
  have ih:=split_any (y :: t) (c ++ [x])
  have hr:=(index_range (y :: t) [44,32]).1
  unfold splitA Lib.index
  by_cases h:x=44∧y=32
  ·obtain ⟨rfl,rfl⟩:=h
   rw [if_pos (⟨rfl,rfl⟩:(44:UInt8)=44∧(32:UInt8)=32),show ([44,32]:List UInt8).isPrefixOf (44 :: 32 :: t)=true by simp [List.isPrefixOf]]
   simp [splitL]
  ·have hp:[44,32].isPrefixOf (x :: y :: t)=false:=by
     simp only [List.isPrefixOf,Bool.and_true,Bool.and_eq_false_iff,beq_eq_false_iff_ne]
     by_cases h1:x=44
     ·exact Or.inr (fun e=>h ⟨h1,e.symm⟩)
     ·exact Or.inl (fun e=>h1 e.symm)
   rw [if_neg h,hp,ih]
   by_cases h1:Lib.index (y :: t) [44,32] < 0
   ·have e1:Lib.index (y :: t) [44,32]=-1:=by omega
    rw [if_pos h1,e1];simp
   ·rw [if_neg h1]
    have h2:(Lib.index (y :: t) [44,32] == -1)=false:=by rw [beq_eq_false_iff_ne];omega
    rw [h2]
    obtain ⟨n,hn⟩:∃ n:Nat,Lib.index (y :: t) [44,32]=n:=⟨_,(Int.toNat_of_nonneg (by omega)).symm⟩
    rw [hn]
    have e3:((n:Int)+1).toNat=n+1:=by omega
    simp only [Bool.false_eq_true,if_false]
    rw [if_neg (by omega),e3,Int.toNat_natCast]
    simp
termination_by s=>s.length
theorem split_step (s:List UInt8):splitL s=if Lib.index s [44,32] < 0 then [s] else s.take (Lib.index s [44,32]).toNat :: splitL (s.drop ((Lib.index s [44,32]).toNat+2)):=by
 have:=split_any s []
 simpa [splitL] using this
def szAt (c:Nat)(w:World):Nat:=match w.cell? ⟨c,0,none⟩ with | some (.string s)=>s.size | _=>0
theorem szAt_of {c:Nat}{w:World}{s:ByteArray}(h:w.cell? ⟨c,0,none⟩=some (.string s)):szAt c w=s.size:=by unfold szAt;rw [h]
def Box3 (W:World)(c:Nat)(S:ByteArray):Prop:=W.heap[c]?=some (.cells #[.string S] 9 (0,0))∧W.heap[c+1]?=some (.cells #[.string ⟨#[44,32]⟩] 9 (0,0))∧W.heap[c+2]?=some (.cells #[.int .i64 0] 3 (0,0))
theorem Box3.keep {X Y:World}{m c:Nat}{S:ByteArray}(h:Box3 X c S)(k:KpC m c X Y):Box3 Y c S :=
 ⟨(k.2 c (by omega) (by omega)).trans h.1,(k.2 (c+1) (by omega) (by omega)).trans h.2.1,(k.2 (c+2) (by omega) (by omega)).trans h.2.2⟩
theorem Box3.cells {X:World}{c:Nat}{S:ByteArray}(h:Box3 X c S):X.cell? ⟨c,0,none⟩=some (.string S)∧X.frozen? ⟨c,0,none⟩=false∧X.cell? ⟨c+1,0,none⟩=some (.string ⟨#[44,32]⟩)∧X.cell? ⟨c+2,0,none⟩=some (.int .i64 0):=by
 obtain ⟨h0,h1,h2⟩:=h
 refine ⟨?_,?_,?_,?_⟩ <;> simp [World.cell?,World.frozen?,h0,h1,h2]
theorem Box3.set {X:World}{c:Nat}{S:ByteArray}(h:Box3 X c S)(S':ByteArray):Box3 (X.setCell ⟨c,0,none⟩ (.string S')) c S':=by
 obtain ⟨h0,h1,h2⟩:=h
 refine ⟨?_,(Below.heap_setCell _ _ _ _ (by simp)).trans h1,(Below.heap_setCell _ _ _ _ (by simp)).trans h2⟩
 obtain ⟨hlt,hk⟩:=Array.getElem?_eq_some_iff.1 h0
 show (X.heap.modify c _)[c]?=_
 rw [Array.getElem?_eq_getElem (by rw [Array.size_modify];exact hlt),Array.getElem_modify_self,hk]
 rfl
theorem grown_set (W:World)(b o:Nat)(v:Value):W.grownBy (W.setCell ⟨b,o,none⟩ v) (some b) :=
 ⟨rfl,rfl,rfl,(KeepsWalks.setCell W _ v).size,fun k _ hk=>Below.heap_setCell _ _ _ k (fun e=>hk (by rw [e]))⟩
set_option maxRecDepth 100000 in
set_option maxHeartbeats 4000000 in
theorem spl1_in (n l c m:Nat)(S:ByteArray)(hS:S.size≤1000)(hM:2 < m)(hmc:m≤c)(J Jx:List ByteArray→World→Prop)(xs:List ByteArray)
    (hxs:xs.map (·.data.toList)=splitL S.data.toList)
    (hJ:∀ pre X Y row,J pre X→X.grownBy Y row→(∀ r,row=some r→r=c)→J pre Y)
    (hY:∀ k pre x X,J pre X→pre ++ [x] <+: xs→YieldAt Fence.wide k Tryz.prog l #[.string x] X fun e Y =>
     (e=.returned (.bool true)∧J (pre ++ [x]) Y∧KpC m c X Y)∨(e=.returned (.bool false)∧Jx (pre ++ [x]) Y))
    (W:World) (hB:Box3 W c S) (hX:Mx W) (h0:J [] W) :
    CallsIn Fence.wide n Tryz.prog 160 #[.func (.yield l) #[] #[],.pointer (some ⟨c+1,0,none⟩),.pointer (some ⟨c,0,none⟩),.pointer (some ⟨c+2,0,none⟩)] W fun e W'=>(∃ v,e=.returned v) ∧
     (J xs W'∨∃ pre,pre <+: xs∧Jx pre W'):=by
 obtain ⟨c0,f0,c1,c2⟩:=hB.cells
 refine callsIn_of_wp Tryz.func160 rfl trivial ?_ rfl
 simp only [Tryz.ntmps160,List.size_toArray,List.length_cons,List.length_nil,Nat.reduceAdd,Nat.reduceSub,Array.replicate_succ,Array.replicate_zero,List.push_toArray,List.append_toArray,List.nil_append,List.cons_append]
 gi_wp2
 clear c0 f0 c1 c2
 gi_loopw [] (fun wr=>∃ (pre rest:List ByteArray) (T:ByteArray),xs=pre ++ rest∧rest.map (·.data.toList)=splitL T.data.toList∧T.size≤1000∧J pre wr∧Box3 wr c T∧Mx wr) (fun wr=>szAt c wr)
 case atStart=>exact ⟨[],xs,S,rfl,hxs,hS,h0,hB,hX⟩
 case round =>
  obtain ⟨pre,rest,T,hpr,hrs,hT,hJs,hb3,hmx⟩:=hrel
  rename World=>wr
  have hss:=split_step T.data.toList
  have hix:=index_range T.data.toList [44,32]
  have hrm:=index_room T.data.toList
  obtain ⟨ix,hi⟩:∃ i,Lib.index T.data.toList [44,32]=i:=⟨_,rfl⟩
  have CI:Hid (∀ W:World,Mx W→Calls Tryz.prog 162 #[.string T,.string ⟨#[44,32]⟩] W fun e w'=>e=.returned (.int .i64 ix)∧W=w'):=Lh (fun W ⟨q,hq⟩=>by
   have cc:=Tryz.strings_Index T ⟨#[44,32]⟩ q W (by omega) hq
   rw [show (ByteArray.mk #[44,32]).data.toList=[44,32] from rfl,hi] at cc
   exact cc.mono fun _ _ h=>⟨h.1,h.2.symm⟩)
  rw [hi] at hss hix hrm
  have hTz:T.data.toList.length=T.size:=by simp
  rw [hTz] at hix hrm
  clear hi
  obtain ⟨c0,f0,c1,c2⟩:=hb3.cells
  by_cases hneg:ix < 0
  ·rw [if_pos hneg] at hss
   rw [hss] at hrs
   obtain ⟨x,rfl⟩:∃ x,rest=[x]:=by
    cases rest with
    | nil=>simp at hrs
    | cons x r=>cases r with
     | nil=>exact ⟨x,rfl⟩
     | cons y r=>simp at hrs
   obtain rfl:x=T:=ba_ext (List.cons.inj hrs).1
   have HPR:=Lh hpr
   clear hrs hss hpr hxs
   obtain ⟨fn,tmps,assign,body,hy,hR⟩:=hY (n - 1) pre x wr hJs (by rw [HPR.out];exact List.prefix_refl _)
   gi_wp2
   refine ⟨trivial,fun h=>(by cases h),?_⟩
   refine (callsIn_wide.2 (CI.out _ hmx)).mono ?_
   rintro e w' ⟨rfl,rfl⟩
   gi_wp2
   refine ⟨fun h=>(by cases h),?_⟩
   refine hR.mono ?_
   rintro e W3 (⟨rfl,hJ3,hk3⟩ | ⟨rfl,hJx3⟩)
   ·gi_wp2
    go_end0
    exact ⟨⟨_,rfl⟩,Or.inl (by rw [HPR.out];exact hJ3)⟩
   ·gi_wp2
    go_end0
    exact ⟨⟨_,rfl⟩,Or.inr ⟨_,by rw [HPR.out];exact List.prefix_refl _,hJx3⟩⟩
  ·rw [if_neg hneg] at hss
   obtain ⟨k,rfl⟩:∃ k:Nat,ix=k:=⟨ix.toNat,(Int.toNat_of_nonneg (by omega)).symm⟩
   rw [Int.toNat_natCast] at hss hrm
   have hrm':=hrm (by omega)
   rw [hss] at hrs
   obtain ⟨x,rest,rfl⟩:∃ x r,rest=x :: r:=by
    cases rest with
    | nil=>cases hrs
    | cons x r=>exact ⟨x,r,rfl⟩
   obtain ⟨hx,hrs2⟩:=List.cons.inj hrs
   obtain rfl:x=T.extract 0 k:=ba_ext (Eq.trans hx (ext_take T k).symm)
   have HPR:=Lh hpr
   have HRS:Hid (rest.map (·.data.toList)=splitL (T.extract (k+2) T.size).data.toList):=Lh (by rw [drop_extract];exact hrs2)
   clear hrs hrs2 hss hpr hx hrm hxs hneg
   obtain ⟨fn,tmps,assign,body,hy,hR⟩:=hY (n - 1) pre (T.extract 0 k) wr hJs (by rw [HPR.out];exact ⟨rest,by simp⟩)
   gi_wp2
   refine ⟨trivial,fun h=>(by cases h),?_⟩
   refine (callsIn_wide.2 (CI.out _ hmx)).mono ?_
   rintro e w' ⟨rfl,rfl⟩
   gi_wp2
   refine ⟨fun h=>(by cases h),?_⟩
   refine hR.mono ?_
   rintro e W3 (⟨rfl,hJ3,hk3⟩ | ⟨rfl,hJx3⟩)
   ·have hb4:=hb3.keep hk3
    have hmx3:Mx W3:=by
     obtain ⟨q,hq⟩:=hmx
     exact ⟨q,by rw [hk3.1.cell (p:=⟨2,0,none⟩) hM];exact hq⟩
    have hb5:=hb4.set (T.extract (k+2) T.size)
    have hz5:=Lh (szAt_of hb5.cells.1)
    have hz0:=Lh (szAt_of c0)
    have hze:(T.extract (k+2) T.size).size=T.size - (k+2):=by simp [ByteArray.size_extract]
    have hJ5:=hJ _ _ _ _ hJ3 (grown_set W3 c 0 (.string (T.extract (k+2) T.size))) (fun r e=>by cases e;rfl)
    have hmx5:Mx (W3.setCell ⟨c,0,none⟩ (.string (T.extract (k+2) T.size))):=by
     obtain ⟨q,hq⟩:=hmx3
     exact ⟨q,(World.cell?_of_block (Below.heap_setCell _ _ _ _ (by simp;omega))).trans hq⟩
    have HB5:=Lh hb5
    have HZE:=Lh hze
    have HJ5:=Lh hJ5
    have HM5:=Lh hmx5
    obtain ⟨d0,e0,d1,d2⟩:=hb4.cells
    clear hb5 hze hJ5 hmx5 hb4 hmx3 hb3 c0 f0 c1 c2
    gi_wp2
    go_roundw
    case rel=>exact ⟨pre ++ [T.extract 0 k],rest,T.extract (k+2) T.size,by rw [HPR.out];simp,HRS.out,by rw [HZE.out];omega,HJ5.out,HB5.out,HM5.out⟩
    case measure=>rw [hz5.out,hz0.out,HZE.out];omega
   ·gi_wp2
    refine bodyPost_ret (results_none rfl _ _ _) rfl ?_
    exact ⟨⟨_,rfl⟩,Or.inr ⟨_,by rw [HPR.out];exact ⟨rest,by simp⟩,hJx3⟩⟩
theorem any_take {X:Type}(f:X→Bool)(l:List X)(k:Nat)(h:k < l.length):(l.take (k+1)).any f=((l.take k).any f || f l[k]):=by
 rw [List.take_succ_eq_append_getElem h,List.any_append];simp
set_option maxHeartbeats 1000000 in
theorem poclo_of (p:Pt)(g:Nat)(nm:List UInt8)(b:Bool)(w:World)(hc:Hid (w.cell? ⟨g,0,none⟩=some (.string (bb nm))))(h:Hid (decide (nm=p.1)=b)) :
    Calls Tryz.prog 103 #[.agg #[.string (bb p.1),.int .i64 p.2],.pointer (some ⟨g,0,none⟩)] w fun e w'=>e=.returned (.bool b)∧Below w.heap.size w w':=by
 have e1:(nm == p.1)=b:=by rw [← h.out,Bool.eq_iff_iff];simp
 have c1:=cell_keep (al1 w (.cells #[.string (bb p.1),.int .i64 p.2] 129)) hc.out
 have hb:=al1 w (.cells #[.string (bb p.1),.int .i64 p.2] 129)
 clear h hc
 go_enter Tryz.func103,Tryz.ntmps103
 go_wp2
 go_ret
 exact ⟨rfl,hb⟩
set_option maxHeartbeats 2000000 in
theorem poidx_of (v:Value)(l:List Pt)(g:Nat)(nm:List UInt8)(w:World)(hl:l.length≤1000000)(h:Hid (Pos w v l))(hc:Hid (w.cell? ⟨g,0,none⟩=some (.string (bb nm)))) :
    Calls Tryz.prog 142 #[v,.func (.func 103) #[] #[.pointer (some ⟨g,0,none⟩)]] w fun e W'=>(∃ i:Int,e=.returned (.int .i64 i)∧decide (0≤i)=l.any (fun p=>decide (nm=p.1)))∧Below w.heap.size w W':=by
 obtain ⟨ao,cap,rfl,_,_,_⟩:=id h.out
 go_enter Tryz.func142,Tryz.ntmps142
 go_wp2_with fail
 go_loopw [8] (fun i wr=>∃ k:Nat,k≤l.length∧i=.int .i64 k∧Below w.heap.size w wr∧(l.take k).any (fun p=>decide (nm=p.1))=false) (fun i _=>l.length - (intOf i).toNat)
 case atStart=>exact ⟨0,Nat.zero_le _,rfl,Below.refl _ _,by simp⟩
 case round =>
  obtain ⟨k,hk,rfl,hB,hal⟩:=hrel
  rename World=>wr
  have HAL:=Lh hal
  have HB:=Lh hB
  clear hal hB
  by_cases hlt:k < l.length
  ·obtain ⟨A,rfl,c0,c1⟩:=(h.out.keep HB.out).get hlt
   have hcr:=Lh (cell_keep HB.out hc.out)
   have hat:=any_take (fun p:Pt=>decide (nm=p.1)) l k hlt
   obtain ⟨b,hb⟩:∃ b,decide (nm=l[k].1)=b:=⟨_,rfl⟩
   have HV:=Lh hb
   rw [HAL.out,hb] at hat
   have HAT:=Lh hat
   have i0:(0:Int)≤(k:Int):=by omega
   have i1:(k:Int) < (l.length:Int):=by omega
   clear hb hat
   cases b
   ·go_wp2_with fail
    refine (poclo_of l[k] g nm false wr hcr HV).mono ?_
    rintro e w1 ⟨rfl,hb1⟩
    have HB1:=Lh (below_keep hb1 HB.out)
    clear hb1
    go_wp2
    go_roundw
    case rel=>exact ⟨k+1,by omega,by go_num,HB1.out,HAT.out⟩
    case measure=>simp [intOf];omega
   ·go_wp2_with fail
    refine (poclo_of l[k] g nm true wr hcr HV).mono ?_
    rintro e w1 ⟨rfl,hb1⟩
    have HB1:=Lh (below_keep hb1 HB.out)
    clear hb1
    have hany:l.any (fun p=>decide (nm=p.1))=true:=by
     rw [List.any_eq_true];exact ⟨l[k],List.getElem_mem hlt,HV.out⟩
    have HANY:=Lh hany
    clear hany
    go_wp2
    go_ret
    exact ⟨⟨k,rfl,by rw [HANY.out];simp⟩,HB1.out⟩
  ·obtain rfl:k=l.length:=by omega
   have HAN:Hid (l.any (fun p=>decide (nm=p.1))=false):=Lh (by have:=HAL.out;rwa [List.take_length] at this)
   go_wp2
   go_ret
   exact ⟨⟨-1,rfl,by rw [HAN.out];rfl⟩,HB.out⟩
set_option maxHeartbeats 1000000 in
theorem pocon_of (v:Value)(l:List Pt)(g:Nat)(nm:List UInt8)(b:Bool)(w:World)(hl:l.length≤1000000)(h:Hid (Pos w v l))(hc:Hid (w.cell? ⟨g,0,none⟩=some (.string (bb nm))))(hb:Hid (l.any (fun p=>decide (nm=p.1))=b)) :
    Calls Tryz.prog 104 #[v,.func (.func 103) #[] #[.pointer (some ⟨g,0,none⟩)]] w fun e W'=>e=.returned (.bool b)∧Below w.heap.size w W':=by
 have hq:=poidx_of v l g nm w hl h hc
 rw [hb.out] at hq
 go_enter Tryz.func104,Tryz.ntmps104
 go_wp2_with fail
 refine hq.mono ?_
 rintro e w1 ⟨⟨i,rfl,hi⟩,hb1⟩
 have HI:=Lh hi
 clear hi
 go_wp2
 go_ret
 exact ⟨ret_bool HI.out,hb1⟩
end Go.Proofs.YtcdoicgbjoikkaaGreatDoor.att
