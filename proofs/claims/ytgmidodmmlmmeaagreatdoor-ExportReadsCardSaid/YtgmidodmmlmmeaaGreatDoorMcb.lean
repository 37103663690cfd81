/-
  What the reference's Known returns. No condition.
  What number of a rule of the landed code answers. Condition: the text's length.
  A loop over an iterator that stores in one box of its own between two rounds, and whose rounds may end the loop by a return: the contract of such an iterator, and the loop's law. No function of the program is named here; no condition.
-/
import Derived.Test.YtgmidodmmlmmeaaGreatDoorMca
import Derived.Lib.QuietBelow
import Derived.RangeFuncNested
import Derived.RangeFuncBound
namespace Go.Proofs.YtgmidodmmlmmeaaGreatDoor.att
open Go.RowKit lex tre
theorem drew_n (w:World):∀ n,Below w.heap.size w (w.drewN n)
 | 0=>Below.refl _ _
 | n+1=>(drew_n w n).drew
theorem str_is (s:ByteArray)(c:List UInt8):(s.toList == c)=decide (s.data.toList=c):=by
 rw [ByteArray.toList_eq]
 by_cases h:s.data.toList=c
 ·simp [h]
 ·simp [h]
theorem str_yes {s:ByteArray}{c:List UInt8}(h:s.data.toList=c):(s.toList == c)=true:=by rw [str_is];exact decide_eq_true h
theorem str_no {s:ByteArray}{c:List UInt8}(h:¬ s.data.toList=c):(s.toList == c)=false:=by rw [str_is];exact decide_eq_false h
def numC (u lo hi:Int)(s:List UInt8):Int × Bool :=
 if (prL s).2≠0∨u=0∨(prL s).1.tmod u≠0 then (0,false) else ((prL s).1.tdiv u,decide (lo≤(prL s).1.tdiv u) && decide ((prL s).1.tdiv u≤hi))
set_option maxRecDepth 100000 in
set_option maxHeartbeats 4000000 in
theorem number_0 (lo hi us:Int)(fv:Value)(s:ByteArray)(n:Int)(b:Bool)(w:World)(hs:s.size≤maxLen)(h:Hid (numC 0 lo hi s.data.toList=(n,b))) :
    Calls Tryz.prog 100 #[.agg #[.int .i64 0,.int .i64 lo,.int .i64 hi,.int .i64 us,fv],.string s] w fun e w'=>e=.returned (.tuple #[.int .i64 n,.bool b])∧Below w.heap.size w w':=by
 have hs':s.size≤9223372036854775807:=by unfold maxLen at hs;omega
 have hr:=h.out
 clear h hs
 unfold numC at hr
 have hrg:=prL_range s.data.toList
 obtain ⟨pn,pe,hpe⟩:∃ a c,prL s.data.toList=(a,c):=⟨_,_,rfl⟩
 have HP:Hid (parseV s.data.toList=.tuple #[.int .i64 pn,.int .i64 pe]):=Lh (by rw [parseV_pr,hpe])
 rw [hpe] at hr hrg
 simp only at hr hrg
 clear hpe
 by_cases h0:pe=0
 case neg =>
  rw [if_pos (Or.inl h0)] at hr
  cases hr
  have b0:(pe != 0)=true:=by rw [bne_iff_ne];exact h0
  clear hrg h0
  go_enter Tryz.func100,Tryz.ntmps100
  go_wp2_with fail
  refine (parse_any _ _ hs').mono ?_
  rintro e w1 ⟨rfl,rfl⟩
  rw [HP.out]
  go_wp2
  go_ret2
  exact ⟨rfl,al1 ..⟩
 have hg:=hrg h0
 subst h0
 clear hrg
 rw [if_pos (Or.inr (Or.inl trivial))] at hr
 cases hr
 clear hg
 go_enter Tryz.func100,Tryz.ntmps100
 go_wp2_with fail
 refine (parse_any _ _ hs').mono ?_
 rintro e w1 ⟨rfl,rfl⟩
 rw [HP.out]
 go_wp2
 go_ret2
 exact ⟨rfl,al1 ..⟩
set_option maxRecDepth 100000 in
set_option maxHeartbeats 4000000 in
theorem number_1 (lo hi us:Int)(fv:Value)(s:ByteArray)(n:Int)(b:Bool)(w:World)(hs:s.size≤maxLen)(h:Hid (numC 1 lo hi s.data.toList=(n,b))) :
    Calls Tryz.prog 100 #[.agg #[.int .i64 1,.int .i64 lo,.int .i64 hi,.int .i64 us,fv],.string s] w fun e w'=>e=.returned (.tuple #[.int .i64 n,.bool b])∧Below w.heap.size w w':=by
 have hs':s.size≤9223372036854775807:=by unfold maxLen at hs;omega
 have hr:=h.out
 clear h hs
 unfold numC at hr
 have hrg:=prL_range s.data.toList
 obtain ⟨pn,pe,hpe⟩:∃ a c,prL s.data.toList=(a,c):=⟨_,_,rfl⟩
 have HP:Hid (parseV s.data.toList=.tuple #[.int .i64 pn,.int .i64 pe]):=Lh (by rw [parseV_pr,hpe])
 rw [hpe] at hr hrg
 simp only at hr hrg
 clear hpe
 by_cases h0:pe=0
 case neg =>
  rw [if_pos (Or.inl h0)] at hr
  cases hr
  have b0:(pe != 0)=true:=by rw [bne_iff_ne];exact h0
  clear hrg h0
  go_enter Tryz.func100,Tryz.ntmps100
  go_wp2_with fail
  refine (parse_any _ _ hs').mono ?_
  rintro e w1 ⟨rfl,rfl⟩
  rw [HP.out]
  go_wp2
  go_ret2
  exact ⟨rfl,al1 ..⟩
 have hg:=hrg h0
 subst h0
 clear hrg
 rw [if_neg (by simp [Int.tmod_one])] at hr
 rw [Int.tdiv_one] at hr
 have t1:IntKind.i64.wrap pn=pn:=IntWalk.i64_in _ (by omega)
 have u1:pn.tmod 1=0:=Int.tmod_one pn
 have u2:pn.tdiv 1=pn:=Int.tdiv_one pn
 have e1:=(Prod.mk.inj hr).1
 have e2:=(Prod.mk.inj hr).2
 subst e1
 subst e2
 clear hr hg
 obtain ⟨q1,hq1⟩:∃ q,decide (lo≤pn)=q:=⟨_,rfl⟩
 obtain ⟨q2,hq2⟩:∃ q,decide (pn≤hi)=q:=⟨_,rfl⟩
 rw [hq1,hq2]
 cases q1
 ·go_enter Tryz.func100,Tryz.ntmps100
  go_wp2_with fail
  refine (parse_any _ _ hs').mono ?_
  rintro e w1 ⟨rfl,rfl⟩
  rw [HP.out]
  go_wp2
  go_quiet (fail)
  have hB:=below_keep (drew_n (w.alloc (.cells #[.int .i64 1,.int .i64 lo,.int .i64 hi,.int .i64 us,fv] 175)) nq) (al1 ..)
  generalize (w.alloc (.cells #[.int .i64 1,.int .i64 lo,.int .i64 hi,.int .i64 us,fv] 175)).drewN nq=wn at hB ⊢
  go_wp2
  go_ret2
  exact ⟨rfl,hB⟩
 ·go_enter Tryz.func100,Tryz.ntmps100
  go_wp2_with fail
  refine (parse_any _ _ hs').mono ?_
  rintro e w1 ⟨rfl,rfl⟩
  rw [HP.out]
  go_wp2
  go_quiet (fail)
  have hB:=below_keep (drew_n (w.alloc (.cells #[.int .i64 1,.int .i64 lo,.int .i64 hi,.int .i64 us,fv] 175)) nq) (al1 ..)
  generalize (w.alloc (.cells #[.int .i64 1,.int .i64 lo,.int .i64 hi,.int .i64 us,fv] 175)).drewN nq=wn at hB ⊢
  go_wp2
  go_ret2
  exact ⟨rfl,hB⟩
set_option maxRecDepth 100000 in
set_option maxHeartbeats 4000000 in
theorem number_1000 (lo hi us:Int)(fv:Value)(s:ByteArray)(n:Int)(b:Bool)(w:World)(hs:s.size≤maxLen)(h:Hid (numC 1000 lo hi s.data.toList=(n,b))) :
    Calls Tryz.prog 100 #[.agg #[.int .i64 1000,.int .i64 lo,.int .i64 hi,.int .i64 us,fv],.string s] w fun e w'=>e=.returned (.tuple #[.int .i64 n,.bool b])∧Below w.heap.size w w':=by
 have hs':s.size≤9223372036854775807:=by unfold maxLen at hs;omega
 have hr:=h.out
 clear h hs
 unfold numC at hr
 have hrg:=prL_range s.data.toList
 obtain ⟨pn,pe,hpe⟩:∃ a c,prL s.data.toList=(a,c):=⟨_,_,rfl⟩
 have HP:Hid (parseV s.data.toList=.tuple #[.int .i64 pn,.int .i64 pe]):=Lh (by rw [parseV_pr,hpe])
 rw [hpe] at hr hrg
 simp only at hr hrg
 clear hpe
 by_cases h0:pe=0
 case neg =>
  rw [if_pos (Or.inl h0)] at hr
  cases hr
  have b0:(pe != 0)=true:=by rw [bne_iff_ne];exact h0
  clear hrg h0
  go_enter Tryz.func100,Tryz.ntmps100
  go_wp2_with fail
  refine (parse_any _ _ hs').mono ?_
  rintro e w1 ⟨rfl,rfl⟩
  rw [HP.out]
  go_wp2
  go_ret2
  exact ⟨rfl,al1 ..⟩
 have hg:=hrg h0
 subst h0
 clear hrg
 have m1:(pn.tmod 1000).natAbs=pn.natAbs % 1000:=by rw [Int.natAbs_tmod];rfl
 have m2:(pn.tdiv 1000).natAbs=pn.natAbs / 1000:=by rw [Int.natAbs_tdiv];rfl
 have t1:IntKind.i64.wrap (pn.tmod 1000)=pn.tmod 1000:=IntWalk.i64_in _ (by omega)
 have t2:IntKind.i64.wrap (pn.tdiv 1000)=pn.tdiv 1000:=IntWalk.i64_in _ (by omega)
 by_cases h4:pn.tmod 1000=0
 case neg =>
  rw [if_pos (Or.inr (Or.inr h4))] at hr
  cases hr
  have b4:(pn.tmod 1000 != 0)=true:=by rw [bne_iff_ne];exact h4
  clear h4 hg m1 m2
  go_enter Tryz.func100,Tryz.ntmps100
  go_wp2_with fail
  refine (parse_any _ _ hs').mono ?_
  rintro e w1 ⟨rfl,rfl⟩
  rw [HP.out]
  go_wp2
  go_ret2
  exact ⟨rfl,al1 ..⟩
 rw [if_neg (by simp [h4])] at hr
 have b4:(pn.tmod 1000 != 0)=false:=by rw [h4];rfl
 have e1:=(Prod.mk.inj hr).1
 have e2:=(Prod.mk.inj hr).2
 subst e1
 subst e2
 clear hr h4 hg m1 m2
 obtain ⟨q1,hq1⟩:∃ q,decide (lo≤pn.tdiv 1000)=q:=⟨_,rfl⟩
 obtain ⟨q2,hq2⟩:∃ q,decide (pn.tdiv 1000≤hi)=q:=⟨_,rfl⟩
 rw [hq1,hq2]
 cases q1
 ·go_enter Tryz.func100,Tryz.ntmps100
  go_wp2_with fail
  refine (parse_any _ _ hs').mono ?_
  rintro e w1 ⟨rfl,rfl⟩
  rw [HP.out]
  go_wp2
  go_quiet (fail)
  have hB:=below_keep (drew_n (w.alloc (.cells #[.int .i64 1000,.int .i64 lo,.int .i64 hi,.int .i64 us,fv] 175)) nq) (al1 ..)
  generalize (w.alloc (.cells #[.int .i64 1000,.int .i64 lo,.int .i64 hi,.int .i64 us,fv] 175)).drewN nq=wn at hB ⊢
  go_wp2
  go_ret2
  exact ⟨rfl,hB⟩
 ·go_enter Tryz.func100,Tryz.ntmps100
  go_wp2_with fail
  refine (parse_any _ _ hs').mono ?_
  rintro e w1 ⟨rfl,rfl⟩
  rw [HP.out]
  go_wp2
  go_quiet (fail)
  have hB:=below_keep (drew_n (w.alloc (.cells #[.int .i64 1000,.int .i64 lo,.int .i64 hi,.int .i64 us,fv] 175)) nq) (al1 ..)
  generalize (w.alloc (.cells #[.int .i64 1000,.int .i64 lo,.int .i64 hi,.int .i64 us,fv] 175)).drewN nq=wn at hB ⊢
  go_wp2
  go_ret2
  exact ⟨rfl,hB⟩
theorem number_of (u lo hi us:Int)(fv:Value)(s:ByteArray)(n:Int)(b:Bool)(w:World)(hs:s.size≤maxLen)(hu:u=0∨u=1∨u=1000)(h:Hid (numC u lo hi s.data.toList=(n,b))) :
    Calls Tryz.prog 100 #[.agg #[.int .i64 u,.int .i64 lo,.int .i64 hi,.int .i64 us,fv],.string s] w fun e w'=>e=.returned (.tuple #[.int .i64 n,.bool b])∧Below w.heap.size w w':=by
 rcases hu with rfl | rfl | rfl
 ·exact number_0 lo hi us fv s n b w hs h
 ·exact number_1 lo hi us fv s n b w hs h
 ·exact number_1000 lo hi us fv s n b w hs h
end Go.Proofs.YtgmidodmmlmmeaaGreatDoor.att
namespace Go.Proofs.YtgmidodmmlmmeaaGreatDoor.att
open Go.RowKit
def Kp3 (m c B:Nat)(X Y:World):Prop:=Below m X Y∧(∀ k,c≤k→k < c+3→Y.heap[k]?=X.heap[k]?)∧Y.heap[B]?=X.heap[B]?∧Y.heap[B+1]?=X.heap[B+1]?
theorem Kp3.t {m c B:Nat}{X Y Z:World}(h:Kp3 m c B X Y)(k:Kp3 m c B Y Z):Kp3 m c B X Z:=⟨h.1.trans k.1,fun i h1 h2=>(k.2.1 i h1 h2).trans (h.2.1 i h1 h2),k.2.2.1.trans h.2.2.1,k.2.2.2.trans h.2.2.2⟩
theorem Kp3.of {m c B:Nat}{X Y:World}(hm:m≤X.heap.size)(hc:c+3≤X.heap.size)(hB:B+1 < X.heap.size)(h:Below X.heap.size X Y):Kp3 m c B X Y :=
 ⟨h.mono hm,fun k _ hk=>h.block k (by omega),h.block B (by omega),h.block (B+1) hB⟩
theorem Kp3.set {m c B b o:Nat}{X:World}{v:Value}(hm:m≤b)(h1:b < c∨c+3≤b)(h2:b≠B)(h3:b≠B+1):Kp3 m c B X (X.setCell ⟨b,o,none⟩ v) :=
 ⟨(Below.refl m X).setCell (p:=⟨b,o,none⟩) hm v,fun k _ _=>Below.heap_setCell _ _ _ _ (by simp;omega),Below.heap_setCell _ _ _ _ (fun e=>h2 e.symm),Below.heap_setCell _ _ _ _ (fun e=>h3 e.symm)⟩
theorem Kp3.grown {m c B:Nat}{X Y:World}{row:Option Nat}(hg:X.grownBy Y row)(hX:m≤X.heap.size)(hc:c+3≤X.heap.size)(hB:B+1 < X.heap.size)(hr:∀ r,row=some r→m≤r∧(r < c∨c+3≤r)∧r≠B∧r≠B+1):Kp3 m c B X Y :=
 ⟨(Below.refl m X).grown hg hX (fun k e=>(hr k e).1),fun k _ hk=>hg.block k (by omega) (fun e=>by have:=(hr k e.symm).2.1;omega),hg.block B (by omega) (fun e=>(hr B e.symm).2.2.1 rfl),hg.block (B+1) hB (fun e=>(hr (B+1) e.symm).2.2.2 rfl)⟩
def KpC (m c:Nat)(X Y:World):Prop:=Below m X Y∧∀ k,c≤k→k < c+3→Y.heap[k]?=X.heap[k]?
theorem grown_of {X Y:World}(h:Below X.heap.size X Y):X.grownBy Y none:=⟨h.os,h.tape,h.output,h.size,fun k hk _=>h.block k hk⟩
def SeqC {α:Type}(P:Program)(g:Nat)(lb:Array Value)(encs:α→Array Value)(m c:Nat)(tb:Option Nat)(xs:List α)(w:World):Prop :=
 ∀ (n l:Nat) (J Jx:List α→World→Prop) (W:World),Below w.heap.size w W →
  (∀ pre X Y row,J pre X→X.grownBy Y row→(∀ r,row=some r→tb=some r)→J pre Y) →
  (∀ k pre x X,J pre X→pre ++ [x] <+: xs→YieldAt Fence.wide k P l (encs x) X fun e Y =>
   (e=.returned (.bool true)∧J (pre ++ [x]) Y∧KpC m c X Y)∨(e=.returned (.bool false)∧Jx (pre ++ [x]) Y)) →
  J [] W →
  CallsIn Fence.wide n P g (#[.func (.yield l) #[] #[]] ++ lb) W fun e W'=>(∃ v,e=.returned v)∧(J xs W'∨∃ pre,pre <+: xs∧Jx pre W')
def postC {α:Type}(m c B:Nat)(I Ix:List α→World→Prop)(xs:List α)(W:World):Exit→Act→World→Prop
 | .normal,_,W'=>Kp3 m c B W W'∧I xs W'
 | .ret,_,W'=>W'.heap[B]?=W.heap[B]?∧W'.heap[B+1]?=W.heap[B+1]?∧Ix xs W'
 | _,_,_=>False
theorem range_c {P:Program}{n:Nat}{α:Type}{g:Operand}{ps:Array Tmp}{assign body:Code}{Q:Exit→Act→World→Prop}{a:Act}{w:World}{gf:Nat}{lb:Array Value}(hg:a.eval g=.func (.func gf) #[] lb)
    (eg:∀ args w,(callFunc gf args).run P w=.ok (.enter gf args) w) {encs:α→Array Value} {m c:Nat} {tb:Option Nat} {xs:List α} (hseq:SeqC P gf lb encs m c tb xs w) (htb:∀ r,tb=some r→r < w.heap.size) (hm:m≤w.heap.size) (hc:c+3≤w.heap.size) (hps:∀ x,(encs x).size=ps.size)
    (I Ix:List α→World→Prop) (hI:∀ pre X Y row,I pre X→X.grownBy Y row→(∀ r,row=some r→tb=some r∨r=w.heap.size+1)→I pre Y)
    (hIx:∀ pre X Y row,Ix pre X→X.grownBy Y row→(∀ r,row=some r→r=w.heap.size+1)→Ix pre Y) (h0:I [] w) (Ax:α→Act→World→Prop)
    (hAx:∀ x a' X Y,Ax x a' X→X.grownBy Y (some (w.heap.size+1))→Ax x a' Y)
    (hassign:∀ (k l:Nat) (pre:List α) (x:α) (W:World) (K:Act→World→Prop),I pre W→w.heap.size+2≤W.heap.size→(∀ a' W',Kp3 m c w.heap.size W W'→I pre W'→Ax x a' W'→K a' W') →
     assign.wpIn (Fence.wide.inRound l) k P (Exit.then K (fun _ _ _=>False)) { tmps:=(ps.zip (encs x)).foldl (fun t (p,v)=>t.setIfInBounds p v) a.tmps,defers:=[] } W)
    (hbody:∀ (k l:Nat) (pre:List α) (x:α) (a':Act) (W:World),I pre W→w.heap.size+2≤W.heap.size→Ax x a' W→pre ++ [x] <+: xs →
     body.wpIn (Fence.wide.inRound l) k P (postC m c w.heap.size I Ix (pre ++ [x]) W) a' W)
    (hdone:∀ (W:World),I xs W→W.heap[w.heap.size]?=some (.deferred (some []))→Q .normal { a with defers:={ target:=.collected w.heap.size,args:=#[] } :: a.defers } W)
    (hstop:∀ (pre:List α) (W:World),pre <+: xs→Ix pre W→W.heap[w.heap.size]?=some (.deferred (some []))→Code.ret.wpIn Fence.wide n P Q { a with defers:={ target:=.collected w.heap.size,args:=#[] } :: a.defers } W) :
    (Code.rangeFunc g ps assign body).wpIn Fence.wide n P Q a w:=by
 refine wpIn_rangeFunc fun fn hfn=>?_
 obtain ⟨rec,hrec⟩:∃ rec:LoopState→Option Code→Loop,rec=fun st pe=>{ state:=st,pending:=pe,fn,tmps:=a.tmps,params:=ps,assign,body,defers:=w.heap.size }:=⟨_,rfl⟩
 obtain ⟨W1,hW1⟩:∃ W1,(w.alloc (.deferred (some []))).alloc (.loop (rec .ready none))=W1:=⟨_,rfl⟩
 have hb1:Below w.heap.size w W1:=by rw [← hW1];exact al2 ..
 have hz1:W1.heap.size=w.heap.size+2:=by rw [← hW1];simp
 have hL1:W1.heap[w.heap.size+1]?=some (.loop (rec .ready none)):=by
  rw [← hW1];have:=World.alloc_heap_new (w.alloc (.deferred (some []))) (.loop (rec .ready none));rwa [World.size_alloc] at this
 have hK1:W1.heap[w.heap.size]?=some (.deferred (some [])):=by
  rw [← hW1];exact (Below.heap_alloc _ _ _ (by simp)).trans (World.alloc_heap_new w _)
 have hI1:I [] W1:=hI _ _ _ none h0 (grown_of hb1) (fun r e=>by cases e)
 refine ⟨w.heap.size+1,[{ target:=.collected w.heap.size,args:=#[] }],W1,{ target:=.fn (.func gf) lb,args:=#[.func (.yield (w.heap.size+1)) #[] #[]] },W1,gf,
  #[.func (.yield (w.heap.size + 1)) #[] #[]] ++ lb, W1, ?_, ?_, fun _ _ => trivial, ?_, fun h => (by cases h), ?_⟩
 ·rw [← hW1,hrec];exact run_enterLoop_outer _ _ _ _ _
 ·simp only [resolve,hg];simp [go_sem]
 ·simp [invoke,go_sem,eg]
 obtain ⟨J,hJ⟩:∃ J:List α→World→Prop,J=fun pre X=>I pre X∧X.heap[w.heap.size+1]?=some (.loop (rec .ready none))∧X.heap[w.heap.size]?=some (.deferred (some [])):=⟨_,rfl⟩
 obtain ⟨Jx,hJx⟩:∃ Jx:List α→World→Prop,Jx=fun pre X=>Ix pre X∧X.heap[w.heap.size+1]?=some (.loop (rec .done (some .ret)))∧X.heap[w.heap.size]?=some (.deferred (some [])):=⟨_,rfl⟩
 refine (hseq (n - 1) (w.heap.size+1) J Jx W1 hb1 ?_ ?_ (by rw [hJ];exact ⟨hI1,hL1,hK1⟩)).mono ?_
 ·intro pre X Y row h hgr hr
  rw [hJ] at h ⊢
  have hlt:w.heap.size+1 < X.heap.size:=(Array.getElem?_eq_some_iff.1 h.2.1).1
  exact ⟨hI pre X Y row h.1 hgr (fun r e=>Or.inl (hr r e)),
   (hgr.block _ (by omega) (fun e=>by have:=htb _ (hr _ e.symm);omega)).trans h.2.1,(hgr.block _ (by omega) (fun e=>by have:=htb _ (hr _ e.symm);omega)).trans h.2.2⟩
 · -- a round
  intro k pre x X h hlen
  rw [hJ] at h
  obtain ⟨hi,hl,hd⟩:=h
  have hlt:w.heap.size+1 < X.heap.size:=(Array.getElem?_eq_some_iff.1 hl).1
  have hy:=run_yield (P:=P) (args:=encs x) hl (by rw [hrec];exact hps x)
  rw [hrec] at hy
  refine ⟨fn,_,assign,body,hy,roundIn_of_wpIn hfn (hassign k _ pre x X _ hi (by omega) fun a' X2 hk2 hi2 ha2=>?_)⟩
  have hl2:=hk2.2.2.2.trans hl
  have hd2:=hk2.2.2.1.trans hd
  have hz2:=hk2.1.size
  obtain ⟨X3,hX3⟩:∃ X3,X3=X2.putObj (w.heap.size+1) (.loop { rec .ready none with state:=.busy }):=⟨_,rfl⟩
  have hbr:(Instr.beginRound (w.heap.size+1)).run P X2=.ok () X3:=by rw [hX3];exact run_beginRound hl2 (by rw [hrec])
  have hg3:X2.grownBy X3 (some (w.heap.size+1)):=by rw [hX3];exact grownBy_putObj' _ _ _
  have hl3:X3.heap[w.heap.size+1]?=some (.loop { rec .ready none with state:=.busy }):=by rw [hX3];exact World.putObj_heap_same (by omega)
  have hd3:X3.heap[w.heap.size]?=some (.deferred (some [])):=by rw [hX3];exact (World.putObj_heap_other (by omega)).trans hd2
  have hi3:I pre X3:=hI _ _ _ _ hi2 hg3 (fun r e=>by cases e;exact Or.inr rfl)
  have hk3:KpC m c X2 X3:=⟨(Below.refl m X2).grown hg3 (by omega) (fun k e=>by cases e;omega),fun i _ _=>hg3.block i (by omega) (fun e=>by cases e;omega)⟩
  have ha3:Ax x a' X3:=hAx _ _ _ _ ha2 hg3
  have hz3:=hk3.1.size
  clear hX3
  refine ⟨_,hbr,?_⟩
  refine wpIn_mono (hbody k _ pre x a' _ hi3 (by omega) ha3 hlen) ?_
  have fin:∀ (jump:Option Code) (X4:World),X4.heap[w.heap.size+1]?=X3.heap[w.heap.size+1]?→X4.heap[w.heap.size]?=X3.heap[w.heap.size]?→∃ X5,X4.grownBy X5 (some (w.heap.size+1)) ∧
      (Instr.endRound (w.heap.size+1) jump).run P X4=.ok (.bool jump.isNone) X5∧X5.heap[w.heap.size+1]?=some (.loop (rec (if jump.isNone then .ready else .done) jump))∧X5.heap[w.heap.size]?=some (.deferred (some [])):=by
   intro jump X4 e1 e0
   have hl4:=e1.trans hl3
   have hlt4:=(Array.getElem?_eq_some_iff.1 hl4).1
   have he:=run_endRound (P:=P) jump hl4
   rw [hrec] at he
   exact ⟨_,grownBy_putObj' _ _ _,he,by rw [World.putObj_heap_same hlt4,hrec],(World.putObj_heap_other (by omega)).trans (e0.trans hd3)⟩
  intro e a4 X4 hp
  cases e with
  | normal =>
   obtain ⟨hk4,hi4⟩:=hp
   obtain ⟨X5,hg5,he,hl5,hd5⟩:=fin none X4 hk4.2.2.2 hk4.2.2.1
   have hz4:=hk4.1.size
   have hi5:I (pre ++ [x]) X5:=hI _ _ _ _ hi4 hg5 (fun r e=>by cases e;exact Or.inr rfl)
   have hk5:KpC m c X4 X5:=⟨(Below.refl m X4).grown hg5 (by omega) (fun k e=>by cases e;omega),fun i _ _=>hg5.block i (by omega) (fun e=>by cases e;omega)⟩
   refine ⟨_,_,he,Or.inl ⟨rfl,?_,((hk2.1.trans hk3.1).trans hk4.1).trans hk5.1,fun i h1 h2=>(hk5.2 i h1 h2).trans ((hk4.2.1 i h1 h2).trans ((hk3.2 i h1 h2).trans (hk2.2.1 i h1 h2)))⟩⟩
   rw [hJ]
   exact ⟨hi5,hl5,hd5⟩
  | ret =>
   obtain ⟨e0,e1,hi4⟩:=hp
   obtain ⟨X5,hg5,he,hl5,hd5⟩:=fin (some .ret) X4 e1 e0
   refine ⟨_,_,he,Or.inr ⟨rfl,?_⟩⟩
   rw [hJx]
   exact ⟨hIx _ _ _ _ hi4 hg5 (fun r e=>by cases e;rfl),hl5,hd5⟩
  | _=>exact hp.elim
 ·rintro e W2 ⟨⟨v,rfl⟩,h | ⟨pre,hpre,h⟩⟩
  ·rw [hJ] at h
   obtain ⟨hi,hl,hd⟩:=h
   exact ⟨none,_,by have:=run_endLoop (P:=P) hl (by rw [hrec];simp);rw [hrec] at this;exact this,
    hdone _ (hI _ _ _ _ hi (grownBy_putObj' _ _ _) (fun r e=>by cases e;exact Or.inr rfl)) ((World.putObj_heap_other (by omega)).trans hd)⟩
  ·rw [hJx] at h
   obtain ⟨hi,hl,hd⟩:=h
   exact ⟨some .ret,_,by have:=run_endLoop (P:=P) hl (by rw [hrec];simp);rw [hrec] at this;exact this,
    hstop pre _ hpre (hIx _ _ _ _ hi (grownBy_putObj' _ _ _) (fun r e=>by cases e;rfl)) ((World.putObj_heap_other (by omega)).trans hd)⟩
end Go.Proofs.YtgmidodmmlmmeaaGreatDoor.att
