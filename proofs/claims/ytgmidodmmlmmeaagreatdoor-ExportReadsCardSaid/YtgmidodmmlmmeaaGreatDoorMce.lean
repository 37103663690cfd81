/-
  What Number of the landed code answers. Condition: a list's length, a text's length.
  The library's slices.Grow at attributes, maps.Keys at a map from strings to strings, slices.Sorted at strings. Condition: lengths.
-/
import Derived.Test.YtgmidodmmlmmeaaGreatDoorMcd
import Derived.Laws.EntriesVeiled
import Derived.Shelf.Spec.SlicesGrow
import Derived.Shelf.SlIter.Nil
namespace Go.Proofs.YtgmidodmmlmmeaaGreatDoor.att
open Go.RowKit lex tre
def ruU (x:Ru):Int:=if x.form=2 then 1 else if x.form=3 then 1000 else 0
def ruF (x:Ru):Value:=if x.form=1 then fTx else if x.form=4 then fPo else if x.form=5 then fMo else .nilFunc
def ruC (x:Ru):Value × Bool:=(RV (ruU x) x.low x.high x.normal (ruF x),decide (x.form≠0))
theorem rv_known (k:Int)(c:List UInt8):rvK k c=ruC (knownL k c):=by
 unfold rvK knownL
 by_cases h1:k=1
 ·rw [if_pos h1,if_pos h1]
  unfold rvN ruN
  by_cases a:c=wLabel
  ·rw [if_pos a,if_pos a];rfl
  rw [if_neg a,if_neg a]
  by_cases a:c=wWidth
  ·rw [if_pos a,if_pos a];rfl
  rw [if_neg a,if_neg a]
  by_cases a:c=wHeight
  ·rw [if_pos a,if_pos a];rfl
  rw [if_neg a,if_neg a]
  by_cases a:c=wPorts
  ·rw [if_pos a,if_pos a];rfl
  rw [if_neg a,if_neg a];rfl
 rw [if_neg h1,if_neg h1]
 by_cases h2:k=2
 ·rw [if_pos h2,if_pos h2]
  unfold rvE ruE
  by_cases a:c=wLabel
  ·rw [if_pos a,if_pos a];rfl
  rw [if_neg a,if_neg a]
  by_cases a:c=wWeight
  ·rw [if_pos a,if_pos a];rfl
  rw [if_neg a,if_neg a]
  by_cases a:c=wLen
  ·rw [if_pos a,if_pos a];rfl
  rw [if_neg a,if_neg a];rfl
 rw [if_neg h2,if_neg h2]
 by_cases h4:k=4
 ·rw [if_pos h4,if_pos h4]
  unfold rvS ruS
  by_cases a:c=wMode
  ·rw [if_pos a,if_pos a];rfl
  rw [if_neg a,if_neg a]
  by_cases a:c=wNodesep
  ·rw [if_pos a,if_pos a];rfl
  rw [if_neg a,if_neg a]
  by_cases a:c=wRanksep
  ·rw [if_pos a,if_pos a];rfl
  rw [if_neg a,if_neg a]
  by_cases a:c=wMargin
  ·rw [if_pos a,if_pos a];rfl
  rw [if_neg a,if_neg a]
  by_cases a:c=wRounds
  ·rw [if_pos a,if_pos a];rfl
  rw [if_neg a,if_neg a];rfl
 rw [if_neg h4,if_neg h4];rfl
theorem ruU_of (x:Ru):ruU x=0∨ruU x=1∨ruU x=1000:=by
 unfold ruU
 repeat' split
 all_goals simp
theorem ruF_of (x:Ru):ruF x=.nilFunc∨ruF x=fTx∨ruF x=fPo∨ruF x=fMo:=by
 unfold ruF
 repeat' split
 all_goals simp
theorem known_zero (k:Int)(c:List UInt8)(h2:(knownL k c).form≠2)(h3:(knownL k c).form≠3):(knownL k c).low=0∧(knownL k c).high=0∧(knownL k c).normal=0:=by
 revert h2 h3
 unfold knownL
 split
 ·unfold ruN
  repeat' split
  all_goals simp
 ·split
  ·unfold ruE
   repeat' split
   all_goals simp
  ·split
   ·unfold ruS
    repeat' split
    all_goals simp
   ·simp
theorem known_good {k:Int}(c:List UInt8)(h:goodK k=false):knownL k c=⟨0,0,0,0⟩:=by
 unfold goodK at h
 simp only [Bool.or_eq_false_iff,decide_eq_false_iff_not] at h
 unfold knownL
 rw [if_neg h.1.1,if_neg h.1.2,if_neg h.2]
theorem numC_val (k:Int)(c s:List UInt8):numC (ruU (knownL k c)) (knownL k c).low (knownL k c).high s=if (knownL k c).form≠2∧(knownL k c).form≠3 then (0,false) else valR (knownL k c) s:=by
 generalize knownL k c=x
 unfold numC valR ruU
 by_cases h2:x.form=2
 ·rw [if_pos h2,if_neg (show ¬ (x.form≠2∧x.form≠3) from fun e=>e.1 h2)]
  by_cases h0:(prL s).2≠0
  ·rw [if_pos (Or.inl h0),if_pos h0]
  ·rw [if_neg (show ¬ ((prL s).2≠0∨(1:Int)=0∨(prL s).1.tmod 1≠0) by rintro (e | e | e);exact h0 e;exact absurd e (by decide);exact e (Int.tmod_one _)),if_neg h0,if_neg (show ¬ x.form=3 by omega),Int.tdiv_one]
 ·rw [if_neg h2]
  by_cases h3:x.form=3
  ·rw [if_pos h3,if_neg (show ¬ (x.form≠2∧x.form≠3) from fun e=>e.2 h3)]
   by_cases h0:(prL s).2≠0
   ·rw [if_pos (Or.inl h0),if_pos h0]
   ·rw [if_neg h0,if_pos h3]
    by_cases h4:(prL s).1.tmod 1000≠0
    ·rw [if_pos (Or.inr (Or.inr h4)),if_pos h4]
    ·rw [if_neg (show ¬ ((prL s).2≠0∨(1000:Int)=0∨(prL s).1.tmod 1000≠0) by rintro (e | e | e);exact h0 e;exact absurd e (by decide);exact h4 e),if_neg h4]
  ·rw [if_neg h3,if_pos (show x.form≠2∧x.form≠3 from ⟨h2,h3⟩),if_pos (Or.inr (Or.inl rfl))]
def RuV (w:World)(v:Value)(k:Int):Prop:=(goodK k=true∧∃ b,v=.map (some b)∧RuM w b k)∨(goodK k=false∧v=.map none)
theorem RuV.look {w:World}{v:Value}{k:Int}(h:RuV w v k)(s:ByteArray)(hs:s.size≤maxLen):(Instr.lookup 172 v (.string s) false).run Tryz.prog w=.ok (ruC (knownL k s.data.toList)).1 w:=by
 rcases h with ⟨_,b,rfl,h⟩ | ⟨h,rfl⟩
 ·rw [← rv_known];exact h.look s hs
 ·rw [known_good _ h]
  have:=Maps.look_nil (w:=w) false (Maps.string_keyed Tryz.underlying9) Tryz.underlying172 (rz_zero w) (WideMaps.keyOf_string_mk Tryz.underlying9 hs)
  exact this
theorem rules_of (k:Int)(w:World):Calls Tryz.prog 96 #[.int .i64 k] w fun e w'=>(∃ v,e=.returned v∧RuV w' v k)∧Below w.heap.size w w':=by
 cases h:goodK k with
 | true=>exact (rules_yes k w h).mono fun _ _ ⟨⟨b,h1,h2⟩,h3⟩=>⟨⟨_,h1,Or.inl ⟨h,b,rfl,h2⟩⟩,h3⟩
 | false=>exact (rules_no k w h).mono fun _ _ ⟨h1,h3⟩=>⟨⟨_,h1,Or.inr ⟨h,rfl⟩⟩,h3⟩
def Own5 (W:World)(g:Nat)(u lo hi us:Int)(f:Value):Prop:=W.cell? ⟨g,0,none⟩=some (.int .i64 u)∧W.cell? ⟨g,1,none⟩=some (.int .i64 lo)∧W.cell? ⟨g,2,none⟩=some (.int .i64 hi)∧W.cell? ⟨g,3,none⟩=some (.int .i64 us)∧W.cell? ⟨g,4,none⟩=some f
theorem own5_of {W:World}{g:Nat}{u lo hi us:Int}{f:Value}{t:TypeId}(h:W.heap[g]?=some (.cells #[.int .i64 u,.int .i64 lo,.int .i64 hi,.int .i64 us,f] t (0,0))):Own5 W g u lo hi us f:=by
 refine ⟨?_,?_,?_,?_,?_⟩ <;> simp [World.cell?,h]
theorem Own5.keep {w1 w2:World}{b:Nat}{u lo hi us:Int}{f:Value}(h:Own5 w1 b u lo hi us f)(h2:Below w1.heap.size w1 w2):Own5 w2 b u lo hi us f :=
 ⟨cell_keep h2 h.1,cell_keep h2 h.2.1,cell_keep h2 h.2.2.1,cell_keep h2 h.2.2.2.1,cell_keep h2 h.2.2.2.2⟩
theorem getL_val:∀ {l:List Pr} {k q:List UInt8},getL l k=(q,true)→∃ a∈l,a.2=q
 | [],k,q,h=>by unfold getL at h;cases h
 | a :: t,k,q,h=>by
  unfold getL at h
  split at h
  ·obtain ⟨b,hb,e⟩:=getL_val h
   exact ⟨b,List.mem_cons_of_mem _ hb,e⟩
  ·split at h
   ·cases h;exact ⟨a,List.mem_cons_self,rfl⟩
   ·cases h
theorem prs_bnd2 {w:World}{v:Value}{l:List Pr}(h:Prs w v l):Bnd l:=by
 obtain ⟨ao,cap,rfl,h1,h2,h3⟩:=h
 intro r hr
 obtain ⟨i,hi,rfl⟩:=List.mem_iff_getElem.1 hr
 obtain ⟨A,_,h4⟩:=h3 (by omega)
 exact (h4 i hi).2.2
theorem num_C (k:Int)(l:List Pr)(c:List UInt8):numL k l c=if (getL l c).2=false then (knownL k c).normal else if (numC (ruU (knownL k c)) (knownL k c).low (knownL k c).high (getL l c).1).2 then (numC (ruU (knownL k c)) (knownL k c).low (knownL k c).high (getL l c).1).1 else (knownL k c).normal:=by
 rw [numC_val]
 unfold numL
 by_cases h:(knownL k c).form≠2∧(knownL k c).form≠3
 ·rw [if_pos h,if_pos h,(known_zero k c h.1 h.2).2.2]
  split <;> simp
 ·rw [if_neg h,if_neg h]
set_option maxRecDepth 100000 in
set_option maxHeartbeats 8000000 in
theorem num10_of (k:Int)(v:Value)(l:List Pr)(s:ByteArray)(n:Int)(w:World)(h:Hid (Prs w v l))(hl:l.length≤1000)(hs:s.size≤maxLen)(hn:Hid (numL k l s.data.toList=n)) :
    Calls Tryz.prog 47 #[.int .i64 k,v,.string s] w fun e w'=>e=.returned (.int .i64 n)∧Below w.heap.size w w':=by
 have hb:=prs_bnd2 h.out
 obtain ⟨ao,cap,rfl,_,_,_⟩:=id h.out
 have hn2:=hn.out
 rw [num_C] at hn2
 have hu:=ruU_of (knownL k s.data.toList)
 have hf:=ruF_of (knownL k s.data.toList)
 have HRUN:Hid (∀ W rv,RuV W rv k→(Instr.lookup 172 rv (.string s) false).run Tryz.prog W=.ok (ruC (knownL k s.data.toList)).1 W):=Lh (fun W rv hr=>hr.look s hs)
 unfold ruC RV at HRUN
 generalize knownL k s.data.toList=x at hn2 hu hf HRUN
 obtain ⟨u,hU⟩:∃ u,ruU x=u:=⟨_,rfl⟩
 obtain ⟨f,hF⟩:∃ f,ruF x=f:=⟨_,rfl⟩
 rw [hU] at hn2 hu HRUN
 rw [hF] at hf HRUN
 obtain ⟨q,r,hg⟩:∃ q r,getL l s.data.toList=(q,r):=⟨_,_,rfl⟩
 have HG:=Lh hg
 have hq:r=true→(bb q).size≤maxLen:=by
  intro hr
  subst hr
  obtain ⟨a,ha,hk⟩:=getL_val hg
  rw [bb_len,← hk]
  exact (hb a ha).2
 rw [hg] at hn2
 simp only at hn2
 obtain ⟨m,ok,hm⟩:∃ m ok,numC u x.low x.high q=(m,ok):=⟨_,_,rfl⟩
 have HM:Hid (numC u x.low x.high (bb q).data.toList=(m,ok)):=Lh hm
 rw [hm] at hn2
 simp only at hn2
 obtain ⟨f0,lo,hi,us⟩:=x
 simp only at hn2 HM HRUN
 have HN:=Lh hn2
 have HU:=Lh hu
 have HQ:=Lh hq
 clear hn2 hu hg hm hU hF hb hn hq
 simp only [fTx,fPo,fMo] at hf
 rcases hf with rfl | rfl | rfl | rfl
 all_goals
  go_enter Tryz.func47,Tryz.ntmps47
  go_wp2_with fail
  refine (rules_of k w).mono ?_
  rintro e w1 ⟨⟨rv,rfl,hrv⟩,hb1⟩
  have hrun:=HRUN.out w1 rv hrv
  have HRV:=Lh hrv
  have h1:=Lh (h.out.keep hb1)
  have HB1:=Lh hb1
  clear hrv hb1
  go_wp2_with fail
  generalize hw2:w1.alloc _=w2
  have o5:Own5 w2 w1.heap.size u lo hi us _:=own5_of (by rw [← hw2];exact heap_alloc_new w1 _)
  have hb2:Below w1.heap.size w1 w2:=by rw [← hw2];exact al1 ..
  have h2:=Lh (h1.out.keep hb2)
  have HB2:=Lh (below_keep hb2 HB1.out)
  clear hw2 hb2 hrun h1 HB1 HRV
  refine (get_of _ l s q r w2 h2 hl HG).mono ?_
  rintro e w3 ⟨rfl,hb3⟩
  obtain ⟨c0,c1,c2,c3,c4⟩:=o5.keep hb3
  have HB3:=Lh (below_keep hb3 HB2.out)
  clear hb3 HB2 h2 o5
  cases r
  ·obtain rfl:us=n:=by have:=HN.out;simpa using this
   go_wp2
   go_ret
   exact ⟨rfl,HB3.out⟩
  ·go_wp2_with fail
   refine (number_of u lo hi us _ (bb q) m ok w3 (by simpa using HQ.out) HU.out HM).mono ?_
   rintro e w4 ⟨rfl,hb4⟩
   have d3:=cell_keep hb4 c3
   have HB4:=Lh (below_keep hb4 HB3.out)
   clear hb4 HB3 c0 c1 c2 c3 c4
   cases ok
   ·obtain rfl:us=n:=by have:=HN.out;simpa using this
    go_wp2
    go_ret
    exact ⟨rfl,HB4.out⟩
   ·obtain rfl:m=n:=by have:=HN.out;simpa using this
    go_wp2
    go_ret
    exact ⟨rfl,HB4.out⟩
end Go.Proofs.YtgmidodmmlmmeaaGreatDoor.att
namespace Go.Proofs.YtgmidodmmlmmeaaGreatDoor.att
open Go.RowKit Go.Maps Go.Sort Go.Shelf lex tre
end Go.Proofs.YtgmidodmmlmmeaaGreatDoor.att
