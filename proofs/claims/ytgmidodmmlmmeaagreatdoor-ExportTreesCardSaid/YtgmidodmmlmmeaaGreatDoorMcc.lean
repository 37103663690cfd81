/-
  What value, Mode and Side of the reference return. Condition: texts of at most 20000 bytes.
  What Get of the reference returns. Condition: a list of attributes in memory.
  What put and Merge of the reference return. Condition: lists of at most 100000 attributes.
  What Merge of the reference returns. Condition: lists of at most 20000 attributes.
  What Number of the reference returns. Condition: values of at most 20000 bytes.
  What split of the reference returns: a row of texts. Condition: texts of at most 20000 bytes.
  What Mode and Side of the reference return. No condition.
  Lists of ports in memory, rows of ports that a call makes, and plain facts on a part's first space. No condition.
  What Ports of the reference returns. Condition: texts of at most 20000 bytes.
-/
import Derived.Test.YtgmidodmmlmmeaaGreatDoorMcb
import Derived.Test.YtgmidodmmlmmeaaGreatDoorMag
import Derived.Test.YtgmidodmmlmmeaaGreatDoorMtc
namespace Go.Proofs.YtgmidodmmlmmeaaGreatDoor.att
open Go.RowKit lex tre
set_option maxRecDepth 100000 in
set_option maxHeartbeats 1600000 in
theorem rvalue_of (f lo hi no:Int)(s:ByteArray)(n:Int)(b:Bool)(w:World)(hs:s.size≤20000)(h:Hid (valR ⟨f,lo,hi,no⟩ s.data.toList=(n,b))) :
    Calls Tryz.prog 173 #[.agg #[.int .i64 f,.int .i64 lo,.int .i64 hi,.int .i64 no],.string s] w fun e w'=>e=.returned (.tuple #[.int .i64 n,.bool b])∧Below w.heap.size w w':=by
 have hr:=h.out
 clear h
 unfold valR at hr
 have hrg:=prL_range s.data.toList
 obtain ⟨pn,pe,hpe⟩:∃ a c,prL s.data.toList=(a,c):=⟨_,_,rfl⟩
 have HP:Hid (parseV s.data.toList=.tuple #[.int .i64 pn,.int .i64 pe]):=Lh (by rw [parseV_pr,hpe])
 rw [hpe] at hr hrg
 simp only at hr hrg
 clear hpe
 by_cases h0:pe=0
 case neg =>
  rw [if_pos h0] at hr
  cases hr
  have b0:(pe != 0)=true:=by rw [bne_iff_ne];exact h0
  clear hrg h0
  go_enter Tryz.func173,Tryz.ntmps173
  go_wp2_with fail
  refine (refParse_of _ _ _ hs HP).mono ?_
  rintro e w1 ⟨rfl,rfl⟩
  go_wp2
  go_ret2
  exact ⟨rfl,al1 ..⟩
 rw [if_neg (fun e=>e h0)] at hr
 have hg:=hrg h0
 subst h0
 clear hrg
 by_cases h3:f=3
 case neg =>
  rw [if_neg h3] at hr
  have e1:=(Prod.mk.inj hr).1
  have e2:=(Prod.mk.inj hr).2
  subst e1
  subst e2
  clear hr
  have b3:(f == 3)=false:=by rw [beq_eq_false_iff_ne];exact h3
  obtain ⟨q1,hq1⟩:∃ q,decide (lo≤pn)=q:=⟨_,rfl⟩
  obtain ⟨q2,hq2⟩:∃ q,decide (pn≤hi)=q:=⟨_,rfl⟩
  rw [hq1,hq2]
  clear h3 hg
  cases q1
  ·go_enter Tryz.func173,Tryz.ntmps173
   go_wp2_with fail
   refine (refParse_of _ _ _ hs HP).mono ?_
   rintro e w1 ⟨rfl,rfl⟩
   go_wp2
   go_quiet (fail)
   have hB:=below_keep (drew_n (w.alloc (.cells #[.int .i64 f,.int .i64 lo,.int .i64 hi,.int .i64 no] 241)) nq) (al1 ..)
   generalize (w.alloc (.cells #[.int .i64 f,.int .i64 lo,.int .i64 hi,.int .i64 no] 241)).drewN nq=wn at hB ⊢
   go_wp2
   go_ret2
   exact ⟨rfl,hB⟩
  ·go_enter Tryz.func173,Tryz.ntmps173
   go_wp2_with fail
   refine (refParse_of _ _ _ hs HP).mono ?_
   rintro e w1 ⟨rfl,rfl⟩
   go_wp2
   go_quiet (fail)
   have hB:=below_keep (drew_n (w.alloc (.cells #[.int .i64 f,.int .i64 lo,.int .i64 hi,.int .i64 no] 241)) nq) (al1 ..)
   generalize (w.alloc (.cells #[.int .i64 f,.int .i64 lo,.int .i64 hi,.int .i64 no] 241)).drewN nq=wn at hB ⊢
   go_wp2
   go_ret2
   exact ⟨rfl,hB⟩
 rw [if_pos h3] at hr
 subst h3
 have m1:(pn.tmod 1000).natAbs=pn.natAbs % 1000:=by rw [Int.natAbs_tmod];rfl
 have m2:(pn.tdiv 1000).natAbs=pn.natAbs / 1000:=by rw [Int.natAbs_tdiv];rfl
 have t1:IntKind.i64.wrap (pn.tmod 1000)=pn.tmod 1000:=IntWalk.i64_in _ (by omega)
 have t2:IntKind.i64.wrap (pn.tdiv 1000)=pn.tdiv 1000:=IntWalk.i64_in _ (by omega)
 by_cases h4:pn.tmod 1000=0
 case neg =>
  rw [if_pos h4] at hr
  cases hr
  have b4:(pn.tmod 1000 != 0)=true:=by rw [bne_iff_ne];exact h4
  clear h4 hg m1 m2
  go_enter Tryz.func173,Tryz.ntmps173
  go_wp2_with fail
  refine (refParse_of _ _ _ hs HP).mono ?_
  rintro e w1 ⟨rfl,rfl⟩
  go_wp2
  go_ret2
  exact ⟨rfl,al1 ..⟩
 rw [if_neg (fun e=>e h4)] at hr
 have e1:=(Prod.mk.inj hr).1
 have e2:=(Prod.mk.inj hr).2
 subst e1
 subst e2
 clear hr
 have b4:(pn.tmod 1000 != 0)=false:=by rw [h4];rfl
 obtain ⟨q1,hq1⟩:∃ q,decide (lo≤pn.tdiv 1000)=q:=⟨_,rfl⟩
 obtain ⟨q2,hq2⟩:∃ q,decide (pn.tdiv 1000≤hi)=q:=⟨_,rfl⟩
 rw [hq1,hq2]
 clear h4 hg m1 m2
 cases q1
 ·go_enter Tryz.func173,Tryz.ntmps173
  go_wp2_with fail
  refine (refParse_of _ _ _ hs HP).mono ?_
  rintro e w1 ⟨rfl,rfl⟩
  go_wp2
  go_quiet (fail)
  have hB:=below_keep (drew_n (w.alloc (.cells #[.int .i64 3,.int .i64 lo,.int .i64 hi,.int .i64 no] 241)) nq) (al1 ..)
  generalize (w.alloc (.cells #[.int .i64 3,.int .i64 lo,.int .i64 hi,.int .i64 no] 241)).drewN nq=wn at hB ⊢
  go_wp2
  go_ret2
  exact ⟨rfl,hB⟩
 ·go_enter Tryz.func173,Tryz.ntmps173
  go_wp2_with fail
  refine (refParse_of _ _ _ hs HP).mono ?_
  rintro e w1 ⟨rfl,rfl⟩
  go_wp2
  go_quiet (fail)
  have hB:=below_keep (drew_n (w.alloc (.cells #[.int .i64 3,.int .i64 lo,.int .i64 hi,.int .i64 no] 241)) nq) (al1 ..)
  generalize (w.alloc (.cells #[.int .i64 3,.int .i64 lo,.int .i64 hi,.int .i64 no] 241)).drewN nq=wn at hB ⊢
  go_wp2
  go_ret2
  exact ⟨rfl,hB⟩
theorem bb_list (x:List UInt8):(bb x).toList=x:=by rw [ByteArray.toList_eq]
def Bnd (l:List Pr):Prop:=∀ r∈l,r.1.length≤maxLen∧r.2.length≤maxLen
theorem Bnd.take {l:List Pr}(h:Bnd l)(k:Nat):Bnd (l.take k):=fun r hr=>h r (List.mem_of_mem_take hr)
theorem Bnd.app {l m:List Pr}(h:Bnd l)(k:Bnd m):Bnd (l ++ m):=fun r hr=>(List.mem_append.1 hr).elim (h r) (k r)
theorem blk_free {W:World}{g o:Nat}{t:TypeId}{arr:Array Value}(h:blk W g t arr):W.frozen? ⟨g,o,none⟩=false:=by
 unfold blk at h;simp [World.frozen?,h]
theorem blk_set {W:World}{g o:Nat}{t:TypeId}{arr:Array Value}(h:blk W g t arr)(u:Value):blk (W.setCell ⟨g,o,none⟩ u) g t (arr.setIfInBounds o u):=by
 unfold blk at h ⊢
 unfold World.setCell
 rw [Array.getElem?_modify,if_pos rfl,h]
 rfl
theorem ad0 (b k:Nat):(⟨b,0,none⟩:Addr).add k=⟨b,k,none⟩:=by
 unfold Addr.add;split
 ·subst_vars;rfl
 ·simp
theorem nl_lit (w:World)(l:List (List UInt8))(hl:l.length≤maxLen)(t:TypeId):Nl (w.alloc (.cells (l.map fun x=>.string (bb x)).toArray t)) (.slice (some ⟨w.heap.size,0,none⟩) l.length l.length) l:=by
 refine ⟨_,l.length,rfl,Nat.le_refl _,hl,fun _=>⟨_,rfl,fun i hi=>?_⟩⟩
 have h:=heap_alloc_new w (.cells (l.map fun x=>Value.string (bb x)).toArray t)
 rw [ad0]
 unfold World.cell?
 simp only [h]
 simp [hi]
theorem idx_step (s x:List UInt8)(t:List (List UInt8))(i:Int):idxA s (x :: t) i=if x=s then i else idxA s t (i+1):=rfl
set_option maxRecDepth 100000 in
set_option maxHeartbeats 4000000 in
theorem rside_of (s:ByteArray)(n:Int)(w:World)(hr:Hid (idxA s.data.toList sides 0=n)) :
    Calls Tryz.prog 225 #[.string s] w fun e w'=>e=.returned (.int .i64 n)∧Below w.heap.size w w':=by
 have hlit:=nl_lit w sides (by decide) 9
 have hn:sides.length=4:=rfl
 have HL:Hid (Nl (w.alloc (.cells #[.string ⟨#[116,111,112]⟩,.string ⟨#[114,105,103,104,116]⟩,.string ⟨#[98,111,116,116,111,109]⟩,.string ⟨#[108,101,102,116]⟩] 9)) (.slice (some ⟨w.heap.size,0,none⟩) 4 4) sides):=Lh hlit
 have HB:=Lh (al1 w (.cells #[.string ⟨#[116,111,112]⟩,.string ⟨#[114,105,103,104,116]⟩,.string ⟨#[98,111,116,116,111,109]⟩,.string ⟨#[108,101,102,116]⟩] 9))
 have HN:=Lh hn
 clear hlit hn
 go_enter Tryz.func225,Tryz.ntmps225
 go_wp2_with fail
 generalize w.alloc (.cells #[.string ⟨#[116,111,112]⟩,.string ⟨#[114,105,103,104,116]⟩,.string ⟨#[98,111,116,116,111,109]⟩,.string ⟨#[108,101,102,116]⟩] 9)=w0 at HL HB ⊢
 go_loop [4] (fun iv=>∃ k:Nat,iv=.int .i64 k∧k≤4∧idxA s.data.toList (sides.drop k) k=n) (fun iv=>4 - (intOf iv).toNat)
 case atStart=>exact ⟨0,rfl,Nat.zero_le _,hr.out⟩
 case round =>
  obtain ⟨k,rfl,hk,hfe⟩:=hrel
  by_cases hlt:k < 4
  ·obtain ⟨A,e,hcell⟩:=HL.out.get (i:=k) (by rw [HN.out];exact hlt)
   cases e
   rw [List.drop_eq_getElem_cons (by rw [HN.out];exact hlt),idx_step] at hfe
   obtain ⟨y,hy⟩:∃ y,sides[k]'(by rw [HN.out];exact hlt)=y:=⟨_,rfl⟩
   rw [hy] at hfe hcell
   rw [ad0] at hcell
   have i0:(0:Int)≤(k:Int):=by omega
   have i1:(k:Int) < 4:=by omega
   obtain ⟨Y,hY⟩:∃ Y,bb y=Y:=⟨_,rfl⟩
   rw [hY] at hcell
   have hY2:Y.data.toList=y:=by rw [← hY]
   by_cases hxy:y=s.data.toList
   ·have b1:(Y.toList == s.toList)=true:=by rw [ByteArray.toList_eq,ByteArray.toList_eq,hY2,beq_iff_eq];exact hxy
    rw [if_pos hxy] at hfe
    subst hfe
    clear hy hY hY2 hxy HL
    go_wp2
    go_ret
    exact ⟨rfl,HB.out⟩
   ·have b1:(Y.toList == s.toList)=false:=by rw [ByteArray.toList_eq,ByteArray.toList_eq,hY2,beq_eq_false_iff_ne];exact hxy
    rw [if_neg hxy] at hfe
    have HF:=Lh hfe
    clear hy hY hY2 hxy hfe
    go_wp2
    go_round
    case rel=>exact ⟨k+1,by go_num,by omega,HF.out⟩
    case measure=>simp [intOf];omega
  ·obtain rfl:k=4:=by omega
   have he:(-1:Int)=n:=hfe
   subst he
   go_wp2
   go_ret
   exact ⟨rfl,HB.out⟩
abbrev Pt:=List UInt8 × Int
def gapN (s:List UInt8):Nat:=(s.takeWhile (·≠32)).length
theorem gap_le (s:List UInt8):gapN s≤s.length:=takeWhile_le _ s
theorem own_keep {w w':World}{B z n:Nat}{t:TypeId}{v:Value}{xs:List Value}(h:w.ownsRow B t z v n xs)(hb:Below w.heap.size w w'):w'.ownsRow B t z v n xs:=by
 obtain ⟨h1,h2⟩:=h
 refine ⟨h1,h2.imp id ?_⟩
 rintro ⟨g,cap,cur,rfl,hg,hc,h3⟩
 have hlt:g < w.heap.size:=by
  rcases Nat.lt_or_ge g w.heap.size with h | h
  ·exact h
  ·rw [Array.getElem?_eq_none (by omega)] at hc;cases hc
 exact ⟨g,cap,cur,rfl,hg,by rw [hb.block g hlt];exact hc,h3⟩
end Go.Proofs.YtgmidodmmlmmeaaGreatDoor.att
