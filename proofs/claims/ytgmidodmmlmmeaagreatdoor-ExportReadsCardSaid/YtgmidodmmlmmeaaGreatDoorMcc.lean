/-
  What value, Mode and Side of the reference return. Condition: texts of at most 20000 bytes.
  What Get of the reference returns. Condition: a list of attributes in memory.
  What put and Merge of the reference return. Condition: lists of at most 100000 attributes.
  What Merge of the reference returns. Condition: lists of at most 20000 attributes.
  What Number of the reference returns. Condition: values of at most 20000 bytes.
  What split of the reference returns: a row of texts. Condition: texts of at most 20000 bytes.
  What Mode and Side of the reference return. No condition.
  Lists of ports in memory, rows of ports that a call makes, and plain facts on a part's first space. No condition.
  What Ports of the reference returns. Condition: texts of at most 20000 bytes.
  What Check of the reference returns. Condition: values of at most 20000 bytes.
  What Check and CheckAll of the reference return. Condition: values of at most 20000 bytes.
  What few, same and ports of the statements of layer 10 return. No condition.
  What is asked of the code of layer 10: each exported function answers as its plain function says. The statements' walks take it as a premise; a text of its own proves it. No condition.
  What side and isMode of the landed code answer. No condition.
-/
import Derived.Test.YtgmidodmmlmmeaaGreatDoorMcb
import Derived.Test.YtgmidodmmlmmeaaGreatDoorMag
import Derived.Test.YtgmidodmmlmmeaaGreatDoorMtb
namespace Go.Proofs.YtgmidodmmlmmeaaGreatDoor.att
open Go.RowKit lex tre
theorem bb_list (x:List UInt8):(bb x).toList=x:=by rw [ByteArray.toList_eq]
def Bnd (l:List Pr):Prop:=∀ r∈l,r.1.length≤maxLen∧r.2.length≤maxLen
theorem Bnd.snoc {l:List Pr}{a:Pr}(h:Bnd l)(ha:a.1.length≤maxLen∧a.2.length≤maxLen):Bnd (l ++ [a]):=fun r hr=>by
 rcases List.mem_append.1 hr with hr | hr
 ·exact h r hr
 ·rw [List.mem_singleton.1 hr];exact ha
theorem Bnd.take {l:List Pr}(h:Bnd l)(k:Nat):Bnd (l.take k):=fun r hr=>h r (List.mem_of_mem_take hr)
theorem Bnd.app {l m:List Pr}(h:Bnd l)(k:Bnd m):Bnd (l ++ m):=fun r hr=>(List.mem_append.1 hr).elim (h r) (k r)
theorem blk_free {W:World}{g o:Nat}{t:TypeId}{arr:Array Value}(h:blk W g t arr):W.frozen? ⟨g,o,none⟩=false:=by
 unfold blk at h;simp [World.frozen?,h]
theorem blk_set {W:World}{g o:Nat}{t:TypeId}{arr:Array Value}(h:blk W g t arr)(u:Value):blk (W.setCell ⟨g,o,none⟩ u) g t (arr.setIfInBounds o u):=by
 unfold blk at h ⊢
 unfold World.setCell
 rw [Array.getElem?_modify,if_pos rfl,h]
 rfl
theorem bl_set {n g o:Nat}{W w:World}{v:Value}(hg:n≤g)(h:Below n W w):Below n W (w.setCell ⟨g,o,none⟩ v):=h.setCell hg _
abbrev Pt:=List UInt8 × Int
def gapN (s:List UInt8):Nat:=(s.takeWhile (·≠32)).length
theorem gap_le (s:List UInt8):gapN s≤s.length:=takeWhile_le _ s
theorem own_keep {w w':World}{B z n:Nat}{t:TypeId}{v:Value}{xs:List Value}(h:w.ownsRow B t z v n xs)(hb:Below w.heap.size w w'):w'.ownsRow B t z v n xs:=by
 obtain ⟨h1,h2⟩:=h
 refine ⟨h1,h2.imp id ?_⟩
 rintro ⟨g,cap,cur,rfl,hg,hc,h3⟩
 have hlt:g < w.heap.size:=by
  rcases Nat.lt_or_ge g w.heap.size with h | h
  ·exact h
  ·rw [Array.getElem?_eq_none (by omega)] at hc;cases hc
 exact ⟨g,cap,cur,rfl,hg,by rw [hb.block g hlt];exact hc,h3⟩
def Small (l:List Pr):Prop:=∀ r∈l,r.1.length≤1000∧r.2.length≤1000
def Mx (w:World):Prop:=∃ m:Int,w.cell? ⟨3,0,none⟩=some (.int .i64 m)
theorem Mx.keep {w w1:World}(h:Mx w)(hb:Below w.heap.size w w1):Mx w1:=by
 obtain ⟨m,hm⟩:=h
 exact ⟨m,by rw [hb.cell (p:=⟨3,0,none⟩) (World.block_lt_of_cell? w _ hm)];exact hm⟩
def sideC (s:List UInt8):Int × Bool:=if sideL s < 0 then (0,false) else (sideL s,true)
set_option maxHeartbeats 2000000 in
theorem side_of (s:ByteArray)(n:Int)(b:Bool)(w:World)(h:Hid (sideC s.data.toList=(n,b))) :
    Calls Tryz.prog 218 #[.string s] w fun e w'=>e=.returned (.tuple #[.int .i64 n,.bool b])∧w=w':=by
 by_cases h0:s.data.toList=[116,111,112]
 ·have e0:=str_yes h0
  obtain ⟨rfl,rfl⟩:n=0∧b=true:=by
   have q:=h.out
   rw [h0,show sideC [116,111,112]=(0,true) by decide] at q
   cases q;exact ⟨rfl,rfl⟩
  clear h h0
  go_enter Tryz.func218,Tryz.ntmps218
  go_wp2
  go_ret2
  exact ⟨rfl,rfl⟩
 have e0:=str_no h0
 by_cases h1:s.data.toList=[114,105,103,104,116]
 ·have e1:=str_yes h1
  obtain ⟨rfl,rfl⟩:n=1∧b=true:=by
   have q:=h.out
   rw [h1,show sideC [114,105,103,104,116]=(1,true) by decide] at q
   cases q;exact ⟨rfl,rfl⟩
  clear h h0 h1
  go_enter Tryz.func218,Tryz.ntmps218
  go_wp2
  go_ret2
  exact ⟨rfl,rfl⟩
 have e1:=str_no h1
 by_cases h2:s.data.toList=[98,111,116,116,111,109]
 ·have e2:=str_yes h2
  obtain ⟨rfl,rfl⟩:n=2∧b=true:=by
   have q:=h.out
   rw [h2,show sideC [98,111,116,116,111,109]=(2,true) by decide] at q
   cases q;exact ⟨rfl,rfl⟩
  clear h h0 h1 h2
  go_enter Tryz.func218,Tryz.ntmps218
  go_wp2
  go_ret2
  exact ⟨rfl,rfl⟩
 have e2:=str_no h2
 by_cases h3:s.data.toList=[108,101,102,116]
 ·have e3:=str_yes h3
  obtain ⟨rfl,rfl⟩:n=3∧b=true:=by
   have q:=h.out
   rw [h3,show sideC [108,101,102,116]=(3,true) by decide] at q
   cases q;exact ⟨rfl,rfl⟩
  clear h h0 h1 h2 h3
  go_enter Tryz.func218,Tryz.ntmps218
  go_wp2
  go_ret2
  exact ⟨rfl,rfl⟩
 have e3:=str_no h3
 obtain ⟨rfl,rfl⟩:n=0∧b=false:=by
  have q:=h.out
  have q3:sideL s.data.toList=-1:=by
   unfold sideL sides
   simp only [idxA]
   rw [if_neg (fun e=>h0 e.symm),if_neg (fun e=>h1 e.symm),if_neg (fun e=>h2 e.symm),if_neg (fun e=>h3 e.symm)]
  have q2:sideC s.data.toList=(0,false):=by
   unfold sideC
   rw [if_pos (by rw [q3];decide)]
  rw [q2] at q
  cases q;exact ⟨rfl,rfl⟩
 clear h h0 h1 h2 h3
 go_enter Tryz.func218,Tryz.ntmps218
 go_wp2
 go_ret2
 exact ⟨rfl,rfl⟩
end Go.Proofs.YtgmidodmmlmmeaaGreatDoor.att
