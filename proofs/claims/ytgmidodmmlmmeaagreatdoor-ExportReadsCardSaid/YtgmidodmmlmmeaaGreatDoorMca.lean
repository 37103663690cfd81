/-
  Layer 10 as plain functions on lists of bytes: rules, values, lists of attributes, ports. No function of the program is named here; no condition.
  Layer 10 as plain functions: rules, values, what Check, CheckAll, Number and Ports answer, and P10.7. No function of the program is named here; no condition.
  Rows of attributes that a call makes: what they hold, one attribute more. No condition.
  A map from strings that a call made, its elements as they are: what a look-up gives and what a store leaves. Condition: a text's length.
  The map of rules that the landed code makes for a kind. No condition.
-/
import Derived.Test.YtgmidodmmlmmeaaGreatDoorMta
import Derived.Deep.AppendLies
namespace Go.Proofs.YtgmidodmmlmmeaaGreatDoor.att
open Go.RowKit lex tre
def getL:List Pr→List UInt8→List UInt8 × Bool
 | [],_=>([],false)
 | a :: t,k=>if (getL t k).2 then getL t k else if a.1=k then (a.2,true) else ([],false)
theorem getL_app (a b:List Pr)(k:List UInt8):getL (a ++ b) k=if (getL b k).2 then getL b k else getL a k:=by
 induction a with
 | nil =>
  rw [List.nil_append]
  split
  ·rfl
  ·rename_i h
   have:∀ l:List Pr,(getL l k).2=false→getL l k=([],false):=by
    intro l
    induction l with
    | nil=>intro _;rfl
    | cons x t ih =>
     intro hl
     unfold getL at hl ⊢
     split
     ·rename_i h1;rw [if_pos h1] at hl;rw [h1] at hl;cases hl
     ·rename_i h1
      rw [if_neg h1] at hl
      split
      ·rename_i h2;rw [if_pos h2] at hl;cases hl
      ·rfl
   rw [this b (by simpa using h)];rfl
 | cons x t ih =>
  rw [List.cons_append]
  show (if (getL (t ++ b) k).2 then getL (t ++ b) k else if x.1=k then (x.2,true) else ([],false))=_
  rw [ih]
  by_cases h:(getL b k).2=true
  ·rw [if_pos h,if_pos h,if_pos h]
  ·rw [if_neg h,if_neg h];rfl
theorem getL_snoc (l:List Pr)(a:Pr)(k:List UInt8):getL (l ++ [a]) k=if a.1=k then (a.2,true) else getL l k:=by
 rw [getL_app]
 show (if (if a.1=k then (a.2,true) else (([]:List UInt8),false)).2 then (if a.1=k then (a.2,true) else ([],false)) else getL l k)=_
 split <;> rename_i h <;> split <;> rename_i h1 <;> simp_all
def putA (a:Pr):List Pr→Bool→List Pr
 | [],d=>if d then [] else [a]
 | x :: t,d=>(if d=false∧¬ x.1 < a.1 then [a] else []) ++ ((if x.1≠a.1 then [x] else []) ++ putA a t (d || decide (¬ x.1 < a.1)))
def putL (l:List Pr)(a:Pr):List Pr:=putA a l false
def sortL (l:List Pr):List Pr:=l.foldl putL []
def mergeL (a b:List Pr):List Pr:=sortL (a ++ b)
def wLabel:List UInt8:=[108,97,98,101,108]
def wWidth:List UInt8:=[119,105,100,116,104]
def wHeight:List UInt8:=[104,101,105,103,104,116]
def wPorts:List UInt8:=[112,111,114,116,115]
def wWeight:List UInt8:=[119,101,105,103,104,116]
def wLen:List UInt8:=[108,101,110]
def wMode:List UInt8:=[109,111,100,101]
def wNodesep:List UInt8:=[110,111,100,101,115,101,112]
def wRanksep:List UInt8:=[114,97,110,107,115,101,112]
def wMargin:List UInt8:=[109,97,114,103,105,110]
def wRounds:List UInt8:=[114,111,117,110,100,115]
structure Ru where
 form:Int
 low:Int
 high:Int
 normal:Int
def ruN (c:List UInt8):Ru:=if c=wLabel then ⟨1,0,0,0⟩ else if c=wWidth then ⟨2,1,1048576,20000⟩ else if c=wHeight then ⟨2,1,1048576,10000⟩ else if c=wPorts then ⟨4,0,0,0⟩ else ⟨0,0,0,0⟩
def ruE (c:List UInt8):Ru:=if c=wLabel then ⟨1,0,0,0⟩ else if c=wWeight then ⟨3,1,1000,1⟩ else if c=wLen then ⟨3,1,64,1⟩ else ⟨0,0,0,0⟩
def ruS (c:List UInt8):Ru:=if c=wMode then ⟨5,0,0,0⟩ else if c=wNodesep then ⟨2,0,1048576,10000⟩ else if c=wRanksep then ⟨2,0,1048576,20000⟩ else if c=wMargin then ⟨2,0,1048576,5000⟩ else if c=wRounds then ⟨3,0,100,8⟩ else ⟨0,0,0,0⟩
def knownL (k:Int)(c:List UInt8):Ru:=if k=1 then ruN c else if k=2 then ruE c else if k=4 then ruS c else ⟨0,0,0,0⟩
def valR (x:Ru)(s:List UInt8):Int × Bool :=
 if (prL s).2≠0 then (0,false)
 else if x.form=3 then
  if (prL s).1.tmod 1000≠0 then (0,false)
  else ((prL s).1.tdiv 1000,decide (x.low≤(prL s).1.tdiv 1000) && decide ((prL s).1.tdiv 1000≤x.high))
 else ((prL s).1,decide (x.low≤(prL s).1) && decide ((prL s).1≤x.high))
def modes:List (List UInt8):=[[108,97,121,101,114,101,100],[111,114,116,104,111,103,111,110,97,108],[115,116,114,97,105,103,104,116],[116,105,100,121],[114,97,100,105,97,108]]
def sides:List (List UInt8):=[[116,111,112],[114,105,103,104,116],[98,111,116,116,111,109],[108,101,102,116]]
def idxA (s:List UInt8):List (List UInt8)→Int→Int
 | [],_=>-1
 | x :: t,i=>if x=s then i else idxA s t (i+1)
def modeL (s:List UInt8):Int:=idxA s modes 0
def sideL (s:List UInt8):Int:=idxA s sides 0
def splitA (c:List UInt8):List UInt8→List (List UInt8)
 | []=>[c]
 | [x]=>[c ++ [x]]
 | x :: y :: t=>if x=44∧y=32 then c :: splitA [] t else splitA (c ++ [x]) (y :: t)
def splitL (s:List UInt8):List (List UInt8):=splitA [] s
def gapL (s:List UInt8):Option (List UInt8 × List UInt8):=if (s.takeWhile (·≠32)).length < s.length then some (s.takeWhile (·≠32),s.drop ((s.takeWhile (·≠32)).length+1)) else none
def partL (s:List UInt8):Int × List UInt8 × Int:=match gapL s with
 | none=>(4,[],0)
 | some (n,r)=>if sideL r < 0 then (4,[],0) else if isNm n=false then (5,[],0) else (0,n,sideL r)
def partsL:List (List UInt8)→List (List UInt8 × Int)→List (List UInt8 × Int) × Int
 | [],out=>(out,0)
 | s :: t,out =>
  if (partL s).1≠0 then ([],(partL s).1)
  else if out.any (fun p=>decide (p.1=(partL s).2.1)) then ([],6)
  else if out.length=8 then ([],2)
  else partsL t (out ++ [((partL s).2.1,(partL s).2.2)])
def portsL (s:List UInt8):List (List UInt8 × Int) × Int:=if s=[] then ([],0) else partsL (splitL s) []
def goodK (k:Int):Bool:=decide (k=1) || decide (k=2) || decide (k=4)
def okV (x:Ru)(s:List UInt8):Bool :=
 if x.form=1 then s.all isPl else if x.form=2∨x.form=3 then (valR x s).2
 else if x.form=4 then decide ((portsL s).2=0) && decide (s.length≤32) else if x.form=5 then decide (0≤modeL s) else true
def checkL (k:Int)(a:Pr):Int :=
 if goodK k=false then 1 else if (knownL k a.1).form=0 then 5 else if (knownL k a.1).form=1∧32 < a.2.length then 2
 else if okV (knownL k a.1) a.2 then 0 else 7
def numL (k:Int)(l:List Pr)(c:List UInt8):Int :=
 if (knownL k c).form≠2∧(knownL k c).form≠3 then 0
 else if (getL l c).2=false then (knownL k c).normal
 else if (valR (knownL k c) (getL l c).1).2 then (valR (knownL k c) (getL l c).1).1 else (knownL k c).normal
theorem add_at (b o j:Nat):(⟨b,o,none⟩:Addr).add j=⟨b,o+j,none⟩:=by
 unfold Addr.add;split
 ·subst_vars;rfl
 ·rfl
def prC (r:Pr):List Value:=[.string (bb r.1),.string (bb r.2)]
def blk (W:World)(g:Nat)(t:TypeId)(arr:Array Value):Prop:=W.heap[g]?=some (.cells arr t (0,0))
theorem blk_cell {W:World}{g o:Nat}{t:TypeId}{arr:Array Value}(h:blk W g t arr):W.cell? ⟨g,o,none⟩=arr[o]?:=by
 unfold blk at h;simp [World.cell?,h]
theorem blk_lt {W:World}{g:Nat}{t:TypeId}{arr:Array Value}(h:blk W g t arr):g < W.heap.size:=by
 rcases Nat.lt_or_ge g W.heap.size with q | q
 ·exact q
 ·unfold blk at h;rw [Array.getElem?_eq_none (by omega)] at h;cases h
theorem blk_new (w:World)(c:Array Value)(t:TypeId):blk (w.alloc (.cells c t)) w.heap.size t c:=heap_alloc_new w _
theorem flat_len {X:Type}(f:X→List Value)(k:Nat)(hk:∀ x,(f x).length=k)(l:List X):(l.flatMap f).length=l.length*k:=by
 induction l with
 | nil=>simp
 | cons x t ih=>rw [List.flatMap_cons,List.length_append,ih,hk,List.length_cons,Nat.add_mul];omega
theorem flat_get {X:Type}(f:X→List Value)(k:Nat)(hk:∀ x,(f x).length=k):∀ (l:List X) (i j:Nat) (h:i < l.length),j < k→(l.flatMap f)[i*k+j]?=(f l[i])[j]?:=by
 intro l
 induction l with
 | nil=>intro i j h;simp at h
 | cons x t ih =>
  intro i j h hj
  rw [List.flatMap_cons]
  cases i with
  | zero=>rw [Nat.zero_mul,Nat.zero_add,List.getElem?_append_left (by rw [hk];exact hj)];rfl
  | succ i =>
   rw [List.getElem?_append_right (by rw [hk,Nat.add_mul];omega),hk,show (i+1)*k+j - k=i*k+j by rw [Nat.add_mul];omega]
   exact ih i j (by simpa using h) hj
theorem own_blk {w:World}{B s n:Nat}{t:TypeId}{v:Value}{xs:List Value}(h:w.ownsRow B t s v n xs)(hn:0 < n):∃ g cap arr,v=.slice (some ⟨g,0,none⟩) n cap∧B≤g∧blk w g t arr∧n≤cap∧cap≤maxLen∧∀ j,j < n*s→arr[j]?=xs[j]?:=by
 rcases h.2 with ⟨_,rfl⟩ | ⟨g,cap,cur,rfl,hB,hk,h1,h2,h3,h4⟩
 ·omega
 ·refine ⟨g,cap,cur,rfl,hB,hk,h1,h2,fun j hj=>?_⟩
  rw [← h4,List.getElem?_take_of_lt hj,Array.getElem?_toList]
theorem own_form {w:World}{B s n:Nat}{t:TypeId}{v:Value}{xs:List Value}(h:w.ownsRow B t s v n xs):∃ ao cap,v=.slice ao n cap∧n≤cap∧cap≤maxLen:=by
 rcases h.2 with ⟨rfl,rfl⟩ | ⟨g,cap,cur,rfl,_,_,h1,h2,_⟩
 ·exact ⟨_,0,rfl,Nat.le_refl _,by decide⟩
 ·exact ⟨_,cap,rfl,h1,h2⟩
theorem info_cla:(Tryz.prog.info? 69).map (fun i=>(i.zero,i.size,i.bytes))=some (some (.agg #[.string ⟨#[]⟩,.string ⟨#[]⟩]),2,32):=by kernel_rfl
theorem info_of_cla:∃ i,Tryz.prog.info? 69=some i∧i.zero=some (.agg #[.string ⟨#[]⟩,.string ⟨#[]⟩])∧i.size=2∧i.bytes=32:=by
 have h:=info_cla
 cases hq:Tryz.prog.info? 69 with
 | none=>rw [hq] at h;cases h
 | some i =>
  rw [hq] at h
  simp only [Option.map_some,Option.some.injEq,Prod.mk.injEq] at h
  exact ⟨i,rfl,h.1,h.2.1,h.2.2⟩
theorem app_pr {w:World}{ops:Array Oper}{rest:List Oper}{o:Oper}{a:Act}{Q:Exit→Act→World→Prop}{T E:TypeId}(hT:Tryz.prog.underlying T=some (.slice E))(hE:∃ i,Tryz.prog.info? E=some i∧i.zero=some (.agg #[.string ⟨#[]⟩,.string ⟨#[]⟩])∧i.size=2∧i.bytes=32)
    (hg:o.guard=none) (p y:Operand) (ho:o.op=.call { callee:=.builtin .append,args:=#[p,y],argTypes:=#[T,T] })
    (B:Nat) (v:Value) (l:List Pr) (x:Pr) (H:Nat) (hH:w.heap.size=H) (hs:a.eval p=v) (hx:a.eval y=.slice (some ⟨H,0,none⟩) 1 1) (h:Hid (w.ownsRow B E 2 v l.length (l.flatMap prC))) (hl:l.length≤1000000) (hB:B≤w.heap.size)
    (hK:∀ ao cap w',w'.ownsRow B E 2 (.slice ao (l.length+1) cap) (l ++ [x]).length ((l ++ [x]).flatMap prC)→w.grownBy w' v.ownBlock→wpList Tryz.prog ops Q rest (a.put o.dst (.slice ao (l.length+1) cap)) w'):wpList Tryz.prog ops Q (o :: rest) a (w.alloc (.cells #[.string (bb x.1),.string (bb x.2)] E)):=by
 subst hH
 obtain ⟨i0,hi,hz0,hz1,hz2⟩:=hE
 refine wpList_append_own _ hg p y T ho B E i0 _ 2 32 hT hi hz0 hz1 hz2 rfl (by decide) v l.length _ hs (World.ownsRow.alloc h.out _) ⟨w.heap.size,0,none⟩ 1 1 [.string (bb x.1),.string (bb x.2)] hx rfl ?_ (by simp [Value.oneCell']) (by unfold maxLen;omega) (by omega) (by simp;omega) ?_
 ·intro j u hj
  rw [add_at,Nat.zero_add,blk_cell (blk_new w #[.string (bb x.1),.string (bb x.2)] E),← hj]
  simp
 ·intro v' w' hown hgrow _
  obtain ⟨ao,cap,rfl,_,_⟩:=own_form hown
  refine hK ao cap w' ?_ ?_
  ·rw [List.length_append,List.flatMap_append];exact hown
  ·refine ⟨hgrow.os,hgrow.tape,hgrow.output,Nat.le_trans (by simp) hgrow.size,fun k hk hne=>?_⟩
   rw [hgrow.block k (by simp;omega) hne,heap_alloc_old w _ hk]
end Go.Proofs.YtgmidodmmlmmeaaGreatDoor.att
namespace Go.Proofs.YtgmidodmmlmmeaaGreatDoor.att
open Go.RowKit Go.ChangeMaps Go.MapKept lex tre
def heldR (v:Value):Option (DataW Value × List MemPlace):=some (.held v,[])
def mAt (z:Value)(W:World)(b n:Nat)(D:DataW Value)(F:List UInt8→Value × Bool):Prop :=
 W.ownsMap Tryz.prog 9 heldR b n D∧Maps.IsMap D∧∀ x:List UInt8,D.atKey (.string x) (.held z)=.held (F x).1∧Maps.has D (.string x)=(F x).2
theorem mAt_made (z:Value)(w:World):mAt z (w.alloc (.map #[] 0)) w.heap.size 0 (.map []) (fun _=>(z,false)) :=
 ⟨World.ownsMap_made w _ _ _,Maps.isMap_empty,fun _=>⟨rfl,rfl⟩⟩
theorem mAt.kept {z:Value}{w w':World}{b n:Nat}{D:DataW Value}{F:List UInt8→Value × Bool}{row:Option Nat}(h:mAt z w b n D F)(hg:w.grownBy w' row)(hne:some b≠row):mAt z w' b n D F:=⟨h.1.kept hg hne,h.2⟩
theorem mAt.keep {z:Value}{w w':World}{b n:Nat}{D:DataW Value}{F:List UInt8→Value × Bool}(h:mAt z w b n D F)(hb:Below w.heap.size w w'):mAt z w' b n D F :=
 h.kept (row:=none) ⟨hb.os,hb.tape,hb.output,hb.size,fun k hk _=>hb.block k hk⟩ (by simp)
theorem mAt.lt {z:Value}{w:World}{b n:Nat}{D:DataW Value}{F:List UInt8→Value × Bool}(h:mAt z w b n D F):b < w.heap.size:=h.1.lt
theorem mAt.look {T e:TypeId}{z:Value}(ht:Tryz.prog.underlying T=some (.map 9 e))(hz:∀ w,(zeroValue e).run Tryz.prog w=.ok z w){w:World}{b n:Nat}{D:DataW Value}{F:List UInt8→Value × Bool}(h:mAt z w b n D F)(s:ByteArray)(hs:s.size≤maxLen) :
    (Instr.lookup T (.map (some b)) (.string s) false).run Tryz.prog w=.ok (F s.data.toList).1 w:=by
 obtain ⟨v,ps,hrun,hv⟩:=h.1.lookup (Maps.string_keyed Tryz.underlying9) ht (hz w) (R:=heldR) (zd:=.held z) (zp:=[]) rfl (WideMaps.keyOf_string_mk Tryz.underlying9 hs)
 rw [(h.2.2 _).1] at hv
 unfold heldR at hv
 cases hv
 exact hrun
theorem mAt.put {T e:TypeId}{z:Value}(ht:Tryz.prog.underlying T=some (.map 9 e)){w:World}{b n:Nat}{D:DataW Value}{F:List UInt8→Value × Bool}(h:mAt z w b n D F)(s:ByteArray)(v:Value)(hs:s.size≤maxLen)(hn:n < maxLen) :
    ∃ w',(Instr.mapUpdate T (.map (some b)) (.string s) v).run Tryz.prog w=.ok () w'∧mAt z w' b (n+1) (D.put (.string s.data.toList) (.held v)) (fun x=>if x=s.data.toList then (v,true) else F x)∧w.grownBy w' (some b):=by
 obtain ⟨w',hrun,h5,h6⟩:=h.1.update (Maps.string_keyed Tryz.underlying9) ht hn (R:=heldR) (WideMaps.keyOf_string_mk Tryz.underlying9 hs) (d:=.held v) (ps:=[]) rfl
 refine ⟨w',hrun,⟨h5,h.2.1.put _ _,fun x=>?_⟩,h6⟩
 by_cases hx:x=s.data.toList
 ·subst hx
  rw [Maps.atKey_put_same h.2.1 (by trivial),Maps.has_put_same h.2.1 (by trivial)]
  simp
 ·rw [Maps.atKey_put_other (by intro e;injection e with e;exact hx e),Maps.has_put_other (by intro e;injection e with e;exact hx e)]
  simp only [if_neg hx]
  exact h.2.2 x
end Go.Proofs.YtgmidodmmlmmeaaGreatDoor.att
namespace Go.Proofs.YtgmidodmmlmmeaaGreatDoor.att
open Go.RowKit lex tre
def RV (u lo hi us:Int)(f:Value):Value:=.agg #[.int .i64 u,.int .i64 lo,.int .i64 hi,.int .i64 us,f]
def RZ:Value:=RV 0 0 0 0 .nilFunc
def fTx:Value:=.func (.func 162) #[] #[]
def fPo:Value:=.func (.func 163) #[] #[]
def fMo:Value:=.func (.func 164) #[] #[]
def rvN (c:List UInt8):Value × Bool:=if c=wLabel then (RV 0 0 0 0 fTx,true) else if c=wWidth then (RV 1 1 1048576 20000 .nilFunc,true) else if c=wHeight then (RV 1 1 1048576 10000 .nilFunc,true) else if c=wPorts then (RV 0 0 0 0 fPo,true) else (RZ,false)
def rvE (c:List UInt8):Value × Bool:=if c=wLabel then (RV 0 0 0 0 fTx,true) else if c=wWeight then (RV 1000 1 1000 1 .nilFunc,true) else if c=wLen then (RV 1000 1 64 1 .nilFunc,true) else (RZ,false)
def rvS (c:List UInt8):Value × Bool:=if c=wMode then (RV 0 0 0 0 fMo,true) else if c=wNodesep then (RV 1 0 1048576 10000 .nilFunc,true) else if c=wRanksep then (RV 1 0 1048576 20000 .nilFunc,true) else if c=wMargin then (RV 1 0 1048576 5000 .nilFunc,true) else if c=wRounds then (RV 1000 0 100 8 .nilFunc,true) else (RZ,false)
def rvK (k:Int)(c:List UInt8):Value × Bool:=if k=1 then rvN c else if k=2 then rvE c else if k=4 then rvS c else (RZ,false)
def RuM (w:World)(b:Nat)(k:Int):Prop:=∃ n D,mAt RZ w b n D (rvK k)
theorem RuM.keep {w w':World}{b:Nat}{k:Int}(h:RuM w b k)(hb:Below w.heap.size w w'):RuM w' b k:=by
 obtain ⟨n,D,h⟩:=h;exact ⟨n,D,h.keep hb⟩
theorem rz_zero (w:World):(zeroValue 175).run Tryz.prog w=.ok RZ w:=Tryz.zeroValue175 w
theorem RuM.look {w:World}{b:Nat}{k:Int}(h:RuM w b k)(s:ByteArray)(hs:s.size≤maxLen):(Instr.lookup 172 (.map (some b)) (.string s) false).run Tryz.prog w=.ok (rvK k s.data.toList).1 w:=by
 obtain ⟨n,D,h⟩:=h
 exact h.look Tryz.underlying172 rz_zero s hs
theorem below_put {w0 w w':World}{b:Nat}(h:Below w0.heap.size w0 w)(hg:w.grownBy w' (some b))(hb:w0.heap.size≤b):Below w0.heap.size w0 w':=h.grown hg h.size (fun k e=>by cases e;exact hb)
-- walks
set_option maxRecDepth 100000 in
set_option maxHeartbeats 4000000 in
theorem rules_1 (w:World):Calls Tryz.prog 96 #[.int .i64 1] w fun e w'=>(∃ b,e=.returned (.map (some b))∧RuM w' b 1)∧Below w.heap.size w w':=by
 have m0:=mAt_made RZ w
 have B0:=al1 w (.map #[] 0)
 obtain ⟨w1,r1,m1,g1⟩:=m0.put Tryz.underlying172 ⟨#[108,97,98,101,108]⟩ (RV 0 0 0 0 fTx) (by decide) (by decide)
 have B1:=below_put B0 g1 (Nat.le_refl _)
 obtain ⟨w2,r2,m2,g2⟩:=m1.put Tryz.underlying172 ⟨#[119,105,100,116,104]⟩ (RV 1 1 1048576 20000 .nilFunc) (by decide) (by decide)
 have B2:=below_put B1 g2 (Nat.le_refl _)
 obtain ⟨w3,r3,m3,g3⟩:=m2.put Tryz.underlying172 ⟨#[104,101,105,103,104,116]⟩ (RV 1 1 1048576 10000 .nilFunc) (by decide) (by decide)
 have B3:=below_put B2 g3 (Nat.le_refl _)
 obtain ⟨w4,r4,m4,g4⟩:=m3.put Tryz.underlying172 ⟨#[112,111,114,116,115]⟩ (RV 0 0 0 0 fPo) (by decide) (by decide)
 have B4:=below_put B3 g4 (Nat.le_refl _)
 have HR:Hid (RuM w4 w.heap.size 1):=by
  refine Lh ⟨_,_,m4.1,m4.2.1,fun x=>?_⟩
  have q:=m4.2.2 x
  rw [show rvK 1 x=_ from (?_:rvK 1 x=(_:Value × Bool))]
  ·exact q
  ·rw [show rvK 1 x=rvN x by unfold rvK;simp]
   unfold rvN wLabel wWidth wHeight wPorts
   repeat' split
   all_goals (first | rfl | (subst_vars;simp_all) | simp_all)
 clear m0 m1 m2 m3 m4 g1 g2 g3 g4 B0 B1 B2 B3
 replace r1:(Instr.mapUpdate 172 (.map (some w.heap.size)) (.string ⟨#[108,97,98,101,108]⟩) (.agg #[.int .i64 0,.int .i64 0,.int .i64 0,.int .i64 0,.func (.func 162) #[] #[]])).run Tryz.prog (w.alloc (.map #[] 0))=.ok () w1:=r1
 replace r2:(Instr.mapUpdate 172 (.map (some w.heap.size)) (.string ⟨#[119,105,100,116,104]⟩) (.agg #[.int .i64 1,.int .i64 1,.int .i64 1048576,.int .i64 20000,.nilFunc])).run Tryz.prog w1=.ok () w2:=r2
 replace r3:(Instr.mapUpdate 172 (.map (some w.heap.size)) (.string ⟨#[104,101,105,103,104,116]⟩) (.agg #[.int .i64 1,.int .i64 1,.int .i64 1048576,.int .i64 10000,.nilFunc])).run Tryz.prog w2=.ok () w3:=r3
 replace r4:(Instr.mapUpdate 172 (.map (some w.heap.size)) (.string ⟨#[112,111,114,116,115]⟩) (.agg #[.int .i64 0,.int .i64 0,.int .i64 0,.int .i64 0,.func (.func 163) #[] #[]])).run Tryz.prog w3=.ok () w4:=r4
 have hmm:=@run_makeMap Tryz.prog
 have HB:=Lh B4
 clear B4
 go_enter Tryz.func96,Tryz.ntmps96
 go_wp2
 go_ret
 exact ⟨⟨_,rfl,HR.out⟩,HB.out⟩
set_option maxRecDepth 100000 in
set_option maxHeartbeats 4000000 in
theorem rules_2 (w:World):Calls Tryz.prog 96 #[.int .i64 2] w fun e w'=>(∃ b,e=.returned (.map (some b))∧RuM w' b 2)∧Below w.heap.size w w':=by
 have m0:=mAt_made RZ w
 have B0:=al1 w (.map #[] 0)
 obtain ⟨w1,r1,m1,g1⟩:=m0.put Tryz.underlying172 ⟨#[108,97,98,101,108]⟩ (RV 0 0 0 0 fTx) (by decide) (by decide)
 have B1:=below_put B0 g1 (Nat.le_refl _)
 obtain ⟨w2,r2,m2,g2⟩:=m1.put Tryz.underlying172 ⟨#[119,101,105,103,104,116]⟩ (RV 1000 1 1000 1 .nilFunc) (by decide) (by decide)
 have B2:=below_put B1 g2 (Nat.le_refl _)
 obtain ⟨w3,r3,m3,g3⟩:=m2.put Tryz.underlying172 ⟨#[108,101,110]⟩ (RV 1000 1 64 1 .nilFunc) (by decide) (by decide)
 have B3:=below_put B2 g3 (Nat.le_refl _)
 have HR:Hid (RuM w3 w.heap.size 2):=by
  refine Lh ⟨_,_,m3.1,m3.2.1,fun x=>?_⟩
  have q:=m3.2.2 x
  rw [show rvK 2 x=_ from (?_:rvK 2 x=(_:Value × Bool))]
  ·exact q
  ·rw [show rvK 2 x=rvE x by unfold rvK;simp]
   unfold rvE wLabel wWeight wLen
   repeat' split
   all_goals (first | rfl | (subst_vars;simp_all) | simp_all)
 clear m0 m1 m2 m3 g1 g2 g3 B0 B1 B2
 replace r1:(Instr.mapUpdate 172 (.map (some w.heap.size)) (.string ⟨#[108,97,98,101,108]⟩) (.agg #[.int .i64 0,.int .i64 0,.int .i64 0,.int .i64 0,.func (.func 162) #[] #[]])).run Tryz.prog (w.alloc (.map #[] 0))=.ok () w1:=r1
 replace r2:(Instr.mapUpdate 172 (.map (some w.heap.size)) (.string ⟨#[119,101,105,103,104,116]⟩) (.agg #[.int .i64 1000,.int .i64 1,.int .i64 1000,.int .i64 1,.nilFunc])).run Tryz.prog w1=.ok () w2:=r2
 replace r3:(Instr.mapUpdate 172 (.map (some w.heap.size)) (.string ⟨#[108,101,110]⟩) (.agg #[.int .i64 1000,.int .i64 1,.int .i64 64,.int .i64 1,.nilFunc])).run Tryz.prog w2=.ok () w3:=r3
 have hmm:=@run_makeMap Tryz.prog
 have HB:=Lh B3
 clear B3
 go_enter Tryz.func96,Tryz.ntmps96
 go_wp2
 go_ret
 exact ⟨⟨_,rfl,HR.out⟩,HB.out⟩
set_option maxRecDepth 100000 in
set_option maxHeartbeats 4000000 in
theorem rules_4 (w:World):Calls Tryz.prog 96 #[.int .i64 4] w fun e w'=>(∃ b,e=.returned (.map (some b))∧RuM w' b 4)∧Below w.heap.size w w':=by
 have m0:=mAt_made RZ w
 have B0:=al1 w (.map #[] 0)
 obtain ⟨w1,r1,m1,g1⟩:=m0.put Tryz.underlying172 ⟨#[109,111,100,101]⟩ (RV 0 0 0 0 fMo) (by decide) (by decide)
 have B1:=below_put B0 g1 (Nat.le_refl _)
 obtain ⟨w2,r2,m2,g2⟩:=m1.put Tryz.underlying172 ⟨#[110,111,100,101,115,101,112]⟩ (RV 1 0 1048576 10000 .nilFunc) (by decide) (by decide)
 have B2:=below_put B1 g2 (Nat.le_refl _)
 obtain ⟨w3,r3,m3,g3⟩:=m2.put Tryz.underlying172 ⟨#[114,97,110,107,115,101,112]⟩ (RV 1 0 1048576 20000 .nilFunc) (by decide) (by decide)
 have B3:=below_put B2 g3 (Nat.le_refl _)
 obtain ⟨w4,r4,m4,g4⟩:=m3.put Tryz.underlying172 ⟨#[109,97,114,103,105,110]⟩ (RV 1 0 1048576 5000 .nilFunc) (by decide) (by decide)
 have B4:=below_put B3 g4 (Nat.le_refl _)
 obtain ⟨w5,r5,m5,g5⟩:=m4.put Tryz.underlying172 ⟨#[114,111,117,110,100,115]⟩ (RV 1000 0 100 8 .nilFunc) (by decide) (by decide)
 have B5:=below_put B4 g5 (Nat.le_refl _)
 have HR:Hid (RuM w5 w.heap.size 4):=by
  refine Lh ⟨_,_,m5.1,m5.2.1,fun x=>?_⟩
  have q:=m5.2.2 x
  rw [show rvK 4 x=_ from (?_:rvK 4 x=(_:Value × Bool))]
  ·exact q
  ·rw [show rvK 4 x=rvS x by unfold rvK;simp]
   unfold rvS wMode wNodesep wRanksep wMargin wRounds
   repeat' split
   all_goals (first | rfl | (subst_vars;simp_all) | simp_all)
 clear m0 m1 m2 m3 m4 m5 g1 g2 g3 g4 g5 B0 B1 B2 B3 B4
 replace r1:(Instr.mapUpdate 172 (.map (some w.heap.size)) (.string ⟨#[109,111,100,101]⟩) (.agg #[.int .i64 0,.int .i64 0,.int .i64 0,.int .i64 0,.func (.func 164) #[] #[]])).run Tryz.prog (w.alloc (.map #[] 0))=.ok () w1:=r1
 replace r2:(Instr.mapUpdate 172 (.map (some w.heap.size)) (.string ⟨#[110,111,100,101,115,101,112]⟩) (.agg #[.int .i64 1,.int .i64 0,.int .i64 1048576,.int .i64 10000,.nilFunc])).run Tryz.prog w1=.ok () w2:=r2
 replace r3:(Instr.mapUpdate 172 (.map (some w.heap.size)) (.string ⟨#[114,97,110,107,115,101,112]⟩) (.agg #[.int .i64 1,.int .i64 0,.int .i64 1048576,.int .i64 20000,.nilFunc])).run Tryz.prog w2=.ok () w3:=r3
 replace r4:(Instr.mapUpdate 172 (.map (some w.heap.size)) (.string ⟨#[109,97,114,103,105,110]⟩) (.agg #[.int .i64 1,.int .i64 0,.int .i64 1048576,.int .i64 5000,.nilFunc])).run Tryz.prog w3=.ok () w4:=r4
 replace r5:(Instr.mapUpdate 172 (.map (some w.heap.size)) (.string ⟨#[114,111,117,110,100,115]⟩) (.agg #[.int .i64 1000,.int .i64 0,.int .i64 100,.int .i64 8,.nilFunc])).run Tryz.prog w4=.ok () w5:=r5
 have hmm:=@run_makeMap Tryz.prog
 have HB:=Lh B5
 clear B5
 go_enter Tryz.func96,Tryz.ntmps96
 go_wp2
 go_ret
 exact ⟨⟨_,rfl,HR.out⟩,HB.out⟩
set_option maxHeartbeats 2000000 in
theorem rules_no (k:Int)(w:World)(h:goodK k=false):Calls Tryz.prog 96 #[.int .i64 k] w fun e w'=>e=.returned (.map none)∧Below w.heap.size w w':=by
 unfold goodK at h
 simp only [Bool.or_eq_false_iff,decide_eq_false_iff_not] at h
 obtain ⟨⟨h1,h2⟩,h4⟩:=h
 go_enter Tryz.func96,Tryz.ntmps96
 go_wp2
 go_ret
 exact ⟨rfl,Below.refl _ _⟩
theorem rules_yes (k:Int)(w:World)(h:goodK k=true):Calls Tryz.prog 96 #[.int .i64 k] w fun e w'=>(∃ b,e=.returned (.map (some b))∧RuM w' b k)∧Below w.heap.size w w':=by
 unfold goodK at h
 simp only [Bool.or_eq_true,decide_eq_true_eq] at h
 rcases h with (rfl | rfl) | rfl
 ·exact rules_1 w
 ·exact rules_2 w
 ·exact rules_4 w
end Go.Proofs.YtgmidodmmlmmeaaGreatDoor.att
