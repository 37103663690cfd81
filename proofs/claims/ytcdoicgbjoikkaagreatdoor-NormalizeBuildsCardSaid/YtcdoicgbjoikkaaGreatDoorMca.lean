/-
  Layer 10 as plain functions on lists of bytes: rules, values, lists of attributes, ports. No function of the program is named here; no condition.
  Layer 10 as plain functions: rules, values, what Check, CheckAll, Number and Ports answer, and P10.7. No function of the program is named here; no condition.
  What the reference's Known returns. No condition.
  What value, Mode and Side of the reference return. Condition: texts of at most 20000 bytes.
-/
import Derived.Test.YtcdoicgbjoikkaaGreatDoorMta
import Derived.Test.YtcdoicgbjoikkaaGreatDoorRefParse
import Derived.Lib.QuietBelow
namespace Go.Proofs.YtcdoicgbjoikkaaGreatDoor.att
open Go.RowKit lex tre
theorem less_eq:∀ (x y:List UInt8),Op.bytesLess x y=decide (x < y)
 | [],[]=>by simp [Op.bytesLess]
 | _ :: _,[]=>by simp [Op.bytesLess]
 | [],_ :: _=>by simp [Op.bytesLess]
 | a :: x,b :: y=>by
  rw [Op.bytesLess,less_eq x y]
  simp only [List.cons_lt_cons_iff]
  by_cases h1:a < b <;> by_cases h2:a=b <;> by_cases h3:x < y <;> simp [h1,h2,h3]
theorem lt_irr (a:List UInt8):¬ a < a:=List.lt_irrefl a
theorem lt_tr {a b c:List UInt8}(h:a < b)(k:b < c):a < c:=List.lt_trans h k
theorem lt_eq {a b:List UInt8}(h:¬ a < b)(k:¬ b < a):a=b:=List.le_antisymm (List.not_lt.1 k) (List.not_lt.1 h)
def getL:List Pr→List UInt8→List UInt8 × Bool
 | [],_=>([],false)
 | a :: t,k=>if (getL t k).2 then getL t k else if a.1=k then (a.2,true) else ([],false)
theorem getL_app (a b:List Pr)(k:List UInt8):getL (a ++ b) k=if (getL b k).2 then getL b k else getL a k:=by
 induction a with
 | nil =>
  rw [List.nil_append]
  split
  ·rfl
  ·rename_i h
   have:∀ l:List Pr,(getL l k).2=false→getL l k=([],false):=by
    intro l
    induction l with
    | nil=>intro _;rfl
    | cons x t ih =>
     intro hl
     unfold getL at hl ⊢
     split
     ·rename_i h1;rw [if_pos h1] at hl;rw [h1] at hl;cases hl
     ·rename_i h1
      rw [if_neg h1] at hl
      split
      ·rename_i h2;rw [if_pos h2] at hl;cases hl
      ·rfl
   rw [this b (by simpa using h)];rfl
 | cons x t ih =>
  rw [List.cons_append]
  show (if (getL (t ++ b) k).2 then getL (t ++ b) k else if x.1=k then (x.2,true) else ([],false))=_
  rw [ih]
  by_cases h:(getL b k).2=true
  ·rw [if_pos h,if_pos h,if_pos h]
  ·rw [if_neg h,if_neg h];rfl
theorem getL_none {l:List Pr}{k:List UInt8}(h:(getL l k).2=false):getL l k=([],false):=by
 have h1:=getL_app [] l k
 rw [List.nil_append,if_neg (by rw [h];decide)] at h1
 exact h1
theorem getL_snoc (l:List Pr)(a:Pr)(k:List UInt8):getL (l ++ [a]) k=if a.1=k then (a.2,true) else getL l k:=by
 rw [getL_app]
 show (if (if a.1=k then (a.2,true) else (([]:List UInt8),false)).2 then (if a.1=k then (a.2,true) else ([],false)) else getL l k)=_
 split <;> rename_i h <;> split <;> rename_i h1 <;> simp_all
theorem getL_mem {l:List Pr}{k:List UInt8}:(getL l k).2=true ↔ ∃ a∈l,a.1=k:=by
 induction l with
 | nil=>exact ⟨fun h=>(by cases h),fun ⟨a,h,_⟩=>nomatch h⟩
 | cons x t ih =>
  unfold getL
  constructor
  ·intro h
   split at h
   ·obtain ⟨a,h1,h2⟩:=ih.1 h;exact ⟨a,List.mem_cons_of_mem _ h1,h2⟩
   ·split at h
    ·rename_i h1;exact ⟨x,List.mem_cons_self,h1⟩
    ·cases h
  ·rintro ⟨a,h1,h2⟩
   split
   ·assumption
   ·rename_i h3
    rcases List.mem_cons.1 h1 with rfl | h1
    ·rw [if_pos h2]
    ·exact absurd (ih.2 ⟨a,h1,h2⟩) h3
def putA (a:Pr):List Pr→Bool→List Pr
 | [],d=>if d then [] else [a]
 | x :: t,d=>(if d=false∧¬ x.1 < a.1 then [a] else []) ++ ((if x.1≠a.1 then [x] else []) ++ putA a t (d || decide (¬ x.1 < a.1)))
def putL (l:List Pr)(a:Pr):List Pr:=putA a l false
theorem snoc_ind {P:List Pr→Prop}(h0:P [])(hs:∀ l a,P l→P (l ++ [a]))(l:List Pr):P l:=by
 have h:∀ m:List Pr,P m.reverse:=by
  intro m
  induction m with
  | nil=>exact h0
  | cons a t ih=>rw [List.reverse_cons];exact hs _ _ ih
 have:=h l.reverse
 rwa [List.reverse_reverse] at this
def sortL (l:List Pr):List Pr:=l.foldl putL []
def mergeL (a b:List Pr):List Pr:=sortL (a ++ b)
theorem sortL_snoc (l:List Pr)(a:Pr):sortL (l ++ [a])=putL (sortL l) a:=by unfold sortL;rw [List.foldl_append];rfl
def Asc:List Pr→Prop
 | []=>True
 | x :: t=>(∀ y∈t,x.1 < y.1)∧Asc t
theorem putA_done {a:Pr}{l:List Pr}(h:∀ y∈l,a.1 < y.1):putA a l true=l:=by
 induction l with
 | nil=>rfl
 | cons x t ih =>
  have hx:=h x List.mem_cons_self
  unfold putA
  rw [if_neg (by simp),if_pos (fun e=>lt_irr a.1 (by rw [e] at hx;exact hx)),Bool.true_or,ih (fun y hy=>h y (List.mem_cons_of_mem _ hy))]
  rfl
theorem putA_asc {a:Pr}{l:List Pr}(h:Asc l):Asc (putA a l false)∧∀ y∈putA a l false,y=a∨y∈l:=by
 induction l with
 | nil=>exact ⟨⟨fun y hy=>(nomatch hy),trivial⟩,fun y hy=>Or.inl (by simpa [putA] using hy)⟩
 | cons x t ih =>
  obtain ⟨h1,h2⟩:=h
  obtain ⟨i1,i2⟩:=ih h2
  unfold putA
  by_cases hx:x.1 < a.1
  ·have hne:x.1≠a.1:=fun e=>lt_irr a.1 (by rw [e] at hx;exact hx)
   rw [if_neg (fun e=>e.2 hx),if_pos hne,show (false || decide (¬ x.1 < a.1))=false by simp [hx]]
   refine ⟨⟨fun y hy=>?_,i1⟩,fun y hy=>?_⟩
   ·rcases i2 y hy with rfl | hy
    ·exact hx
    ·exact h1 y hy
   ·rcases List.mem_cons.1 hy with rfl | hy
    ·exact Or.inr List.mem_cons_self
    ·rcases i2 y hy with rfl | hy
     ·exact Or.inl rfl
     ·exact Or.inr (List.mem_cons_of_mem _ hy)
  ·rw [if_pos ⟨rfl,hx⟩,show (false || decide (¬ x.1 < a.1))=true by simp [hx]]
   by_cases he:x.1=a.1
   ·rw [if_neg (fun e=>e he),putA_done (fun y hy=>by rw [← he];exact h1 y hy)]
    refine ⟨⟨fun y hy=>by rw [← he];exact h1 y hy,h2⟩,fun y hy=>?_⟩
    rcases List.mem_cons.1 hy with rfl | hy
    ·exact Or.inl rfl
    ·exact Or.inr (List.mem_cons_of_mem _ hy)
   ·have hax:a.1 < x.1:=by
      rcases Decidable.em (a.1 < x.1) with q | q
      ·exact q
      ·exact absurd (lt_eq hx q) he
    rw [if_pos he,putA_done (fun y hy=>lt_tr hax (h1 y hy))]
    refine ⟨⟨fun y hy=>?_,h1,h2⟩,fun y hy=>?_⟩
    ·rcases List.mem_cons.1 hy with rfl | hy
     ·exact hax
     ·exact lt_tr hax (h1 y hy)
    ·rcases List.mem_cons.1 hy with rfl | hy
     ·exact Or.inl rfl
     ·exact Or.inr hy
theorem getL_far {l:List Pr}{k:List UInt8}(h:∀ y∈l,y.1≠k):getL l k=([],false) :=
 getL_none (by cases hq:(getL l k).2 with
  | false=>rfl
  | true=>obtain ⟨a,h1,h2⟩:=getL_mem.1 hq;exact absurd h2 (h a h1))
theorem getL_cons {x:Pr}{t:List Pr}{k:List UInt8}:getL (x :: t) k=if (getL t k).2 then getL t k else if x.1=k then (x.2,true) else ([],false):=rfl
theorem putA_get {a:Pr}{l:List Pr}(h:Asc l)(k:List UInt8):getL (putA a l false) k=if a.1=k then (a.2,true) else getL l k:=by
 induction l with
 | nil=>unfold putA;simp only [Bool.false_eq_true,if_false];rw [getL_cons];rfl
 | cons x t ih =>
  obtain ⟨h1,h2⟩:=h
  have hi:=ih h2
  unfold putA
  by_cases hx:x.1 < a.1
  ·have hne:x.1≠a.1:=fun e=>lt_irr a.1 (by rw [e] at hx;exact hx)
   rw [if_neg (fun e=>e.2 hx),if_pos hne,show (false || decide (¬ x.1 < a.1))=false by simp [hx]]
   show getL (x :: putA a t false) k=_
   rw [getL_cons,hi,getL_cons]
   by_cases hk:a.1=k
   ·rw [if_pos hk,if_pos hk];rfl
   ·rw [if_neg hk,if_neg hk]
  ·rw [if_pos ⟨rfl,hx⟩,show (false || decide (¬ x.1 < a.1))=true by simp [hx]]
   have far:∀ {t:List Pr},(∀ y∈t,a.1 < y.1)→a.1=k→getL t k=([],false):=fun ht hk=>getL_far fun y hy e=>lt_irr k (by have:=ht y hy;rwa [hk,e] at this)
   by_cases he:x.1=a.1
   ·have ht:∀ y∈t,a.1 < y.1:=fun y hy=>by rw [← he];exact h1 y hy
    rw [if_neg (fun e=>e he),putA_done ht]
    show getL (a :: t) k=_
    rw [getL_cons,getL_cons]
    by_cases hk:a.1=k
    ·rw [if_pos hk,far ht hk];simp [hk]
    ·rw [if_neg hk,if_neg hk,if_neg (show ¬ x.1=k by rw [he];exact hk)]
   ·have hax:a.1 < x.1:=by
      rcases Decidable.em (a.1 < x.1) with q | q
      ·exact q
      ·exact absurd (lt_eq hx q) he
    have ht:∀ y∈x :: t,a.1 < y.1:=fun y hy=>by
     rcases List.mem_cons.1 hy with rfl | hy
     ·exact hax
     ·exact lt_tr hax (h1 y hy)
    rw [if_pos he,putA_done (fun y hy=>lt_tr hax (h1 y hy))]
    show getL (a :: x :: t) k=_
    rw [getL_cons]
    by_cases hk:a.1=k
    ·rw [if_pos hk,far ht hk];simp [hk]
    ·rw [if_neg hk,if_neg hk]
     cases hq:(getL (x :: t) k).2 with
     | true=>rfl
     | false=>rw [getL_none hq];rfl
theorem sort_ok (l:List Pr):Asc (sortL l)∧∀ k,getL (sortL l) k=getL l k:=by
 induction l using snoc_ind with
 | h0=>exact ⟨trivial,fun _=>rfl⟩
 | hs l a ih =>
  rw [sortL_snoc]
  exact ⟨(putA_asc ih.1).1,fun k=>by rw [getL_snoc,← ih.2];exact putA_get ih.1 k⟩
theorem merge_asc (a b:List Pr):Asc (mergeL a b):=(sort_ok _).1
theorem merge_get (a b:List Pr)(k:List UInt8):getL (mergeL a b) k=if (getL b k).2 then getL b k else getL a k:=by
 unfold mergeL;rw [(sort_ok _).2,getL_app]
theorem put_len (a:Pr):∀ (l:List Pr) (d:Bool),(putA a l d).length≤l.length+1:=by
 intro l
 induction l with
 | nil=>intro d;unfold putA;split <;> simp
 | cons x t ih =>
  intro d
  unfold putA
  rw [List.length_append,List.length_append]
  cases d
  ·by_cases hx:x.1 < a.1
   ·rw [if_neg (fun e=>e.2 hx),show (false || decide (¬ x.1 < a.1))=false by simp [hx]]
    have:=ih false
    have:(if x.1≠a.1 then [x] else []).length≤1:=by split <;> simp
    simp only [List.length_nil,List.length_cons];omega
   ·rw [if_pos ⟨rfl,hx⟩,show (false || decide (¬ x.1 < a.1))=true by simp [hx]]
    have h2:(putA a t true).length≤t.length:=by
     clear ih
     induction t with
     | nil=>simp [putA]
     | cons y s ih =>
      unfold putA
      rw [if_neg (by simp),Bool.true_or,List.nil_append,List.length_append]
      have:(if y.1≠a.1 then [y] else []).length≤1:=by split <;> simp
      simp only [List.length_cons];omega
    have:(if x.1≠a.1 then [x] else []).length≤1:=by split <;> simp
    simp only [List.length_cons,List.length_nil];omega
  ·rw [if_neg (by simp),Bool.true_or]
   have:=ih true
   have:(if x.1≠a.1 then [x] else []).length≤1:=by split <;> simp
   simp only [List.length_cons,List.length_nil];omega
theorem sort_len (l:List Pr):(sortL l).length≤l.length:=by
 induction l using snoc_ind with
 | h0=>exact Nat.le_refl _
 | hs l a ih=>rw [sortL_snoc,List.length_append];exact Nat.le_trans (put_len _ _ _) (by simpa using ih)
theorem put_mem {a:Pr}:∀ {l:List Pr} {d:Bool},∀ y∈putA a l d,y=a∨y∈l:=by
 intro l
 induction l with
 | nil=>intro d y hy;unfold putA at hy;split at hy;exact nomatch hy;exact Or.inl (by simpa using hy)
 | cons x t ih =>
  intro d y hy
  unfold putA at hy
  rcases List.mem_append.1 hy with hy | hy
  ·split at hy
   ·exact Or.inl (by simpa using hy)
   ·exact nomatch hy
  ·rcases List.mem_append.1 hy with hy | hy
   ·split at hy
    ·exact Or.inr (by rw [List.mem_singleton.1 hy];exact List.mem_cons_self)
    ·exact nomatch hy
   ·exact (ih y hy).imp id (List.mem_cons_of_mem _)
theorem sort_mem (l:List Pr):∀ y∈sortL l,y∈l:=by
 induction l using snoc_ind with
 | h0=>exact fun y hy=>hy
 | hs l a ih =>
  rw [sortL_snoc]
  intro y hy
  rcases put_mem y hy with rfl | hy
  ·simp
  ·exact List.mem_append_left _ (ih y hy)
def wLabel:List UInt8:=[108,97,98,101,108]
def wWidth:List UInt8:=[119,105,100,116,104]
def wHeight:List UInt8:=[104,101,105,103,104,116]
def wPorts:List UInt8:=[112,111,114,116,115]
def wWeight:List UInt8:=[119,101,105,103,104,116]
def wLen:List UInt8:=[108,101,110]
def wMode:List UInt8:=[109,111,100,101]
def wNodesep:List UInt8:=[110,111,100,101,115,101,112]
def wRanksep:List UInt8:=[114,97,110,107,115,101,112]
def wMargin:List UInt8:=[109,97,114,103,105,110]
def wRounds:List UInt8:=[114,111,117,110,100,115]
structure Ru where
 form:Int
 low:Int
 high:Int
 normal:Int
def ruN (c:List UInt8):Ru:=if c=wLabel then ⟨1,0,0,0⟩ else if c=wWidth then ⟨2,1,1048576,20000⟩ else if c=wHeight then ⟨2,1,1048576,10000⟩ else if c=wPorts then ⟨4,0,0,0⟩ else ⟨0,0,0,0⟩
def ruE (c:List UInt8):Ru:=if c=wLabel then ⟨1,0,0,0⟩ else if c=wWeight then ⟨3,1,1000,1⟩ else if c=wLen then ⟨3,1,64,1⟩ else ⟨0,0,0,0⟩
def ruS (c:List UInt8):Ru:=if c=wMode then ⟨5,0,0,0⟩ else if c=wNodesep then ⟨2,0,1048576,10000⟩ else if c=wRanksep then ⟨2,0,1048576,20000⟩ else if c=wMargin then ⟨2,0,1048576,5000⟩ else if c=wRounds then ⟨3,0,100,8⟩ else ⟨0,0,0,0⟩
def knownL (k:Int)(c:List UInt8):Ru:=if k=1 then ruN c else if k=2 then ruE c else if k=4 then ruS c else ⟨0,0,0,0⟩
def valR (x:Ru)(s:List UInt8):Int × Bool :=
 if (prL s).2≠0 then (0,false)
 else if x.form=3 then
  if (prL s).1.tmod 1000≠0 then (0,false)
  else ((prL s).1.tdiv 1000,decide (x.low≤(prL s).1.tdiv 1000) && decide ((prL s).1.tdiv 1000≤x.high))
 else ((prL s).1,decide (x.low≤(prL s).1) && decide ((prL s).1≤x.high))
def modes:List (List UInt8):=[[108,97,121,101,114,101,100],[111,114,116,104,111,103,111,110,97,108],[115,116,114,97,105,103,104,116],[116,105,100,121],[114,97,100,105,97,108]]
def sides:List (List UInt8):=[[116,111,112],[114,105,103,104,116],[98,111,116,116,111,109],[108,101,102,116]]
def idxA (s:List UInt8):List (List UInt8)→Int→Int
 | [],_=>-1
 | x :: t,i=>if x=s then i else idxA s t (i+1)
def modeL (s:List UInt8):Int:=idxA s modes 0
def sideL (s:List UInt8):Int:=idxA s sides 0
def splitA (c:List UInt8):List UInt8→List (List UInt8)
 | []=>[c]
 | [x]=>[c ++ [x]]
 | x :: y :: t=>if x=44∧y=32 then c :: splitA [] t else splitA (c ++ [x]) (y :: t)
def splitL (s:List UInt8):List (List UInt8):=splitA [] s
def gapL (s:List UInt8):Option (List UInt8 × List UInt8):=if (s.takeWhile (·≠32)).length < s.length then some (s.takeWhile (·≠32),s.drop ((s.takeWhile (·≠32)).length+1)) else none
def partL (s:List UInt8):Int × List UInt8 × Int:=match gapL s with
 | none=>(4,[],0)
 | some (n,r)=>if sideL r < 0 then (4,[],0) else if isNm n=false then (5,[],0) else (0,n,sideL r)
def partsL:List (List UInt8)→List (List UInt8 × Int)→List (List UInt8 × Int) × Int
 | [],out=>(out,0)
 | s :: t,out =>
  if (partL s).1≠0 then ([],(partL s).1)
  else if out.any (fun p=>decide (p.1=(partL s).2.1)) then ([],6)
  else if out.length=8 then ([],2)
  else partsL t (out ++ [((partL s).2.1,(partL s).2.2)])
def portsL (s:List UInt8):List (List UInt8 × Int) × Int:=if s=[] then ([],0) else partsL (splitL s) []
def goodK (k:Int):Bool:=decide (k=1) || decide (k=2) || decide (k=4)
def okV (x:Ru)(s:List UInt8):Bool :=
 if x.form=1 then s.all isPl else if x.form=2∨x.form=3 then (valR x s).2
 else if x.form=4 then decide ((portsL s).2=0) && decide (s.length≤32) else if x.form=5 then decide (0≤modeL s) else true
def checkL (k:Int)(a:Pr):Int :=
 if goodK k=false then 1 else if (knownL k a.1).form=0 then 5 else if (knownL k a.1).form=1∧32 < a.2.length then 2
 else if okV (knownL k a.1) a.2 then 0 else 7
def numL (k:Int)(l:List Pr)(c:List UInt8):Int :=
 if (knownL k c).form≠2∧(knownL k c).form≠3 then 0
 else if (getL l c).2=false then (knownL k c).normal
 else if (valR (knownL k c) (getL l c).1).2 then (valR (knownL k c) (getL l c).1).1 else (knownL k c).normal
theorem known_ways (k:Int)(c:List UInt8):let x:=knownL k c
    (x.form=0∨x.form=1∨x.form=4∨x.form=5)∨(goodK k=true∧((x.form=2∧0≤x.low∧x.low≤x.normal∧x.normal≤x.high∧x.high≤1048576)∨(x.form=3∧0≤x.low∧x.low≤x.normal∧x.normal≤x.high∧x.high≤1000))):=by
 show (_:Prop)
 unfold knownL
 split
 ·rename_i h;subst h
  unfold ruN
  repeat' split
  all_goals decide
 ·split
  ·rename_i h;subst h
   unfold ruE
   repeat' split
   all_goals decide
  ·split
   ·rename_i h;subst h
    unfold ruS
    repeat' split
    all_goals decide
   ·exact Or.inl (Or.inl rfl)
theorem num_ok (k:Int)(l:List Pr)(c:List UInt8)(h:(knownL k c).form=2∨(knownL k c).form=3) :
    0≤numL k l c∧numL k l c≤1048576∧((knownL k c).form=3→numL k l c≤1000)∧checkL k (c,fmtL (if (knownL k c).form=3 then 1000*numL k l c else numL k l c))=0:=by
 have hw:=known_ways k c
 simp only at hw
 rcases hw with hw | ⟨hg,hw⟩
 ·exfalso;omega
 have hn:(knownL k c).low≤numL k l c∧numL k l c≤(knownL k c).high:=by
  unfold numL
  rw [if_neg (by omega)]
  split
  ·omega
  ·split
   ·rename_i hv
    unfold valR at hv ⊢
    split at hv
    ·cases hv
    ·rename_i h1
     rw [if_neg h1]
     split at hv
     ·rename_i h2
      rw [if_pos h2]
      split at hv
      ·cases hv
      ·rename_i h3
       rw [if_neg h3]
       simp only [Bool.and_eq_true,decide_eq_true_eq] at hv
       exact hv
     ·rename_i h2
      rw [if_neg h2]
      simp only [Bool.and_eq_true,decide_eq_true_eq] at hv
      exact hv
   ·omega
 generalize numL k l c=n at hn ⊢
 refine ⟨by omega,by omega,fun h3=>by omega,?_⟩
 show (if goodK k=false then 1 else if (knownL k c).form=0 then 5 else if (knownL k c).form=1∧32 < (fmtL (if (knownL k c).form=3 then 1000*n else n)).length then 2 else if okV (knownL k c) (fmtL (if (knownL k c).form=3 then 1000*n else n)) then (0:Int) else 7)=0
 rw [if_neg (by rw [hg];decide),if_neg (by omega),if_neg (by omega)]
 have hv:okV (knownL k c) (fmtL (if (knownL k c).form=3 then 1000*n else n))=true:=by
  unfold okV
  rw [if_neg (by omega),if_pos h]
  unfold valR
  rcases hw with ⟨h2,_⟩ | ⟨h3,_⟩
  ·have h3:¬ (knownL k c).form=3:=by omega
   rw [if_neg h3,prL_fmt n (by omega) (by omega),if_neg (by simp),if_neg h3]
   simp only [Bool.and_eq_true,decide_eq_true_eq]
   exact hn
  ·rw [if_pos h3,prL_fmt (1000*n) (by omega) (by omega),if_neg (by simp),if_pos h3,if_neg (by simp [Int.mul_tmod_right])]
   have e:(1000*n).tdiv 1000=n:=Int.mul_tdiv_cancel_left n (by decide)
   simp only [e,Bool.and_eq_true,decide_eq_true_eq]
   exact hn
 rw [hv];rfl
def ruV (x:Ru):Value:=.agg #[.int .i64 x.form,.int .i64 x.low,.int .i64 x.high,.int .i64 x.normal]
theorem drew_n (w:World):∀ n,Below w.heap.size w (w.drewN n)
 | 0=>Below.refl _ _
 | n+1=>(drew_n w n).drew
theorem str_is (s:ByteArray)(c:List UInt8):(s.toList == c)=decide (s.data.toList=c):=by
 rw [ByteArray.toList_eq]
 by_cases h:s.data.toList=c
 ·simp [h]
 ·simp [h]
theorem str_yes {s:ByteArray}{c:List UInt8}(h:s.data.toList=c):(s.toList == c)=true:=by rw [str_is];exact decide_eq_true h
theorem str_no {s:ByteArray}{c:List UInt8}(h:¬ s.data.toList=c):(s.toList == c)=false:=by rw [str_is];exact decide_eq_false h
set_option maxRecDepth 100000 in
set_option maxHeartbeats 1600000 in
theorem rknown_1 (s:ByteArray)(x:Ru)(w:World)(h:Hid (ruN s.data.toList=x)) :
    Calls Tryz.prog 79 #[.int .i64 1,.string s] w fun e w'=>e=.returned (ruV x)∧Below w.heap.size w w':=by
 have hr:=h.out
 clear h
 unfold ruN at hr
 by_cases clabel:s.data.toList=wLabel
 ·rw [if_pos clabel] at hr
  have blabel:(s.toList == ([108,97,98,101,108]:List UInt8))=true:=str_yes clabel
  clear clabel
  subst hr
  go_enter Tryz.func79,Tryz.ntmps79
  go_wp2
  refine bodyPost_ret (v:=ruV _) (by simp [results,Tryz.results79,go_sem,ruV]) rfl ⟨rfl,al1 ..⟩
 ·rw [if_neg clabel] at hr
  by_cases cwidth:s.data.toList=wWidth
  ·rw [if_pos cwidth] at hr
   have blabel:(s.toList == ([108,97,98,101,108]:List UInt8))=false:=str_no clabel
   have bwidth:(s.toList == ([119,105,100,116,104]:List UInt8))=true:=str_yes cwidth
   clear clabel cwidth
   subst hr
   go_enter Tryz.func79,Tryz.ntmps79
   go_wp2
   refine bodyPost_ret (v:=ruV _) (by simp [results,Tryz.results79,go_sem,ruV]) rfl ⟨rfl,al1 ..⟩
  ·rw [if_neg cwidth] at hr
   by_cases cheight:s.data.toList=wHeight
   ·rw [if_pos cheight] at hr
    have blabel:(s.toList == ([108,97,98,101,108]:List UInt8))=false:=str_no clabel
    have bwidth:(s.toList == ([119,105,100,116,104]:List UInt8))=false:=str_no cwidth
    have bheight:(s.toList == ([104,101,105,103,104,116]:List UInt8))=true:=str_yes cheight
    clear clabel cwidth cheight
    subst hr
    go_enter Tryz.func79,Tryz.ntmps79
    go_wp2
    refine bodyPost_ret (v:=ruV _) (by simp [results,Tryz.results79,go_sem,ruV]) rfl ⟨rfl,al1 ..⟩
   ·rw [if_neg cheight] at hr
    by_cases cports:s.data.toList=wPorts
    ·rw [if_pos cports] at hr
     have blabel:(s.toList == ([108,97,98,101,108]:List UInt8))=false:=str_no clabel
     have bwidth:(s.toList == ([119,105,100,116,104]:List UInt8))=false:=str_no cwidth
     have bheight:(s.toList == ([104,101,105,103,104,116]:List UInt8))=false:=str_no cheight
     have bports:(s.toList == ([112,111,114,116,115]:List UInt8))=true:=str_yes cports
     clear clabel cwidth cheight cports
     subst hr
     go_enter Tryz.func79,Tryz.ntmps79
     go_wp2
     refine bodyPost_ret (v:=ruV _) (by simp [results,Tryz.results79,go_sem,ruV]) rfl ⟨rfl,al1 ..⟩
    ·rw [if_neg cports] at hr
     have blabel:(s.toList == ([108,97,98,101,108]:List UInt8))=false:=str_no clabel
     have bwidth:(s.toList == ([119,105,100,116,104]:List UInt8))=false:=str_no cwidth
     have bheight:(s.toList == ([104,101,105,103,104,116]:List UInt8))=false:=str_no cheight
     have bports:(s.toList == ([112,111,114,116,115]:List UInt8))=false:=str_no cports
     clear clabel cwidth cheight cports
     subst hr
     go_enter Tryz.func79,Tryz.ntmps79
     go_wp2
     refine bodyPost_ret (v:=ruV _) (by simp [results,Tryz.results79,go_sem,ruV]) rfl ⟨rfl,al1 ..⟩
set_option maxRecDepth 100000 in
set_option maxHeartbeats 1600000 in
theorem rknown_2 (s:ByteArray)(x:Ru)(w:World)(h:Hid (ruE s.data.toList=x)) :
    Calls Tryz.prog 79 #[.int .i64 2,.string s] w fun e w'=>e=.returned (ruV x)∧Below w.heap.size w w':=by
 have hr:=h.out
 clear h
 unfold ruE at hr
 by_cases clabel:s.data.toList=wLabel
 ·rw [if_pos clabel] at hr
  have blabel:(s.toList == ([108,97,98,101,108]:List UInt8))=true:=str_yes clabel
  clear clabel
  subst hr
  go_enter Tryz.func79,Tryz.ntmps79
  go_wp2
  refine bodyPost_ret (v:=ruV _) (by simp [results,Tryz.results79,go_sem,ruV]) rfl ⟨rfl,al1 ..⟩
 ·rw [if_neg clabel] at hr
  by_cases cweight:s.data.toList=wWeight
  ·rw [if_pos cweight] at hr
   have blabel:(s.toList == ([108,97,98,101,108]:List UInt8))=false:=str_no clabel
   have bweight:(s.toList == ([119,101,105,103,104,116]:List UInt8))=true:=str_yes cweight
   clear clabel cweight
   subst hr
   go_enter Tryz.func79,Tryz.ntmps79
   go_wp2
   refine bodyPost_ret (v:=ruV _) (by simp [results,Tryz.results79,go_sem,ruV]) rfl ⟨rfl,al1 ..⟩
  ·rw [if_neg cweight] at hr
   by_cases clen:s.data.toList=wLen
   ·rw [if_pos clen] at hr
    have blabel:(s.toList == ([108,97,98,101,108]:List UInt8))=false:=str_no clabel
    have bweight:(s.toList == ([119,101,105,103,104,116]:List UInt8))=false:=str_no cweight
    have blen:(s.toList == ([108,101,110]:List UInt8))=true:=str_yes clen
    clear clabel cweight clen
    subst hr
    go_enter Tryz.func79,Tryz.ntmps79
    go_wp2
    refine bodyPost_ret (v:=ruV _) (by simp [results,Tryz.results79,go_sem,ruV]) rfl ⟨rfl,al1 ..⟩
   ·rw [if_neg clen] at hr
    have blabel:(s.toList == ([108,97,98,101,108]:List UInt8))=false:=str_no clabel
    have bweight:(s.toList == ([119,101,105,103,104,116]:List UInt8))=false:=str_no cweight
    have blen:(s.toList == ([108,101,110]:List UInt8))=false:=str_no clen
    clear clabel cweight clen
    subst hr
    go_enter Tryz.func79,Tryz.ntmps79
    go_wp2
    refine bodyPost_ret (v:=ruV _) (by simp [results,Tryz.results79,go_sem,ruV]) rfl ⟨rfl,al1 ..⟩
set_option maxRecDepth 100000 in
set_option maxHeartbeats 1600000 in
theorem rknown_4 (s:ByteArray)(x:Ru)(w:World)(h:Hid (ruS s.data.toList=x)) :
    Calls Tryz.prog 79 #[.int .i64 4,.string s] w fun e w'=>e=.returned (ruV x)∧Below w.heap.size w w':=by
 have hr:=h.out
 clear h
 unfold ruS at hr
 by_cases cmode:s.data.toList=wMode
 ·rw [if_pos cmode] at hr
  have bmode:(s.toList == ([109,111,100,101]:List UInt8))=true:=str_yes cmode
  clear cmode
  subst hr
  go_enter Tryz.func79,Tryz.ntmps79
  go_wp2
  refine bodyPost_ret (v:=ruV _) (by simp [results,Tryz.results79,go_sem,ruV]) rfl ⟨rfl,al1 ..⟩
 ·rw [if_neg cmode] at hr
  by_cases cnodesep:s.data.toList=wNodesep
  ·rw [if_pos cnodesep] at hr
   have bmode:(s.toList == ([109,111,100,101]:List UInt8))=false:=str_no cmode
   have bnodesep:(s.toList == ([110,111,100,101,115,101,112]:List UInt8))=true:=str_yes cnodesep
   clear cmode cnodesep
   subst hr
   go_enter Tryz.func79,Tryz.ntmps79
   go_wp2
   refine bodyPost_ret (v:=ruV _) (by simp [results,Tryz.results79,go_sem,ruV]) rfl ⟨rfl,al1 ..⟩
  ·rw [if_neg cnodesep] at hr
   by_cases cranksep:s.data.toList=wRanksep
   ·rw [if_pos cranksep] at hr
    have bmode:(s.toList == ([109,111,100,101]:List UInt8))=false:=str_no cmode
    have bnodesep:(s.toList == ([110,111,100,101,115,101,112]:List UInt8))=false:=str_no cnodesep
    have branksep:(s.toList == ([114,97,110,107,115,101,112]:List UInt8))=true:=str_yes cranksep
    clear cmode cnodesep cranksep
    subst hr
    go_enter Tryz.func79,Tryz.ntmps79
    go_wp2
    refine bodyPost_ret (v:=ruV _) (by simp [results,Tryz.results79,go_sem,ruV]) rfl ⟨rfl,al1 ..⟩
   ·rw [if_neg cranksep] at hr
    by_cases cmargin:s.data.toList=wMargin
    ·rw [if_pos cmargin] at hr
     have bmode:(s.toList == ([109,111,100,101]:List UInt8))=false:=str_no cmode
     have bnodesep:(s.toList == ([110,111,100,101,115,101,112]:List UInt8))=false:=str_no cnodesep
     have branksep:(s.toList == ([114,97,110,107,115,101,112]:List UInt8))=false:=str_no cranksep
     have bmargin:(s.toList == ([109,97,114,103,105,110]:List UInt8))=true:=str_yes cmargin
     clear cmode cnodesep cranksep cmargin
     subst hr
     go_enter Tryz.func79,Tryz.ntmps79
     go_wp2
     refine bodyPost_ret (v:=ruV _) (by simp [results,Tryz.results79,go_sem,ruV]) rfl ⟨rfl,al1 ..⟩
    ·rw [if_neg cmargin] at hr
     by_cases crounds:s.data.toList=wRounds
     ·rw [if_pos crounds] at hr
      have bmode:(s.toList == ([109,111,100,101]:List UInt8))=false:=str_no cmode
      have bnodesep:(s.toList == ([110,111,100,101,115,101,112]:List UInt8))=false:=str_no cnodesep
      have branksep:(s.toList == ([114,97,110,107,115,101,112]:List UInt8))=false:=str_no cranksep
      have bmargin:(s.toList == ([109,97,114,103,105,110]:List UInt8))=false:=str_no cmargin
      have brounds:(s.toList == ([114,111,117,110,100,115]:List UInt8))=true:=str_yes crounds
      clear cmode cnodesep cranksep cmargin crounds
      subst hr
      go_enter Tryz.func79,Tryz.ntmps79
      go_wp2
      refine bodyPost_ret (v:=ruV _) (by simp [results,Tryz.results79,go_sem,ruV]) rfl ⟨rfl,al1 ..⟩
     ·rw [if_neg crounds] at hr
      have bmode:(s.toList == ([109,111,100,101]:List UInt8))=false:=str_no cmode
      have bnodesep:(s.toList == ([110,111,100,101,115,101,112]:List UInt8))=false:=str_no cnodesep
      have branksep:(s.toList == ([114,97,110,107,115,101,112]:List UInt8))=false:=str_no cranksep
      have bmargin:(s.toList == ([109,97,114,103,105,110]:List UInt8))=false:=str_no cmargin
      have brounds:(s.toList == ([114,111,117,110,100,115]:List UInt8))=false:=str_no crounds
      clear cmode cnodesep cranksep cmargin crounds
      subst hr
      go_enter Tryz.func79,Tryz.ntmps79
      go_wp2
      refine bodyPost_ret (v:=ruV _) (by simp [results,Tryz.results79,go_sem,ruV]) rfl ⟨rfl,al1 ..⟩
set_option maxRecDepth 100000 in
theorem rknown_of (k:Int)(s:ByteArray)(x:Ru)(w:World)(h:Hid (knownL k s.data.toList=x)) :
    Calls Tryz.prog 79 #[.int .i64 k,.string s] w fun e w'=>e=.returned (ruV x)∧Below w.heap.size w w':=by
 have hr:=h.out
 unfold knownL at hr
 by_cases k1:k=1
 ·subst k1;rw [if_pos rfl] at hr;exact rknown_1 s x w (Lh hr)
 rw [if_neg k1] at hr
 by_cases k2:k=2
 ·subst k2;rw [if_pos rfl] at hr;exact rknown_2 s x w (Lh hr)
 rw [if_neg k2] at hr
 by_cases k4:k=4
 ·subst k4;rw [if_pos rfl] at hr;exact rknown_4 s x w (Lh hr)
 rw [if_neg k4] at hr
 have b1:(k == 1)=false:=by rw [beq_eq_false_iff_ne];exact k1
 have b2:(k == 2)=false:=by rw [beq_eq_false_iff_ne];exact k2
 have b4:(k == 4)=false:=by rw [beq_eq_false_iff_ne];exact k4
 clear h
 subst hr
 go_enter Tryz.func79,Tryz.ntmps79
 go_wp2
 refine bodyPost_ret (v:=ruV _) (by simp [results,Tryz.results79,go_sem,ruV]) rfl ⟨rfl,al1 ..⟩
set_option maxRecDepth 100000 in
set_option maxHeartbeats 1600000 in
theorem rvalue_of (f lo hi no:Int)(s:ByteArray)(n:Int)(b:Bool)(w:World)(hs:s.size≤20000)(h:Hid (valR ⟨f,lo,hi,no⟩ s.data.toList=(n,b))) :
    Calls Tryz.prog 80 #[.agg #[.int .i64 f,.int .i64 lo,.int .i64 hi,.int .i64 no],.string s] w fun e w'=>e=.returned (.tuple #[.int .i64 n,.bool b])∧Below w.heap.size w w':=by
 have hr:=h.out
 clear h
 unfold valR at hr
 have hrg:=prL_range s.data.toList
 obtain ⟨pn,pe,hpe⟩:∃ a c,prL s.data.toList=(a,c):=⟨_,_,rfl⟩
 have HP:Hid (parseV s.data.toList=.tuple #[.int .i64 pn,.int .i64 pe]):=Lh (by rw [parseV_pr,hpe])
 rw [hpe] at hr hrg
 simp only at hr hrg
 clear hpe
 by_cases h0:pe=0
 case neg =>
  rw [if_pos h0] at hr
  cases hr
  have b0:(pe != 0)=true:=by rw [bne_iff_ne];exact h0
  clear hrg h0
  go_enter Tryz.func80,Tryz.ntmps80
  go_wp2_with fail
  refine (refParse_of _ _ _ hs HP).mono ?_
  rintro e w1 ⟨rfl,rfl⟩
  go_wp2
  go_ret2
  exact ⟨rfl,al1 ..⟩
 rw [if_neg (fun e=>e h0)] at hr
 have hg:=hrg h0
 subst h0
 clear hrg
 by_cases h3:f=3
 case neg =>
  rw [if_neg h3] at hr
  have e1:=(Prod.mk.inj hr).1
  have e2:=(Prod.mk.inj hr).2
  subst e1
  subst e2
  clear hr
  have b3:(f == 3)=false:=by rw [beq_eq_false_iff_ne];exact h3
  obtain ⟨q1,hq1⟩:∃ q,decide (lo≤pn)=q:=⟨_,rfl⟩
  obtain ⟨q2,hq2⟩:∃ q,decide (pn≤hi)=q:=⟨_,rfl⟩
  rw [hq1,hq2]
  clear h3 hg
  cases q1
  ·go_enter Tryz.func80,Tryz.ntmps80
   go_wp2_with fail
   refine (refParse_of _ _ _ hs HP).mono ?_
   rintro e w1 ⟨rfl,rfl⟩
   go_wp2
   go_quiet (fail)
   have hB:=below_keep (drew_n (w.alloc (.cells #[.int .i64 f,.int .i64 lo,.int .i64 hi,.int .i64 no] 142)) nq) (al1 ..)
   generalize (w.alloc (.cells #[.int .i64 f,.int .i64 lo,.int .i64 hi,.int .i64 no] 142)).drewN nq=wn at hB ⊢
   go_wp2
   go_ret2
   exact ⟨rfl,hB⟩
  ·go_enter Tryz.func80,Tryz.ntmps80
   go_wp2_with fail
   refine (refParse_of _ _ _ hs HP).mono ?_
   rintro e w1 ⟨rfl,rfl⟩
   go_wp2
   go_quiet (fail)
   have hB:=below_keep (drew_n (w.alloc (.cells #[.int .i64 f,.int .i64 lo,.int .i64 hi,.int .i64 no] 142)) nq) (al1 ..)
   generalize (w.alloc (.cells #[.int .i64 f,.int .i64 lo,.int .i64 hi,.int .i64 no] 142)).drewN nq=wn at hB ⊢
   go_wp2
   go_ret2
   exact ⟨rfl,hB⟩
 rw [if_pos h3] at hr
 subst h3
 have m1:(pn.tmod 1000).natAbs=pn.natAbs % 1000:=by rw [Int.natAbs_tmod];rfl
 have m2:(pn.tdiv 1000).natAbs=pn.natAbs / 1000:=by rw [Int.natAbs_tdiv];rfl
 have t1:IntKind.i64.wrap (pn.tmod 1000)=pn.tmod 1000:=IntWalk.i64_in _ (by omega)
 have t2:IntKind.i64.wrap (pn.tdiv 1000)=pn.tdiv 1000:=IntWalk.i64_in _ (by omega)
 by_cases h4:pn.tmod 1000=0
 case neg =>
  rw [if_pos h4] at hr
  cases hr
  have b4:(pn.tmod 1000 != 0)=true:=by rw [bne_iff_ne];exact h4
  clear h4 hg m1 m2
  go_enter Tryz.func80,Tryz.ntmps80
  go_wp2_with fail
  refine (refParse_of _ _ _ hs HP).mono ?_
  rintro e w1 ⟨rfl,rfl⟩
  go_wp2
  go_ret2
  exact ⟨rfl,al1 ..⟩
 rw [if_neg (fun e=>e h4)] at hr
 have e1:=(Prod.mk.inj hr).1
 have e2:=(Prod.mk.inj hr).2
 subst e1
 subst e2
 clear hr
 have b4:(pn.tmod 1000 != 0)=false:=by rw [h4];rfl
 obtain ⟨q1,hq1⟩:∃ q,decide (lo≤pn.tdiv 1000)=q:=⟨_,rfl⟩
 obtain ⟨q2,hq2⟩:∃ q,decide (pn.tdiv 1000≤hi)=q:=⟨_,rfl⟩
 rw [hq1,hq2]
 clear h4 hg m1 m2
 cases q1
 ·go_enter Tryz.func80,Tryz.ntmps80
  go_wp2_with fail
  refine (refParse_of _ _ _ hs HP).mono ?_
  rintro e w1 ⟨rfl,rfl⟩
  go_wp2
  go_quiet (fail)
  have hB:=below_keep (drew_n (w.alloc (.cells #[.int .i64 3,.int .i64 lo,.int .i64 hi,.int .i64 no] 142)) nq) (al1 ..)
  generalize (w.alloc (.cells #[.int .i64 3,.int .i64 lo,.int .i64 hi,.int .i64 no] 142)).drewN nq=wn at hB ⊢
  go_wp2
  go_ret2
  exact ⟨rfl,hB⟩
 ·go_enter Tryz.func80,Tryz.ntmps80
  go_wp2_with fail
  refine (refParse_of _ _ _ hs HP).mono ?_
  rintro e w1 ⟨rfl,rfl⟩
  go_wp2
  go_quiet (fail)
  have hB:=below_keep (drew_n (w.alloc (.cells #[.int .i64 3,.int .i64 lo,.int .i64 hi,.int .i64 no] 142)) nq) (al1 ..)
  generalize (w.alloc (.cells #[.int .i64 3,.int .i64 lo,.int .i64 hi,.int .i64 no] 142)).drewN nq=wn at hB ⊢
  go_wp2
  go_ret2
  exact ⟨rfl,hB⟩
end Go.Proofs.YtcdoicgbjoikkaaGreatDoor.att
