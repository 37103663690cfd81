/-
  Plain facts on normalization (layer 12): the graph and the options of a tree; names in the order of first mention. No function of the program is named here; no condition.
-/
import Derived.Test.YtgmidodmmlmmeaaGreatDoorMca
import Derived.Test.YtgmidodmmlmmeaaGreatDoorGraPlain
namespace Go.Proofs.YtgmidodmmlmmeaaGreatDoor.nor
open lex tre att
abbrev Nm:=List UInt8
abbrev Cl:=Nm × Int
structure En where
 fr:Int
 «to»:Int
 fp:Nm
 tp:Nm
 ats:List Pr
deriving DecidableEq
structure Sta where
 ns:List Cl
 ats:List (List Pr)
 cs:List Cl
 en:List En
 e:Int
structure Pl where
 cl:Int
 dn:List Pr
 de:List Pr
def nodeI:List Cl→Nm→Nat→Int
 | [],_,_=>-1
 | x :: t,n,i=>if x.1=n then (i:Int) else nodeI t n (i+1)
def clusd (l:List Cl)(n:Nm):Bool:=l.any fun x=>x.1 == n
def mentS (s:Sta)(n:Nm)(p:Pl):Sta :=
 if nodeI s.ns n 0 < 0 then ⟨s.ns ++ [(n,p.cl)],s.ats ++ [p.dn],s.cs,s.en,if s.e=0∧clusd s.cs n=true then 6 else s.e⟩
 else ⟨s.ns,s.ats,s.cs,s.en,if s.e=0∧clusd s.cs n=true then 6 else s.e⟩
def mentI (s:Sta)(n:Nm):Int:=if nodeI s.ns n 0 < 0 then (s.ns.length:Int) else nodeI s.ns n 0
def chgA:List (List Pr)→Int→List Pr→List (List Pr)
 | [],_,_=>[]
 | a :: t,i,l=>(if i=0 then mergeL a l else a) :: chgA t (i - 1) l
def refsS:List Pr→Sta→Pl→Sta
 | [],s,_=>s
 | r :: t,s,p=>if s.e≠0 then s else refsS t (mentS s r.1 p) p
def refsI:List Pr→Sta→Pl→List Int
 | [],_,_=>[]
 | r :: t,s,p=>if s.e≠0 then [] else mentI s r.1 :: refsI t (mentS s r.1 p) p
def endsL:List Int→List Pr→List Pr→List En
 | a :: b :: t,r :: q :: u,m=>⟨a,b,r.2,q.2,m⟩ :: endsL (b :: t) (q :: u) m
 | _,_,_=>[]
def edgesS (s:Sta)(rs ats:List Pr)(p:Pl):Sta :=
 if (refsS rs s p).e≠0 then refsS rs s p
 else ⟨(refsS rs s p).ns,(refsS rs s p).ats,(refsS rs s p).cs,(refsS rs s p).en ++ endsL (refsI rs s p) rs (mergeL p.de ats),(refsS rs s p).e⟩
def firC (k:Int):List Pr→Int
 | []=>0
 | a :: t=>if checkL k a≠0 then checkL k a else firC k t
def keyL (n:Nm)(ats:List Pr):Pr:=(n,(ats.headD ([],[])).2)
def stE (k:Int)(n:Nm)(ats:List Pr):Int:=if k=4 then firC 4 [keyL n ats] else if k=2∨(k=3∧n=wEdge) then firC 2 ats else firC 1 ats
def dflt (k:Int)(n:Nm)(ats:List Pr)(p:Pl):Pl:=if k=3 then (if n=wNode then ⟨p.cl,mergeL p.dn ats,p.de⟩ else ⟨p.cl,p.dn,mergeL p.de ats⟩) else p
mutual
def stmS:St→Pl→Sta→Sta
 | .mk k n r a b,p,s =>
  if k=1 then ⟨(mentS s n p).ns,chgA (mentS s n p).ats (mentI s n) a,(mentS s n p).cs,(mentS s n p).en,(mentS s n p).e⟩
  else if k=2 then edgesS s r a p
  else if k=5 then (if clusd s.cs n=true∨0≤nodeI s.ns n 0 then ⟨s.ns,s.ats,s.cs,s.en,6⟩ else blkS b ⟨s.cs.length,p.dn,p.de⟩ ⟨s.ns,s.ats,s.cs ++ [(n,p.cl)],s.en,s.e⟩)
  else s
def blkS:List St→Pl→Sta→Sta
 | [],_,s=>s
 | .mk k n r a b :: t,p,s=>if s.e≠0 then s else if stE k n a≠0 then ⟨s.ns,s.ats,s.cs,s.en,stE k n a⟩ else blkS t (dflt k n a p) (stmS (.mk k n r a b) p s)
end
theorem blkS_nil (p:Pl)(s:Sta):blkS [] p s=s:=by rw [blkS]
theorem blkS_cons (x:St)(t:List St)(p:Pl)(s:Sta):blkS (x :: t) p s=if s.e≠0 then s else if stE x.kind x.name x.attrs≠0 then ⟨s.ns,s.ats,s.cs,s.en,stE x.kind x.name x.attrs⟩ else blkS t (dflt x.kind x.name x.attrs p) (stmS x p s):=by
 cases x;rw [blkS];rfl
theorem stmS_1 (n:Nm)(r a:List Pr)(b:List St)(p:Pl)(s:Sta):stmS (.mk 1 n r a b) p s=⟨(mentS s n p).ns,chgA (mentS s n p).ats (mentI s n) a,(mentS s n p).cs,(mentS s n p).en,(mentS s n p).e⟩:=by rw [stmS];rfl
theorem stmS_2 (n:Nm)(r a:List Pr)(b:List St)(p:Pl)(s:Sta):stmS (.mk 2 n r a b) p s=edgesS s r a p:=by rw [stmS];rfl
theorem stmS_3 (n:Nm)(r a:List Pr)(b:List St)(p:Pl)(s:Sta):stmS (.mk 3 n r a b) p s=s:=by rw [stmS];rfl
theorem stmS_4 (n:Nm)(r a:List Pr)(b:List St)(p:Pl)(s:Sta):stmS (.mk 4 n r a b) p s=s:=by rw [stmS];rfl
theorem stmS_5 (n:Nm)(r a:List Pr)(b:List St)(p:Pl)(s:Sta):stmS (.mk 5 n r a b) p s=if clusd s.cs n=true∨0≤nodeI s.ns n 0 then ⟨s.ns,s.ats,s.cs,s.en,6⟩ else blkS b ⟨s.cs.length,p.dn,p.de⟩ ⟨s.ns,s.ats,s.cs ++ [(n,p.cl)],s.en,s.e⟩:=by rw [stmS];rfl
structure Op' where
 mode:Int
 ns:Int
 rs:Int
 mg:Int
 rd:Int
deriving DecidableEq
def rng (n lo hi:Int):Bool:=decide (lo≤n) && decide (n≤hi)
def okO (o:Op'):Bool:=rng o.mode 0 4 && rng o.ns 0 1048576 && rng o.rs 0 1048576 && rng o.mg 0 1048576 && rng o.rd 0 100
theorem ment_cs (s:Sta)(n:Nm)(p:Pl):(mentS s n p).cs=s.cs:=by unfold mentS;split <;> rfl
theorem sta_parts {s:St}{lv:Int}(h:staE s lv=0):(s.kind=1∨s.kind=2∨s.kind=3∨s.kind=4∨s.kind=5)∧(s.kind≠2→s.refs=[])∧(s.kind≠5→s.body=[]):=by
 unfold staE at h
 split at h
 ·rename_i hne;exact absurd h hne
 ·rename_i hne
  have hf:fldE s=0:=by simpa using hne
  unfold fldE at hf
  split at hf
  ·exact absurd hf (by decide)
  split at hf
  ·exact absurd hf (by decide)
  rename_i h1 h2
  refine ⟨by omega,fun hk=>?_,fun hk=>?_⟩
  ·exact List.length_eq_zero_iff.1 (Nat.le_zero.1 (Nat.not_lt.1 fun q=>h2 (Or.inr (Or.inl ⟨hk,q⟩))))
  ·exact List.length_eq_zero_iff.1 (Nat.le_zero.1 (Nat.not_lt.1 fun q=>h2 (Or.inr (Or.inr (Or.inr ⟨hk,q⟩)))))
theorem blk_e (l:List St)(p:Pl)(s:Sta)(h:(blkS l p s).e=0):s.e=0:=by
 cases l with
 | nil=>rw [blkS_nil] at h;exact h
 | cons x t =>
  rw [blkS_cons] at h
  by_cases h0:s.e=0
  ·exact h0
  ·rw [if_pos h0] at h;exact absurd h h0
end Go.Proofs.YtgmidodmmlmmeaaGreatDoor.nor
