/-
  Plain facts on normalization (layer 12): the graph and the options of a tree; names in the order of first mention. No function of the program is named here; no condition.
  What Mode and ValidOptions of the reference of layer 12 return. No condition.
  What clamp and ValidOptions of the landed code of layer 12 return; comparisons of options and of attributes. No condition.
  What Keyed and settings of the reference of layer 12 return. Conditions: statements in memory; an option's statement has an attribute.
  What settings of the reference of layer 12 returns. Conditions: statements in memory; an option's statement has an attribute; a bound on their number.
  What Options of the reference of layer 12 returns. Condition: a tree of at most 10^12 statements in memory.
  The landed code's way of normalization (layer 12) as plain functions: chains of refs in place of edges, a table of ends. No function of the program is named here; no condition.
  The landed code's edges (layer 12) as plain functions: the table of ends, the edges of chains, at most one too many; and that all together is the graph that the reference builds. No function of the program is named here; no condition.
-/
import Derived.Test.YtcdoicgbjoikkaaGreatDoorGraPlain
import Derived.Test.YtcdoicgbjoikkaaGreatDoorMce
namespace Go.Proofs.YtcdoicgbjoikkaaGreatDoor.nor
open lex tre att
abbrev Nm:=List UInt8
abbrev Cl:=Nm × Int
structure En where
 fr:Int
 «to»:Int
 fp:Nm
 tp:Nm
 ats:List Pr
deriving DecidableEq
structure Sta where
 ns:List Cl
 ats:List (List Pr)
 cs:List Cl
 en:List En
 e:Int
structure Pl where
 cl:Int
 dn:List Pr
 de:List Pr
def nodeI:List Cl→Nm→Nat→Int
 | [],_,_=>-1
 | x :: t,n,i=>if x.1=n then (i:Int) else nodeI t n (i+1)
def clusd (l:List Cl)(n:Nm):Bool:=l.any fun x=>x.1 == n
def mentS (s:Sta)(n:Nm)(p:Pl):Sta :=
 if nodeI s.ns n 0 < 0 then ⟨s.ns ++ [(n,p.cl)],s.ats ++ [p.dn],s.cs,s.en,if s.e=0∧clusd s.cs n=true then 6 else s.e⟩
 else ⟨s.ns,s.ats,s.cs,s.en,if s.e=0∧clusd s.cs n=true then 6 else s.e⟩
def mentI (s:Sta)(n:Nm):Int:=if nodeI s.ns n 0 < 0 then (s.ns.length:Int) else nodeI s.ns n 0
def chgA:List (List Pr)→Int→List Pr→List (List Pr)
 | [],_,_=>[]
 | a :: t,i,l=>(if i=0 then mergeL a l else a) :: chgA t (i - 1) l
def refsS:List Pr→Sta→Pl→Sta
 | [],s,_=>s
 | r :: t,s,p=>if s.e≠0 then s else refsS t (mentS s r.1 p) p
def refsI:List Pr→Sta→Pl→List Int
 | [],_,_=>[]
 | r :: t,s,p=>if s.e≠0 then [] else mentI s r.1 :: refsI t (mentS s r.1 p) p
def endsL:List Int→List Pr→List Pr→List En
 | a :: b :: t,r :: q :: u,m=>⟨a,b,r.2,q.2,m⟩ :: endsL (b :: t) (q :: u) m
 | _,_,_=>[]
def edgesS (s:Sta)(rs ats:List Pr)(p:Pl):Sta :=
 if (refsS rs s p).e≠0 then refsS rs s p
 else ⟨(refsS rs s p).ns,(refsS rs s p).ats,(refsS rs s p).cs,(refsS rs s p).en ++ endsL (refsI rs s p) rs (mergeL p.de ats),(refsS rs s p).e⟩
def firC (k:Int):List Pr→Int
 | []=>0
 | a :: t=>if checkL k a≠0 then checkL k a else firC k t
def keyL (n:Nm)(ats:List Pr):Pr:=(n,(ats.headD ([],[])).2)
def stE (k:Int)(n:Nm)(ats:List Pr):Int:=if k=4 then firC 4 [keyL n ats] else if k=2∨(k=3∧n=wEdge) then firC 2 ats else firC 1 ats
def dflt (k:Int)(n:Nm)(ats:List Pr)(p:Pl):Pl:=if k=3 then (if n=wNode then ⟨p.cl,mergeL p.dn ats,p.de⟩ else ⟨p.cl,p.dn,mergeL p.de ats⟩) else p
mutual
def stmS:St→Pl→Sta→Sta
 | .mk k n r a b,p,s =>
  if k=1 then ⟨(mentS s n p).ns,chgA (mentS s n p).ats (mentI s n) a,(mentS s n p).cs,(mentS s n p).en,(mentS s n p).e⟩
  else if k=2 then edgesS s r a p
  else if k=5 then (if clusd s.cs n=true∨0≤nodeI s.ns n 0 then ⟨s.ns,s.ats,s.cs,s.en,6⟩ else blkS b ⟨s.cs.length,p.dn,p.de⟩ ⟨s.ns,s.ats,s.cs ++ [(n,p.cl)],s.en,s.e⟩)
  else s
def blkS:List St→Pl→Sta→Sta
 | [],_,s=>s
 | .mk k n r a b :: t,p,s=>if s.e≠0 then s else if stE k n a≠0 then ⟨s.ns,s.ats,s.cs,s.en,stE k n a⟩ else blkS t (dflt k n a p) (stmS (.mk k n r a b) p s)
end
theorem blkS_nil (p:Pl)(s:Sta):blkS [] p s=s:=by rw [blkS]
theorem blkS_cons (x:St)(t:List St)(p:Pl)(s:Sta):blkS (x :: t) p s=if s.e≠0 then s else if stE x.kind x.name x.attrs≠0 then ⟨s.ns,s.ats,s.cs,s.en,stE x.kind x.name x.attrs⟩ else blkS t (dflt x.kind x.name x.attrs p) (stmS x p s):=by
 cases x;rw [blkS];rfl
theorem stmS_1 (n:Nm)(r a:List Pr)(b:List St)(p:Pl)(s:Sta):stmS (.mk 1 n r a b) p s=⟨(mentS s n p).ns,chgA (mentS s n p).ats (mentI s n) a,(mentS s n p).cs,(mentS s n p).en,(mentS s n p).e⟩:=by rw [stmS];rfl
theorem stmS_2 (n:Nm)(r a:List Pr)(b:List St)(p:Pl)(s:Sta):stmS (.mk 2 n r a b) p s=edgesS s r a p:=by rw [stmS];rfl
theorem stmS_3 (n:Nm)(r a:List Pr)(b:List St)(p:Pl)(s:Sta):stmS (.mk 3 n r a b) p s=s:=by rw [stmS];rfl
theorem stmS_4 (n:Nm)(r a:List Pr)(b:List St)(p:Pl)(s:Sta):stmS (.mk 4 n r a b) p s=s:=by rw [stmS];rfl
theorem stmS_5 (n:Nm)(r a:List Pr)(b:List St)(p:Pl)(s:Sta):stmS (.mk 5 n r a b) p s=if clusd s.cs n=true∨0≤nodeI s.ns n 0 then ⟨s.ns,s.ats,s.cs,s.en,6⟩ else blkS b ⟨s.cs.length,p.dn,p.de⟩ ⟨s.ns,s.ats,s.cs ++ [(n,p.cl)],s.en,s.e⟩:=by rw [stmS];rfl
def portI:List (Nm × Int)→Nm→Nat→Int
 | [],_,_=>-2
 | x :: t,n,i=>if x.1=n then (i:Int) else portI t n (i+1)
def portN (l:List (Nm × Int))(n:Nm):Int:=if n=[] then -1 else portI l n 0
def finN (x:Cl)(l:List Pr):gra.Nd :=
 ⟨x.1,if (getL l wLabel).2 then (getL l wLabel).1 else x.1,numL 1 l wWidth,numL 1 l wHeight,x.2,if (getL l wPorts).2 then (portsL (getL l wPorts).1).1 else []⟩
def portsOf (ns:List gra.Nd)(i:Int):List (Nm × Int):=match ns[i.toNat]? with | some x=>x.ps | none=>[]
def finE (ns:List gra.Nd)(x:En):gra.Ed :=
 ⟨x.fr,x.to,portN (portsOf ns x.fr) x.fp,portN (portsOf ns x.to) x.tp,(getL x.ats wLabel).1,numL 2 x.ats wWeight,numL 2 x.ats wLen⟩
def finG (n:Nm)(d:Bool)(s:Sta):gra.Gr:=⟨n,d,List.zipWith finN s.ns s.ats,s.en.map (finE (List.zipWith finN s.ns s.ats)),s.cs⟩
def emG:gra.Gr:=⟨[],false,[],[],[]⟩
def st0:Sta:=⟨[],[],[],[],0⟩
def pl0:Pl:=⟨-1,[],[]⟩
def noPort (g:gra.Gr):Bool:=g.es.any fun x=>decide (x.fp=-2) || decide (x.tp=-2)
def buildT (T:Tr):gra.Gr × Int :=
 if validT T≠0 then (emG,validT T)
 else if (blkS T.body pl0 st0).e≠0 then (emG,(blkS T.body pl0 st0).e)
 else if noPort (finG T.name T.dir (blkS T.body pl0 st0))=true then (emG,5)
 else if gra.validE (finG T.name T.dir (blkS T.body pl0 st0))≠0 then (emG,gra.validE (finG T.name T.dir (blkS T.body pl0 st0)))
 else (finG T.name T.dir (blkS T.body pl0 st0),0)
structure Op' where
 mode:Int
 ns:Int
 rs:Int
 mg:Int
 rd:Int
deriving DecidableEq
def setL (l:List (St × Int)):List Pr:=l.flatMap fun x=>if x.1.kind=4 then [keyL x.1.name x.1.attrs] else []
def optsOf (own:List Pr):Op':=⟨if modeL (getL own wMode).1 < 0 then 0 else modeL (getL own wMode).1,numL 4 own wNodesep,numL 4 own wRanksep,numL 4 own wMargin,numL 4 own wRounds⟩
def optsT (T:Tr):Op' × Int :=
 if validT T≠0 then (⟨0,0,0,0,0⟩,validT T)
 else if firC 4 (setL (preL T.body 0))≠0 then (⟨0,0,0,0,0⟩,firC 4 (setL (preL T.body 0)))
 else (optsOf ((setL (preL T.body 0)).foldl (fun own a=>mergeL own [a]) []),0)
theorem nodeI_mem (n:Nm):∀ (l:List Cl) (i:Nat),0≤nodeI l n i ↔ n∈l.map (·.1)
 | [],i=>by simp [nodeI]
 | x :: t,i=>by
  unfold nodeI
  by_cases h:x.1=n
  ·rw [if_pos h];simp [h]
  ·rw [if_neg h,nodeI_mem n t (i+1)]
   simp only [List.map_cons,List.mem_cons]
   exact ⟨Or.inr,fun q=>q.resolve_left fun e=>h e.symm⟩
theorem ment_names (s:Sta)(n:Nm)(p:Pl):(mentS s n p).ns.map (·.1)=addN (s.ns.map (·.1)) n:=by
 unfold mentS addN
 by_cases h:nodeI s.ns n 0 < 0
 ·rw [if_pos h]
  have hn:¬ (s.ns.map (·.1)).contains n=true:=by
   rw [List.contains_iff_mem,← nodeI_mem n s.ns 0];omega
  rw [if_neg hn];simp
 ·rw [if_neg h]
  have hn:(s.ns.map (·.1)).contains n=true:=by
   rw [List.contains_iff_mem,← nodeI_mem n s.ns 0];omega
  rw [if_pos hn]
theorem ment_cs (s:Sta)(n:Nm)(p:Pl):(mentS s n p).cs=s.cs:=by unfold mentS;split <;> rfl
theorem ment_en (s:Sta)(n:Nm)(p:Pl):(mentS s n p).en=s.en:=by unfold mentS;split <;> rfl
theorem refs_cs (p:Pl):∀ (l:List Pr) (s:Sta),(refsS l s p).cs=s.cs
 | [],_=>rfl
 | r :: t,s=>by
  unfold refsS
  split
  ·rfl
  ·rw [refs_cs p t,ment_cs]
theorem refs_e (p:Pl):∀ (l:List Pr) (s:Sta),(refsS l s p).e=0→s.e=0
 | [],_,h=>h
 | r :: t,s,h=>by
  unfold refsS at h
  by_cases h0:s.e=0
  ·exact h0
  ·rw [if_pos h0] at h;exact absurd h h0
theorem refs_names (p:Pl):∀ (l:List Pr) (s:Sta),(refsS l s p).e=0→(refsS l s p).ns.map (·.1)=(l.map (·.1)).foldl addN (s.ns.map (·.1))
 | [],_,_=>rfl
 | r :: t,s,h=>by
  have h0:=refs_e p (r :: t) s h
  unfold refsS at h ⊢
  rw [if_neg (by simp [h0])] at h ⊢
  rw [refs_names p t _ h,ment_names];rfl
theorem edges_names (s:Sta)(rs ats:List Pr)(p:Pl)(h:(edgesS s rs ats p).e=0):(edgesS s rs ats p).ns.map (·.1)=(rs.map (·.1)).foldl addN (s.ns.map (·.1))∧(edgesS s rs ats p).cs=s.cs:=by
 unfold edgesS at h ⊢
 split at h
 ·rename_i hne;exact absurd h hne
 ·rename_i hne
  rw [if_neg hne]
  exact ⟨refs_names p rs s h,refs_cs p rs s⟩
theorem sta_parts {s:St}{lv:Int}(h:staE s lv=0):(s.kind=1∨s.kind=2∨s.kind=3∨s.kind=4∨s.kind=5)∧(s.kind≠2→s.refs=[])∧(s.kind≠5→s.body=[]):=by
 unfold staE at h
 split at h
 ·rename_i hne;exact absurd h hne
 ·rename_i hne
  have hf:fldE s=0:=by simpa using hne
  unfold fldE at hf
  split at hf
  ·exact absurd hf (by decide)
  split at hf
  ·exact absurd hf (by decide)
  rename_i h1 h2
  refine ⟨by omega,fun hk=>?_,fun hk=>?_⟩
  ·exact List.length_eq_zero_iff.1 (Nat.le_zero.1 (Nat.not_lt.1 fun q=>h2 (Or.inr (Or.inl ⟨hk,q⟩))))
  ·exact List.length_eq_zero_iff.1 (Nat.le_zero.1 (Nat.not_lt.1 fun q=>h2 (Or.inr (Or.inr (Or.inr ⟨hk,q⟩)))))
theorem blk_e (l:List St)(p:Pl)(s:Sta)(h:(blkS l p s).e=0):s.e=0:=by
 cases l with
 | nil=>rw [blkS_nil] at h;exact h
 | cons x t =>
  rw [blkS_cons] at h
  by_cases h0:s.e=0
  ·exact h0
  ·rw [if_pos h0] at h;exact absurd h h0
theorem nms_app (a b:List (St × Int)):nmsL (a ++ b)=nmsL a ++ nmsL b:=by unfold nmsL;rw [List.flatMap_append]
theorem clu_app (a b:List (St × Int)):cluL (a ++ b)=cluL a ++ cluL b:=by unfold cluL;rw [List.flatMap_append]
theorem blk_names:(∀ x:St,∀ (p:Pl) (s:Sta) (lv:Int),(∀ y∈preS x lv,staE y.1 y.2=0)→s.e=0→(stmS x p s).e=0 →
      (stmS x p s).ns.map (·.1)=(nmsL (preS x lv)).foldl addN (s.ns.map (·.1))∧(stmS x p s).cs.map (·.1)=s.cs.map (·.1) ++ cluL (preS x lv)) ∧
    ∀ l:List St,∀ (p:Pl) (s:Sta) (lv:Int),(∀ y∈preL l lv,staE y.1 y.2=0)→(blkS l p s).e=0 →
     (blkS l p s).ns.map (·.1)=(nmsL (preL l lv)).foldl addN (s.ns.map (·.1))∧(blkS l p s).cs.map (·.1)=s.cs.map (·.1) ++ cluL (preL l lv):=by
 refine st_ind (fun k n r a b hb p s lv hv h0 he=>?_) (fun p s lv _ _=>?_) (fun x t hx ht p s lv hv he=>?_)
 ·have hs:=hv (.mk k n r a b,lv) (by rw [preS_eq];exact List.mem_cons_self ..)
  obtain ⟨hk,hr,hbd⟩:=sta_parts hs
  rw [preS_eq] at hv ⊢
  simp only [St.kind,St.refs,St.body] at hk hr hbd hv ⊢
  rcases hk with hk | hk | hk | hk | hk
  ·subst hk
   obtain rfl:=hr (by decide)
   obtain rfl:=hbd (by decide)
   rw [stmS_1] at he ⊢
   refine ⟨?_,?_⟩
   ·rw [ment_names];simp [nmsL,nmsS,preL_nil,St.kind,St.name,St.refs]
   ·rw [ment_cs];simp [cluL,preL_nil,St.kind]
  ·subst hk
   obtain rfl:=hbd (by decide)
   rw [stmS_2] at he ⊢
   obtain ⟨q1,q2⟩:=edges_names s r a p he
   refine ⟨?_,?_⟩
   ·rw [q1];simp [nmsL,nmsS,preL_nil,St.kind,St.name,St.refs]
   ·rw [q2];simp [cluL,preL_nil,St.kind]
  ·subst hk
   obtain rfl:=hr (by decide)
   obtain rfl:=hbd (by decide)
   rw [stmS_3]
   refine ⟨?_,?_⟩
   ·simp [nmsL,nmsS,preL_nil,St.kind,St.name,St.refs]
   ·simp [cluL,preL_nil,St.kind]
  ·subst hk
   obtain rfl:=hr (by decide)
   obtain rfl:=hbd (by decide)
   rw [stmS_4]
   refine ⟨?_,?_⟩
   ·simp [nmsL,nmsS,preL_nil,St.kind,St.name,St.refs]
   ·simp [cluL,preL_nil,St.kind]
  ·subst hk
   obtain rfl:=hr (by decide)
   rw [stmS_5] at he ⊢
   split at he
   ·exact absurd (show (6:Int)=0 from he) (by decide)
   ·rename_i hc
    rw [if_neg hc]
    obtain ⟨q1,q2⟩:=hb _ _ (lv+1) (fun y hy=>hv y (List.mem_cons_of_mem _ (by simpa using hy))) he
    refine ⟨?_,?_⟩
    ·rw [q1];simp [nmsL,nmsS,St.kind,St.name,St.refs]
    ·rw [q2];simp [cluL,St.kind,St.name]
 ·rw [blkS_nil,preL_nil];simp [nmsL,cluL]
 ·have h0:=blk_e _ _ _ he
  rw [preL_cons] at hv ⊢
  rw [blkS_cons,if_neg (by simp [h0])] at he ⊢
  split at he
  ·rename_i hne;exact absurd he hne
  ·rename_i hne
   rw [if_neg hne]
   obtain ⟨q1,q2⟩:=ht _ _ lv (fun y hy=>hv y (List.mem_append_right _ hy)) he
   obtain ⟨r1,r2⟩:=hx p s lv (fun y hy=>hv y (List.mem_append_left _ hy)) h0 (blk_e _ _ _ he)
   refine ⟨?_,?_⟩
   ·rw [q1,r1,nms_app,List.foldl_append]
   ·rw [q2,r2,clu_app,List.append_assoc]
end Go.Proofs.YtcdoicgbjoikkaaGreatDoor.nor
namespace Go.Proofs.YtcdoicgbjoikkaaGreatDoor.nor
open Go.RowKit lex tre att
theorem mode_lit (s:List UInt8):modeL s=if s=[108,97,121,101,114,101,100] then 0 else if s=[111,114,116,104,111,103,111,110,97,108] then 1 else if s=[115,116,114,97,105,103,104,116] then 2 else if s=[116,105,100,121] then 3 else if s=[114,97,100,105,97,108] then 4 else -1:=by
 unfold modeL modes idxA
 by_cases h0:s=[108,97,121,101,114,101,100]
 ·rw [if_pos h0.symm,if_pos h0]
 rw [if_neg (fun e=>h0 e.symm),if_neg h0]
 unfold idxA
 by_cases h1:s=[111,114,116,104,111,103,111,110,97,108]
 ·rw [if_pos h1.symm,if_pos h1];rfl
 rw [if_neg (fun e=>h1 e.symm),if_neg h1]
 unfold idxA
 by_cases h2:s=[115,116,114,97,105,103,104,116]
 ·rw [if_pos h2.symm,if_pos h2];rfl
 rw [if_neg (fun e=>h2 e.symm),if_neg h2]
 unfold idxA
 by_cases h3:s=[116,105,100,121]
 ·rw [if_pos h3.symm,if_pos h3];rfl
 rw [if_neg (fun e=>h3 e.symm),if_neg h3]
 unfold idxA
 by_cases h4:s=[114,97,100,105,97,108]
 ·rw [if_pos h4.symm,if_pos h4];rfl
 rw [if_neg (fun e=>h4 e.symm),if_neg h4]
 rfl
set_option maxHeartbeats 2000000 in
theorem rmode_of (s:ByteArray)(m:Int)(w:World)(h:Hid ((if modeL s.data.toList < 0 then 0 else modeL s.data.toList)=m)) :
    Calls Tryz.prog 40 #[.string s] w fun e w'=>e=.returned (.int .i64 m)∧w=w':=by
 have hm:=h.out
 rw [mode_lit] at hm
 obtain ⟨l,hl⟩:∃ l,s.data.toList=l:=⟨_,rfl⟩
 rw [hl] at hm
 have hl2:s.toList=l:=by rw [ByteArray.toList_eq];exact hl
 clear h
 by_cases h1:l=[111,114,116,104,111,103,111,110,97,108]
 ·have z1:(s.toList == [111,114,116,104,111,103,111,110,97,108])=true:=by rw [hl2,beq_iff_eq];exact h1
  obtain rfl:1=m:=by rw [← hm,h1];rfl
  clear hl hl2 hm h1
  go_enter Tryz.func40,Tryz.ntmps40
  go_wp2
  go_ret
  exact ⟨rfl,rfl⟩
 have z1:(s.toList == [111,114,116,104,111,103,111,110,97,108])=false:=by rw [hl2,beq_eq_false_iff_ne];exact h1
 by_cases h2:l=[115,116,114,97,105,103,104,116]
 ·have z2:(s.toList == [115,116,114,97,105,103,104,116])=true:=by rw [hl2,beq_iff_eq];exact h2
  obtain rfl:2=m:=by rw [← hm,h2];rfl
  clear hl hl2 hm h1 h2
  go_enter Tryz.func40,Tryz.ntmps40
  go_wp2
  go_ret
  exact ⟨rfl,rfl⟩
 have z2:(s.toList == [115,116,114,97,105,103,104,116])=false:=by rw [hl2,beq_eq_false_iff_ne];exact h2
 by_cases h3:l=[116,105,100,121]
 ·have z3:(s.toList == [116,105,100,121])=true:=by rw [hl2,beq_iff_eq];exact h3
  obtain rfl:3=m:=by rw [← hm,h3];rfl
  clear hl hl2 hm h1 h2 h3
  go_enter Tryz.func40,Tryz.ntmps40
  go_wp2
  go_ret
  exact ⟨rfl,rfl⟩
 have z3:(s.toList == [116,105,100,121])=false:=by rw [hl2,beq_eq_false_iff_ne];exact h3
 by_cases h4:l=[114,97,100,105,97,108]
 ·have z4:(s.toList == [114,97,100,105,97,108])=true:=by rw [hl2,beq_iff_eq];exact h4
  obtain rfl:4=m:=by rw [← hm,h4];rfl
  clear hl hl2 hm h1 h2 h3 h4
  go_enter Tryz.func40,Tryz.ntmps40
  go_wp2
  go_ret
  exact ⟨rfl,rfl⟩
 have z4:(s.toList == [114,97,100,105,97,108])=false:=by rw [hl2,beq_eq_false_iff_ne];exact h4
 obtain rfl:0=m:=by
  rw [← hm,if_neg h1,if_neg h2,if_neg h3,if_neg h4]
  by_cases h0:l=[108,97,121,101,114,101,100]
  ·rw [if_pos h0];rfl
  ·rw [if_neg h0];rfl
 clear hl hl2 hm h1 h2 h3 h4
 go_enter Tryz.func40,Tryz.ntmps40
 go_wp2
 go_ret
 exact ⟨rfl,rfl⟩
def opV (o:Op'):Value:=.agg #[.int .i64 o.mode,.int .i64 o.ns,.int .i64 o.rs,.int .i64 o.mg,.int .i64 o.rd]
theorem guard_op:Tryz.prog.eqGuardType Tryz.prog.depth 38=false:=by kernel_rfl
theorem eql_op (u v:Op')(dq:Bool)(h:Hid (decide (u=v)=dq))(w:World):(binOp .eql 38 (.agg #[.int .i64 u.mode,.int .i64 u.ns,.int .i64 u.rs,.int .i64 u.mg,.int .i64 u.rd]) (.agg #[.int .i64 v.mode,.int .i64 v.ns,.int .i64 v.rs,.int .i64 v.mg,.int .i64 v.rd])).run Tryz.prog w=.ok (.bool dq) w:=by
 have hu:Tryz.prog.underlying 38=some (.struct (Tryz.prog.fieldsOf 38)):=by kernel_rfl
 have hp:Tryz.prog.stoodInHeld 38=false:=by kernel_rfl
 obtain ⟨a0,a1,a2,a3,a4⟩:=u
 obtain ⟨c0,c1,c2,c3,c4⟩:=v
 simp only [Op'.mk.injEq] at h
 rw [run_eql_struct,run_equalIn_agg w 9999 _ _ _ hu hp,← h.out]
 by_cases h0:a0=c0 <;> by_cases h1:a1=c1 <;> by_cases h2:a2=c2 <;> by_cases h3:a3=c3 <;> by_cases h4:a4=c4 <;> simp [go_sem,Op.eqFields,Program.fieldsOf,Tryz.underlying38,Tryz.underlying3,h0,h1,h2,h3,h4]
theorem eql_att (u v:Pr)(dq:Bool)(h:Hid (decide (u=v)=dq))(w:World):(binOp .eql 82 (.agg #[.string (bb u.1),.string (bb u.2)]) (.agg #[.string (bb v.1),.string (bb v.2)])).run Tryz.prog w=.ok (.bool dq) w:=by
 have hu:Tryz.prog.underlying 82=some (.struct (Tryz.prog.fieldsOf 82)):=by kernel_rfl
 have hp:Tryz.prog.stoodInHeld 82=false:=by kernel_rfl
 obtain ⟨a,b⟩:=u
 obtain ⟨c,d⟩:=v
 rw [run_eql_struct,run_equalIn_agg w 9999 _ _ _ hu hp,← h.out]
 by_cases h1:a=c <;> by_cases h2:b=d <;> simp [go_sem,Op.eqFields,Program.fieldsOf,Tryz.underlying82,Tryz.underlying9,ByteArray.toList_eq,h1,h2]
abbrev at5 (W:World)(b:Nat)(o:Op'):Prop:=W.cell? ⟨b,0,none⟩=some (.int .i64 o.mode)∧W.cell? ⟨b,1,none⟩=some (.int .i64 o.ns)∧W.cell? ⟨b,2,none⟩=some (.int .i64 o.rs)∧W.cell? ⟨b,3,none⟩=some (.int .i64 o.mg)∧W.cell? ⟨b,4,none⟩=some (.int .i64 o.rd)
theorem at5_new (w:World)(o:Op')(t:TypeId):at5 (w.alloc (.cells #[.int .i64 o.mode,.int .i64 o.ns,.int .i64 o.rs,.int .i64 o.mg,.int .i64 o.rd] t)) w.heap.size o:=by
 refine ⟨?_,?_,?_,?_,?_⟩ <;> go_simp
def sbx (W:World)(b:Nat)(x y:ByteArray):Prop:=W.cell? ⟨b,0,none⟩=some (.string x)∧W.cell? ⟨b,1,none⟩=some (.string y)∧W.frozen? ⟨b,0,none⟩=false∧W.frozen? ⟨b,1,none⟩=false
theorem sbx_new (w:World)(x y:ByteArray)(t:TypeId):sbx (w.alloc (.cells #[.string x,.string y] t)) w.heap.size x y:=by
 refine ⟨?_,?_,?_,?_⟩ <;> go_simp
def tbx (W:World)(b:Nat)(k:Int)(n:ByteArray)(rv av bv:Value):Prop:=W.cell? ⟨b,0,none⟩=some (.int .i64 k)∧W.cell? ⟨b,1,none⟩=some (.string n)∧W.cell? ⟨b,2,none⟩=some rv∧W.cell? ⟨b,3,none⟩=some av∧W.cell? ⟨b,4,none⟩=some bv
theorem tbx_new (w:World)(k:Int)(n:ByteArray)(ro ao bo:Option Addr)(rn rc an ac bn bc:Nat)(t:TypeId):tbx (w.alloc (.cells #[.int .i64 k,.string n,.slice ro rn rc,.slice ao an ac,.slice bo bn bc] t)) w.heap.size k n (.slice ro rn rc) (.slice ao an ac) (.slice bo bn bc):=by
 refine ⟨?_,?_,?_,?_,?_⟩ <;> go_simp
theorem tbx_keep {w w':World}{b:Nat}{k:Int}{n:ByteArray}{rv av bv:Value}(h:tbx w b k n rv av bv)(hb:Below w.heap.size w w'):tbx w' b k n rv av bv:=by
 obtain ⟨a0,a1,a2,a3,a4⟩:=h
 exact ⟨cell_keep hb a0,cell_keep hb a1,cell_keep hb a2,cell_keep hb a3,cell_keep hb a4⟩
set_option maxRecDepth 100000 in
set_option maxHeartbeats 4000000 in
theorem keyed_of (k:Int)(n:ByteArray)(ro bo:Option Addr)(rn rc bn bc:Nat)(av:Value)(a:Pr)(t:List Pr)(w:World)(h:Hid (Prs w av (a :: t))) :
    Calls Tryz.prog 66 #[.agg #[.int .i64 k,.string n,.slice ro rn rc,av,.slice bo bn bc]] w fun e w'=>e=.returned (.agg #[.string n,.string (bb a.2)])∧Below w.heap.size w w':=by
 have hmx:Tryz.prog.follows .mixedOrders=true:=by kernel_rfl
 obtain ⟨ao,ac,rfl,-,-,hA⟩:=id h.out
 obtain ⟨A,rfl,hat⟩:=hA (by simp)
 have h0:=hat 0 (by simp)
 unfold prAt at h0
 simp only [List.getElem_cons_zero,Nat.zero_mul] at h0
 obtain ⟨-,q1,-⟩:=h0
 obtain ⟨Y,hY⟩:∃ Y,bb a.2=Y:=⟨_,rfl⟩
 obtain ⟨L,hL⟩:∃ L,t.length+1=L:=⟨_,rfl⟩
 have hLp:(0:Int) < (L:Int):=by omega
 have hLn:0 < L:=by omega
 have hA0:A.add 0=A:=by unfold Addr.add;rw [if_pos rfl]
 rw [hA0] at q1
 rw [hY] at q1
 rw [hY]
 simp only [List.length_cons,hL]
 have hB:=al2 w (.cells #[.int .i64 k,.string n,.slice ro rn rc,.slice (some A) L ac,.slice bo bn bc] 56) (.cells #[.string ⟨#[]⟩,.string ⟨#[]⟩] 82)
 have hT:tbx ((w.alloc (.cells #[.int .i64 k,.string n,.slice ro rn rc,.slice (some A) L ac,.slice bo bn bc] 56)).alloc (.cells #[.string ⟨#[]⟩,.string ⟨#[]⟩] 82)) w.heap.size k n (.slice ro rn rc) (.slice (some A) L ac) (.slice bo bn bc):=tbx_keep (tbx_new ..) (al1 ..)
 have hS:sbx ((w.alloc (.cells #[.int .i64 k,.string n,.slice ro rn rc,.slice (some A) L ac,.slice bo bn bc] 56)).alloc (.cells #[.string ⟨#[]⟩,.string ⟨#[]⟩] 82)) (w.heap.size+1) ⟨#[]⟩ ⟨#[]⟩:=by
  have:=sbx_new (w.alloc (.cells #[.int .i64 k,.string n,.slice ro rn rc,.slice (some A) L ac,.slice bo bn bc] 56)) ⟨#[]⟩ ⟨#[]⟩ 82
  rwa [World.size_alloc] at this
 have q1':=cell_later' hB q1
 obtain ⟨W2,hW2⟩:∃ W2,(w.alloc (.cells #[.int .i64 k,.string n,.slice ro rn rc,.slice (some A) L ac,.slice bo bn bc] 56)).alloc (.cells #[.string ⟨#[]⟩,.string ⟨#[]⟩] 82)=W2:=⟨_,rfl⟩
 rw [hW2] at hB hT hS q1'
 have HB:=Lh hB
 have HT:=Lh hT
 have HS:=Lh hS
 have HQ:=Lh q1'
 have HW2:=Lh hW2
 clear hB hT hS q1' q1 hW2 hat hA hY hL h
 go_enter Tryz.func66,Tryz.ntmps66
 go_wp2_with fail
 rw [HW2.out]
 have hBd:=HB.out.drew
 have hTd:=tbx_keep HT.out (Below.refl W2.heap.size W2).drew
 have hSd:sbx W2.drew (w.heap.size+1) ⟨#[]⟩ ⟨#[]⟩:=HS.out
 have hQd:=cell_later' (Below.refl W2.heap.size W2).drew HQ.out
 refine wp_region_still_tail 8 (by kernel_rfl) (by kernel_rfl) ?_
 change wpStill _ _ W2.drew (fun a'=>wpList _ _ _ _ a' W2.drew) _ _
 generalize W2.drew=wd at *
 obtain ⟨t0,t1,t2,t3,t4⟩:=hTd
 obtain ⟨s0,s1,s2,s3⟩:=hSd
 simp only [List.take_succ_cons,List.take_zero,List.drop_succ_cons,List.drop_zero]
 repeat still_step
 refine wpStill_nil ?_
 go_wp2
 have r0:(wd.setCell ⟨w.heap.size+1,0,none⟩ (.string n)).cell? ⟨w.heap.size+1,0,none⟩=some (.string n):=by go_simp
 have r1:((wd.setCell ⟨w.heap.size+1,0,none⟩ (.string n)).setCell ⟨w.heap.size+1,1,none⟩ (.string Y)).cell? ⟨w.heap.size+1,1,none⟩=some (.string Y):=by go_simp
 exact bodyPost_ret (v:=.agg #[.string n,.string Y]) (by simp [results,Tryz.results66,go_sem,r0,r1]) rfl ⟨rfl,(hBd.setCell (by simp) _).setCell (by simp) _⟩
theorem setL_app (a b:List (St × Int)):setL (a ++ b)=setL a ++ setL b:=by unfold setL;rw [List.flatMap_append]
theorem setL_lv:(∀ x:St,∀ a b,setL (preS x a)=setL (preS x b))∧∀ l:List St,∀ a b,setL (preL l a)=setL (preL l b) :=
 st_ind (fun k n r at' b hb x y=>by
  rw [preS_eq,preS_eq]
  show setL ([_] ++ _)=setL ([_] ++ _)
  rw [setL_app,setL_app]
  simp only [St.body]
  rw [hb _ (if (St.mk k n r at' b).kind=5 then y+1 else y)];rfl) (fun _ _=>rfl) (fun x t hx ht a b=>by rw [preL_cons,preL_cons,setL_app,setL_app,hx a b,ht a b])
def optL (l:List St):List Pr:=setL (preL l 0)
theorem optL_cons (x:St)(t:List St):optL (x :: t)=((if x.kind=4 then [keyL x.name x.attrs] else []) ++ optL x.body) ++ optL t:=by
 unfold optL
 rw [preL_cons,setL_app,preS_eq]
 show setL ([_] ++ _) ++ _=_
 rw [setL_app,setL_lv.2 x.body _ 0]
 have e:setL [(x,0)]=if x.kind=4 then [keyL x.name x.attrs] else []:=by unfold setL;simp
 rw [e]
theorem optL_take {l:List St}{k:Nat}(h:k < l.length):optL (l.take (k+1))=optL (l.take k) ++ ((if l[k].kind=4 then [keyL l[k].name l[k].attrs] else []) ++ optL l[k].body):=by
 rw [List.take_succ_eq_append_getElem h]
 unfold optL
 rw [preL_app,setL_app]
 congr 1
 have:=optL_cons l[k] []
 unfold optL at this
 rw [this,preL_nil]
 simp [setL]
theorem optL_len:(∀ x:St,∀ a,(setL (preS x a)).length≤(preS x a).length)∧∀ l:List St,∀ a,(setL (preL l a)).length≤(preL l a).length:=by
 have key:∀ L:List (St × Int),(setL L).length≤L.length:=by
  intro L
  induction L with
  | nil=>exact Nat.le_refl _
  | cons x t ih =>
   show (setL ([x] ++ t)).length≤_
   rw [setL_app,List.length_append,List.length_cons]
   have:(setL [x]).length≤1:=by unfold setL;simp only [List.flatMap_cons,List.flatMap_nil,List.append_nil];split <;> simp
   omega
 exact ⟨fun x a=>key _,fun l a=>key _⟩
def SetHas (l:List St):Prop:=∀ x∈preL l 0,x.1.kind=4→x.1.attrs≠[]
theorem SetHas.at {l:List St}(h:SetHas l){k:Nat}(hk:k < l.length):(l[k].kind=4→l[k].attrs≠[])∧SetHas l[k].body:=by
 have hmem:∀ y∈preS l[k] 0,y∈preL l 0:=by
  intro y hy
  have e:l=l.take k ++ l[k] :: l.drop (k+1):=by rw [← List.drop_eq_getElem_cons hk,List.take_append_drop]
  rw [e,preL_app,preL_cons]
  exact List.mem_append_right _ (List.mem_append_left _ hy)
 refine ⟨fun h4=>h (l[k],0) (hmem _ (by rw [preS_eq];exact List.mem_cons_self ..)) h4,fun x hx h4=>?_⟩
 obtain ⟨lv,hl⟩:=pre_mem.2 l[k].body 0 (if l[k].kind=5 then (0:Int)+1 else 0) x hx
 exact h (x.1,lv) (hmem _ (by rw [preS_eq];exact List.mem_cons_of_mem _ hl)) h4
theorem cnt_take {l:List St}{k:Nat}(h:k < l.length):cnt (l.take (k+1))=cnt (l.take k)+1+cnt l[k].body∧cnt (l.take (k+1))≤cnt l:=by
 have e:l=l.take (k+1) ++ l.drop (k+1):=(List.take_append_drop ..).symm
 have e1:cnt l=cnt (l.take (k+1))+cnt (l.drop (k+1)):=by
  have:cnt (l.take (k+1) ++ l.drop (k+1))=cnt (l.take (k+1))+cnt (l.drop (k+1)):=by unfold cnt;rw [preL_app,List.length_append]
  rw [← e] at this;exact this
 refine ⟨?_,by omega⟩
 rw [List.take_succ_eq_append_getElem h]
 have:cnt (l.take k ++ [l[k]])=cnt (l.take k)+cnt [l[k]]:=by unfold cnt;rw [preL_app,List.length_append]
 rw [this,cnt_cons,cnt_nil];omega
theorem opt_len (l:List St):(optL l).length≤cnt l:=optL_len.2 l 0
theorem nm_len {l:List UInt8}(h:isNm l=true):l.length≤16:=by
 unfold isNm at h
 simp only [Bool.and_eq_true,decide_eq_true_eq] at h
 omega
theorem attL_ok (k:Int):∀ (l done:List Pr),attL k done l=0→∀ a∈l,a.2.length≤32∧(k≠4→isNm a.1=true)
 | [],_,_,a,ha=>by cases ha
 | x :: t,done,h,a,ha=>by
  unfold attL at h
  split at h
  ·exact absurd h (by decide)
  rename_i h1
  split at h
  ·exact absurd h (by decide)
  split at h
  ·exact absurd h (by decide)
  rename_i h3
  split at h
  ·exact absurd h (by decide)
  rcases List.mem_cons.1 ha with rfl | ha
  ·refine ⟨by omega,fun hk=>?_⟩
   cases hq:isNm a.1
   ·exact absurd ⟨hk,hq⟩ h1
   ·rfl
  ·exact attL_ok k t _ h a ha
theorem sta_attrs {s:St}{lv:Int}(h:staE s lv=0):(∀ a∈s.attrs,a.2.length≤32∧(s.kind≠4→isNm a.1=true))∧s.attrs.length≤16∧(s.kind=4→s.attrs≠[])∧((s.kind≠2∧s.kind≠3)→isNm s.name=true):=by
 unfold staE at h
 split at h
 ·rename_i hne;exact absurd h hne
 rename_i hf
 have hf0:fldE s=0:=by simpa using hf
 split at h
 ·exact absurd h (by decide)
 split at h
 ·exact absurd h (by decide)
 rename_i hnm
 split at h
 ·exact absurd h (by decide)
 unfold attE at h
 split at h
 ·exact absurd h (by decide)
 rename_i h16
 refine ⟨attL_ok s.kind s.attrs [] h,by omega,fun h4=>?_,fun hk=>?_⟩
 ·intro e
  unfold fldE at hf0
  rw [e] at hf0
  simp [h4] at hf0
 ·cases hq:isNm s.name
  ·exact absurd ⟨hk.1,hk.2,hq⟩ hnm
  ·rfl
theorem setL_ok {L:List (St × Int)}(h:∀ x∈L,staE x.1 x.2=0):∀ r∈setL L,r.1.length≤16∧r.2.length≤32:=by
 intro r hr
 unfold setL at hr
 rw [List.mem_flatMap] at hr
 obtain ⟨x,hx,hr⟩:=hr
 split at hr
 ·rename_i h4
  simp only [List.mem_cons,List.not_mem_nil,or_false] at hr
  subst hr
  obtain ⟨q1,-,q3,q4⟩:=sta_attrs (h x hx)
  refine ⟨nm_len (q4 ⟨by omega,by omega⟩),?_⟩
  obtain ⟨a,t,ha⟩:=List.exists_cons_of_ne_nil (q3 h4)
  show ((x.1.attrs.headD ([],[])).2).length≤32
  rw [ha]
  exact (q1 a (by rw [ha];exact List.mem_cons_self ..)).1
 ·cases hr
theorem firC_drop {k:Int}{L:List Pr}{i:Nat}(h:i < L.length):firC k (L.drop i)=if checkL k L[i]≠0 then checkL k L[i] else firC k (L.drop (i+1)):=by
 rw [List.drop_eq_getElem_cons h];rfl
theorem prs_one (w:World)(a:Pr)(h:a.1.length≤maxLen∧a.2.length≤maxLen)(t:TypeId):Prs (w.alloc (.cells #[.string (bb a.1),.string (bb a.2)] t)) (.slice (some ⟨w.heap.size,0,none⟩) 1 1) [a]:=by
 have h0:=World.ownsRow_lit (base:=0) (e:=t) (size:=2) w #[.string (bb a.1),.string (bb a.2)] 1 (Nat.zero_le _) (by decide) rfl
 exact own_prs (l:=[a]) h0 (fun r hr=>by simp only [List.mem_cons,List.not_mem_nil,or_false] at hr;subst hr;exact h)
def obx (W:World)(b:Nat)(v0 v1 v2 v3 v4:Int):Prop:=W.cell? ⟨b,0,none⟩=some (.int .i64 v0)∧W.cell? ⟨b,1,none⟩=some (.int .i64 v1)∧W.cell? ⟨b,2,none⟩=some (.int .i64 v2)∧W.cell? ⟨b,3,none⟩=some (.int .i64 v3)∧W.cell? ⟨b,4,none⟩=some (.int .i64 v4) ∧
 W.frozen? ⟨b,0,none⟩=false∧W.frozen? ⟨b,1,none⟩=false∧W.frozen? ⟨b,2,none⟩=false∧W.frozen? ⟨b,3,none⟩=false∧W.frozen? ⟨b,4,none⟩=false
theorem obx_new (w:World)(a b c d e:Int)(t:TypeId):obx (w.alloc (.cells #[.int .i64 a,.int .i64 b,.int .i64 c,.int .i64 d,.int .i64 e] t)) w.heap.size a b c d e:=by
 refine ⟨?_,?_,?_,?_,?_,?_,?_,?_,?_,?_⟩ <;> go_simp
theorem obx_keep {w w':World}{b:Nat}{v0 v1 v2 v3 v4:Int}(h:obx w b v0 v1 v2 v3 v4)(hb:Below w.heap.size w w'):obx w' b v0 v1 v2 v3 v4:=by
 obtain ⟨a0,a1,a2,a3,a4,f0,f1,f2,f3,f4⟩:=h
 exact ⟨cell_keep hb a0,cell_keep hb a1,cell_keep hb a2,cell_keep hb a3,cell_keep hb a4,fr_keep hb a0 f0,fr_keep hb a1 f1,fr_keep hb a2 f2,fr_keep hb a3 f3,fr_keep hb a4 f4⟩
end Go.Proofs.YtcdoicgbjoikkaaGreatDoor.nor
namespace Go.Proofs.YtcdoicgbjoikkaaGreatDoor.nor
open lex tre att
structure Bs where
 ns:List Cl
 ats:List (List Pr)
 cs:List Cl
 ch:List (List Pr × List Pr)
def mentC (s:Bs)(n:Nm)(p:Pl):Bs:=if nodeI s.ns n 0 < 0 then ⟨s.ns ++ [(n,p.cl)],s.ats ++ [p.dn],s.cs,s.ch⟩ else s
def refsC:List Pr→Bs→Pl→Bs × Int
 | [],s,_=>(s,0)
 | r :: t,s,p=>if clusd s.cs r.1=true then (s,6) else refsC t (mentC s r.1 p) p
mutual
def stmC:St→Pl→Bs→Bs × Int
 | .mk k n r a b,p,s =>
  if k=1 then (if clusd s.cs n=true then (s,6) else (⟨(mentC s n p).ns,chgA (mentC s n p).ats (nodeI (mentC s n p).ns n 0) a,(mentC s n p).cs,(mentC s n p).ch⟩,0))
  else if k=2 then (if (refsC r s p).2≠0 then ((refsC r s p).1,(refsC r s p).2) else (⟨(refsC r s p).1.ns,(refsC r s p).1.ats,(refsC r s p).1.cs,(refsC r s p).1.ch ++ [(r,mergeL p.de a)]⟩,0))
  else if k=5 then (if clusd s.cs n=true∨0≤nodeI s.ns n 0 then (s,6) else blkC b ⟨s.cs.length,p.dn,p.de⟩ ⟨s.ns,s.ats,s.cs ++ [(n,p.cl)],s.ch⟩)
  else (s,0)
def blkC:List St→Pl→Bs→Bs × Int
 | [],_,s=>(s,0)
 | .mk k n r a b :: t,p,s=>if stE k n a≠0 then (s,stE k n a) else if (stmC (.mk k n r a b) (dflt k n a p) s).2≠0 then ((stmC (.mk k n r a b) (dflt k n a p) s).1,(stmC (.mk k n r a b) (dflt k n a p) s).2) else blkC t (dflt k n a p) (stmC (.mk k n r a b) (dflt k n a p) s).1
end
theorem blkC_nil (p:Pl)(s:Bs):blkC [] p s=(s,0):=by rw [blkC]
theorem blkC_cons (x:St)(t:List St)(p:Pl)(s:Bs):blkC (x :: t) p s=if stE x.kind x.name x.attrs≠0 then (s,stE x.kind x.name x.attrs) else if (stmC x (dflt x.kind x.name x.attrs p) s).2≠0 then ((stmC x (dflt x.kind x.name x.attrs p) s).1,(stmC x (dflt x.kind x.name x.attrs p) s).2) else blkC t (dflt x.kind x.name x.attrs p) (stmC x (dflt x.kind x.name x.attrs p) s).1:=by
 cases x;rw [blkC];rfl
theorem stmC_1 (n:Nm)(r a:List Pr)(b:List St)(p:Pl)(s:Bs):stmC (.mk 1 n r a b) p s=if clusd s.cs n=true then (s,6) else (⟨(mentC s n p).ns,chgA (mentC s n p).ats (nodeI (mentC s n p).ns n 0) a,(mentC s n p).cs,(mentC s n p).ch⟩,0):=by rw [stmC];rfl
theorem stmC_2 (n:Nm)(r a:List Pr)(b:List St)(p:Pl)(s:Bs):stmC (.mk 2 n r a b) p s=if (refsC r s p).2≠0 then ((refsC r s p).1,(refsC r s p).2) else (⟨(refsC r s p).1.ns,(refsC r s p).1.ats,(refsC r s p).1.cs,(refsC r s p).1.ch ++ [(r,mergeL p.de a)]⟩,0):=by rw [stmC];rfl
theorem stmC_5 (n:Nm)(r a:List Pr)(b:List St)(p:Pl)(s:Bs):stmC (.mk 5 n r a b) p s=if clusd s.cs n=true∨0≤nodeI s.ns n 0 then (s,6) else blkC b ⟨s.cs.length,p.dn,p.de⟩ ⟨s.ns,s.ats,s.cs ++ [(n,p.cl)],s.ch⟩:=by rw [stmC];rfl
theorem stmC_n {k:Int}(h1:k≠1)(h2:k≠2)(h5:k≠5){n:Nm}{r a:List Pr}{b:List St}{p:Pl}{s:Bs}:stmC (.mk k n r a b) p s=(s,0):=by rw [stmC,if_neg h1,if_neg h2,if_neg h5]
theorem nodeI_app (m:Nm)(x:Cl):∀ (l:List Cl) (i:Nat),nodeI (l ++ [x]) m i=if 0≤nodeI l m i then nodeI l m i else if x.1=m then ((i+l.length:Nat):Int) else -1
 | [],i=>by simp [nodeI]
 | y :: t,i=>by
  rw [List.cons_append]
  unfold nodeI
  by_cases h:y.1=m
  ·simp only [if_pos h];rw [if_pos (by omega)]
  ·simp only [if_neg h]
   rw [nodeI_app m x t (i+1),List.length_cons,show i+1+t.length=i+(t.length+1) by omega]
theorem nodeI_lt (n:Nm):∀ (l:List Cl) (i:Nat),nodeI l n i < ((i+l.length:Nat):Int)
 | [],i=>by show (-1:Int) < _;omega
 | x :: t,i=>by
  unfold nodeI
  split
  ·rw [List.length_cons];omega
  ·have:=nodeI_lt n t (i+1)
   rw [List.length_cons];omega
def enF (ns:List Cl)(ch:List (List Pr × List Pr)):List En:=ch.flatMap fun c=>endsL (c.1.map fun r=>nodeI ns r.1 0) c.1 c.2
structure Rel (c:Bs)(s:Sta):Prop where
 ns:s.ns=c.ns
 ats:s.ats=c.ats
 cs:s.cs=c.cs
 en:s.en=enF c.ns c.ch
 e:s.e=0
 kn:∀ x∈c.ch,∀ r∈x.1,0≤nodeI c.ns r.1 0
theorem idx_same {ns:List Cl}{x:Cl}{l:List Pr}(h:∀ r∈l,0≤nodeI ns r.1 0):l.map (fun r=>nodeI (ns ++ [x]) r.1 0)=l.map (fun r=>nodeI ns r.1 0) :=
 List.map_congr_left fun r hr=>by rw [nodeI_app,if_pos (h r hr)]
theorem enF_grow {ns:List Cl}{x:Cl}:∀ {ch:List (List Pr × List Pr)},(∀ y∈ch,∀ r∈y.1,0≤nodeI ns r.1 0)→enF (ns ++ [x]) ch=enF ns ch
 | [],_=>rfl
 | c :: t,h=>by
  show endsL _ _ _ ++ enF (ns ++ [x]) t=endsL _ _ _ ++ enF ns t
  rw [enF_grow fun y hy=>h y (List.mem_cons_of_mem _ hy),idx_same (h c (List.mem_cons_self ..))]
theorem ge_grow {ns:List Cl}{x:Cl}{n:Nm}(h:0≤nodeI ns n 0):0≤nodeI (ns ++ [x]) n 0:=by rw [nodeI_app,if_pos h];exact h
theorem ment_dup {c:Bs}{s:Sta}(h:Rel c s)(n:Nm)(p:Pl)(hc:clusd c.cs n=true):(mentS s n p).e=6:=by
 unfold mentS
 rw [h.cs]
 split
 ·exact if_pos ⟨h.e,hc⟩
 ·exact if_pos ⟨h.e,hc⟩
theorem ment_rel {c:Bs}{s:Sta}(h:Rel c s)(n:Nm)(p:Pl)(hc:¬ clusd c.cs n=true):Rel (mentC c n p) (mentS s n p)∧mentI s n=nodeI (mentC c n p).ns n 0∧0≤nodeI (mentC c n p).ns n 0∧∀ m,0≤nodeI c.ns m 0→nodeI (mentC c n p).ns m 0=nodeI c.ns m 0:=by
 unfold mentS mentC mentI
 have he:(if s.e=0∧clusd c.cs n=true then (6:Int) else s.e)=s.e:=if_neg (fun q=>hc q.2)
 rw [h.cs,h.ns,he]
 by_cases hn:nodeI c.ns n 0 < 0
 ·simp only [if_pos hn]
  have e1:nodeI (c.ns ++ [(n,p.cl)]) n 0=(c.ns.length:Int):=by rw [nodeI_app,if_neg (by omega),if_pos rfl];simp
  refine ⟨⟨rfl,?_,rfl,?_,h.e,fun x hx r hr=>ge_grow (h.kn x hx r hr)⟩,?_,?_,fun m hm=>by show nodeI (c.ns ++ _) m 0=_;rw [nodeI_app,if_pos hm]⟩
  ·show s.ats ++ _=c.ats ++ _;rw [h.ats]
  ·show s.en=enF (c.ns ++ _) c.ch;rw [enF_grow h.kn];exact h.en
  ·exact e1.symm
  ·show 0≤nodeI (c.ns ++ [(n,p.cl)]) n 0;rw [e1];omega
 ·simp only [if_neg hn]
  exact ⟨⟨rfl,h.ats,rfl,h.en,h.e,h.kn⟩,trivial,by omega,fun _ _=>trivial⟩
theorem refs_done (p:Pl):∀ (l:List Pr) (s:Sta),s.e≠0→refsS l s p=s
 | [],_,_=>rfl
 | r :: t,s,h=>by unfold refsS;rw [if_pos h]
theorem refs_rel (p:Pl):∀ (l:List Pr) (c:Bs) (s:Sta),Rel c s→(refsC l c p).2=(refsS l s p).e∧((refsS l s p).e=0→Rel (refsC l c p).1 (refsS l s p)∧refsI l s p=l.map (fun r=>nodeI (refsC l c p).1.ns r.1 0)∧(∀ r∈l,0≤nodeI (refsC l c p).1.ns r.1 0)∧∀ m,0≤nodeI c.ns m 0→nodeI (refsC l c p).1.ns m 0=nodeI c.ns m 0)
 | [],c,s,h=>⟨h.e.symm,fun _=>⟨h,rfl,fun r hr=>(by cases hr),fun _ _=>rfl⟩⟩
 | r :: t,c,s,h=>by
  have eS:refsS (r :: t) s p=refsS t (mentS s r.1 p) p:=if_neg (by simp [h.e])
  have eI:refsI (r :: t) s p=mentI s r.1 :: refsI t (mentS s r.1 p) p:=if_neg (by simp [h.e])
  rw [eS,eI]
  by_cases hc:clusd c.cs r.1=true
  ·have eC:refsC (r :: t) c p=(c,6):=if_pos hc
   rw [eC]
   have h6:=ment_dup h r.1 p hc
   rw [refs_done p t _ (by rw [h6];decide),h6]
   exact ⟨rfl,fun q=>absurd q (by decide)⟩
  ·have eC:refsC (r :: t) c p=refsC t (mentC c r.1 p) p:=if_neg hc
   rw [eC]
   obtain ⟨m1,m2,m3,m4⟩:=ment_rel h r.1 p hc
   obtain ⟨q1,q2⟩:=refs_rel p t _ _ m1
   refine ⟨q1,fun q=>?_⟩
   obtain ⟨r1,r2,r3,r4⟩:=q2 q
   have e1:=r4 r.1 m3
   refine ⟨r1,?_,fun x hx=>?_,fun m hm=>?_⟩
   ·rw [List.map_cons,r2,m2,e1]
   ·rcases List.mem_cons.1 hx with rfl | hx
    ·rw [e1];exact m3
    ·exact r3 x hx
   ·rw [r4 m (by rw [m4 m hm];exact hm),m4 m hm]
theorem edges_rel {c:Bs}{s:Sta}(h:Rel c s)(rs a:List Pr)(p:Pl):(if (refsC rs c p).2≠0 then ((refsC rs c p).1,(refsC rs c p).2) else ((⟨(refsC rs c p).1.ns,(refsC rs c p).1.ats,(refsC rs c p).1.cs,(refsC rs c p).1.ch ++ [(rs,mergeL p.de a)]⟩:Bs),(0:Int))).2=(edgesS s rs a p).e ∧
    ((edgesS s rs a p).e=0→Rel (if (refsC rs c p).2≠0 then ((refsC rs c p).1,(refsC rs c p).2) else ((⟨(refsC rs c p).1.ns,(refsC rs c p).1.ats,(refsC rs c p).1.cs,(refsC rs c p).1.ch ++ [(rs,mergeL p.de a)]⟩:Bs),(0:Int))).1 (edgesS s rs a p)):=by
 obtain ⟨q1,q2⟩:=refs_rel p rs c s h
 rw [q1]
 unfold edgesS
 by_cases he:(refsS rs s p).e≠0
 ·rw [if_pos he,if_pos he]
  exact ⟨rfl,fun q=>absurd q he⟩
 ·rw [if_neg he,if_neg he]
  have he':(refsS rs s p).e=0:=by simpa using he
  obtain ⟨r1,r2,r3,r4⟩:=q2 he'
  refine ⟨he'.symm,fun _=>⟨r1.ns,r1.ats,r1.cs,?_,r1.e,fun x hx r hr=>?_⟩⟩
  ·show (refsS rs s p).en ++ _=enF _ (_ ++ [_])
   rw [r1.en,r2]
   unfold enF
   rw [List.flatMap_append]
   simp
  ·rcases List.mem_append.1 hx with hx | hx
   ·exact r1.kn x hx r hr
   ·rw [List.mem_singleton] at hx;subst hx;exact r3 r hr
theorem dflt_id {k:Int}(h:k≠3)(n:Nm)(a:List Pr)(p:Pl):dflt k n a p=p:=if_neg h
theorem blk_rel:(∀ x:St,∀ (p:Pl) (c:Bs) (s:Sta),Rel c s→(stmC x (dflt x.kind x.name x.attrs p) c).2=(stmS x p s).e∧((stmS x p s).e=0→Rel (stmC x (dflt x.kind x.name x.attrs p) c).1 (stmS x p s))) ∧
    ∀ l:List St,∀ (p:Pl) (c:Bs) (s:Sta),Rel c s→(blkC l p c).2=(blkS l p s).e∧((blkS l p s).e=0→Rel (blkC l p c).1 (blkS l p s)):=by
 refine st_ind (fun k n r a b hb p c s h=>?_) (fun p c s h=>?_) (fun x t hx ht p c s h=>?_)
 ·show (stmC (.mk k n r a b) (dflt k n a p) c).2=(stmS (.mk k n r a b) p s).e∧((stmS (.mk k n r a b) p s).e=0→Rel (stmC (.mk k n r a b) (dflt k n a p) c).1 (stmS (.mk k n r a b) p s))
  by_cases h1:k=1
  ·subst h1
   rw [dflt_id (by decide),stmC_1,stmS_1]
   by_cases hc:clusd c.cs n=true
   ·rw [if_pos hc]
    exact ⟨(ment_dup h n p hc).symm,fun q=>absurd ((ment_dup h n p hc).symm.trans q) (by decide)⟩
   ·rw [if_neg hc]
    obtain ⟨m1,m2,m3,m4⟩:=ment_rel h n p hc
    refine ⟨m1.e.symm,fun _=>⟨m1.ns,?_,m1.cs,m1.en,m1.e,m1.kn⟩⟩
    show chgA (mentS s n p).ats (mentI s n) a=chgA (mentC c n p).ats _ a
    rw [m1.ats,m2]
  by_cases h2:k=2
  ·subst h2
   rw [dflt_id (by decide),stmC_2,stmS_2]
   exact edges_rel h r a p
  by_cases h5:k=5
  ·subst h5
   rw [dflt_id (by decide),stmC_5,stmS_5,h.cs,h.ns]
   by_cases hc:clusd c.cs n=true∨0≤nodeI c.ns n 0
   ·rw [if_pos hc,if_pos hc]
    exact ⟨rfl,fun q=>absurd (show (6:Int)=0 from q) (by decide)⟩
   ·rw [if_neg hc,if_neg hc]
    exact hb _ _ _ ⟨rfl,h.ats,rfl,h.en,h.e,h.kn⟩
  ·rw [stmC_n h1 h2 h5,show stmS (.mk k n r a b) p s=s by rw [stmS,if_neg h1,if_neg h2,if_neg h5]]
   exact ⟨h.e.symm,fun _=>h⟩
 ·rw [blkC_nil,blkS_nil];exact ⟨h.e.symm,fun _=>h⟩
 ·have eS:blkS (x :: t) p s=if stE x.kind x.name x.attrs≠0 then ⟨s.ns,s.ats,s.cs,s.en,stE x.kind x.name x.attrs⟩ else blkS t (dflt x.kind x.name x.attrs p) (stmS x p s):=by rw [blkS_cons];exact if_neg (by simp [h.e])
  rw [blkC_cons,eS]
  by_cases hE:stE x.kind x.name x.attrs≠0
  ·rw [if_pos hE,if_pos hE]
   exact ⟨rfl,fun q=>absurd q hE⟩
  ·rw [if_neg hE,if_neg hE]
   obtain ⟨q1,q2⟩:=hx p c s h
   by_cases he:(stmC x (dflt x.kind x.name x.attrs p) c).2≠0
   ·rw [if_pos he]
    have hz:(stmS x p s).e≠0:=by rw [← q1];exact he
    have hd:∀ l q,blkS l q (stmS x p s)=stmS x p s:=fun l q=>by
     cases l with
     | nil=>rw [blkS_nil]
     | cons y u=>rw [blkS_cons,if_pos hz]
    rw [hd]
    exact ⟨q1,fun q=>absurd q hz⟩
   ·rw [if_neg he]
    have hz:(stmS x p s).e=0:=by rw [← q1];simpa using he
    exact ht _ _ _ (q2 hz)
abbrev EnM:=Pr→(Int × Int) × Bool
def em0:EnM:=fun _=>((0,0),false)
def putM (F:EnM)(k:Pr)(v:Int × Int):EnM:=fun x=>if x=k then (v,true) else F x
def endP (v:Int)(nm:Nm):List (Nm × Int)→Nat→EnM→EnM
 | [],_,F=>F
 | p :: t,i,F=>endP v nm t (i+1) (putM F (nm,p.1) (v,i))
def endN:List gra.Nd→Nat→EnM→EnM
 | [],_,F=>F
 | n :: t,v,F=>endN t (v+1) (endP v n.nm n.ps 0 (putM F (n.nm,[]) (v,-1)))
theorem portI_cons (x:Nm × Int)(t:List (Nm × Int))(n:Nm)(i:Nat):portI (x :: t) n i=if x.1=n then (i:Int) else portI t n (i+1):=rfl
theorem portI_ge (n:Nm):∀ (l:List (Nm × Int)) (i:Nat),portI l n i=-2∨(i:Int)≤portI l n i
 | [],_=>Or.inl rfl
 | x :: t,i=>by
  unfold portI
  split
  ·exact Or.inr (Int.le_refl _)
  ·rcases portI_ge n t (i+1) with h | h
   ·exact Or.inl h
   ·exact Or.inr (by omega)
theorem portI_none {n:Nm}:∀ {l:List (Nm × Int)} (i:Nat),n ∉ l.map (·.1)→portI l n i=-2
 | [],_,_=>rfl
 | x :: t,i,h=>by
  unfold portI
  rw [List.map_cons,List.mem_cons,not_or] at h
  rw [if_neg (fun e=>h.1 e.symm)]
  exact portI_none (i+1) h.2
def PsOk (l:List (Nm × Int)):Prop:=(l.map (·.1)).Nodup∧∀ p∈l,p.1≠[]
theorem PsOk.tail {x:Nm × Int}{t:List (Nm × Int)}(h:PsOk (x :: t)):PsOk t∧x.1 ∉ t.map (·.1)∧x.1≠[]:=by
 obtain ⟨h1,h2⟩:=h
 rw [List.map_cons,List.nodup_cons] at h1
 exact ⟨⟨h1.2,fun p hp=>h2 p (List.mem_cons_of_mem _ hp)⟩,h1.1,h2 x (List.mem_cons_self ..)⟩
theorem endP_eq (v:Int)(nm:Nm)(x:Pr):∀ (l:List (Nm × Int)) (i:Nat) (F:EnM),PsOk l→endP v nm l i F x=if x.1=nm∧portI l x.2 i≠-2 then ((v,portI l x.2 i),true) else F x
 | [],i,F,_=>by unfold endP portI;rw [if_neg (fun q=>q.2 rfl)]
 | p :: t,i,F,h=>by
  obtain ⟨h1,h2,h3⟩:=h.tail
  rw [portI_cons]
  unfold endP
  rw [endP_eq v nm x t (i+1) _ h1]
  by_cases hn:x.1=nm
  ·by_cases hp:p.1=x.2
   ·rw [if_neg (fun q=>q.2 (portI_none _ (hp ▸ h2))),if_pos hp,if_pos ⟨hn,by omega⟩]
    show (if x=(nm,p.1) then ((v,(i:Int)),true) else F x)=_
    rw [if_pos (by rw [← hn,hp])]
   ·rw [if_neg hp]
    by_cases hq:portI t x.2 (i+1)≠-2
    ·rw [if_pos ⟨hn,hq⟩,if_pos ⟨hn,hq⟩]
    ·rw [if_neg (fun q=>hq q.2),if_neg (fun q=>hq q.2)]
     exact if_neg (fun q=>hp (by rw [q]))
  ·rw [if_neg (fun q=>hn q.1),if_neg (fun q=>hn q.1)]
   exact if_neg (fun q=>hn (by rw [q]))
def NsOk (l:List gra.Nd):Prop:=(l.map (·.nm)).Nodup∧∀ n∈l,PsOk n.ps
theorem findG_none {n:Nm}:∀ {l:List gra.Nd} (i:Nat),n ∉ l.map (·.nm)→gra.findG l n i=-1
 | [],_,_=>rfl
 | x :: t,i,h=>by
  unfold gra.findG
  rw [List.map_cons,List.mem_cons,not_or] at h
  rw [if_neg (fun e=>h.1 e.symm)]
  exact findG_none (i+1) h.2
theorem findG_ge (n:Nm):∀ (l:List gra.Nd) (i:Nat),gra.findG l n i=-1∨(i:Int)≤gra.findG l n i
 | [],_=>Or.inl rfl
 | x :: t,i=>by
  unfold gra.findG
  split
  ·exact Or.inr (Int.le_refl _)
  ·rcases findG_ge n t (i+1) with h | h
   ·exact Or.inl h
   ·exact Or.inr (by omega)
def endA (l:List gra.Nd)(i:Nat)(x:Pr):Option (Int × Int) :=
 if gra.findG l x.1 i < 0 then none else if portN (portsOf l (gra.findG l x.1 i - i)) x.2=-2 then none else some (gra.findG l x.1 i,portN (portsOf l (gra.findG l x.1 i - i)) x.2)
theorem portsOf_zero (n:gra.Nd)(t:List gra.Nd):portsOf (n :: t) 0=n.ps:=rfl
theorem portsOf_succ (n:gra.Nd)(t:List gra.Nd)(k:Nat):portsOf (n :: t) ((k:Int)+1)=portsOf t k:=by
 unfold portsOf
 rw [show ((k:Int)+1).toNat=k+1 by omega,show ((k:Int)).toNat=k by omega,List.getElem?_cons_succ]
theorem endN_eq (x:Pr):∀ (l:List gra.Nd) (i:Nat) (F:EnM),NsOk l→endN l i F x=match endA l i x with | some v=>(v,true) | none=>F x
 | [],i,F,_=>rfl
 | n :: t,i,F,h=>by
  obtain ⟨h1,h2⟩:=h
  rw [List.map_cons,List.nodup_cons] at h1
  unfold endN
  rw [endN_eq x t (i+1) _ ⟨h1.2,fun m hm=>h2 m (List.mem_cons_of_mem _ hm)⟩]
  by_cases hn:n.nm=x.1
  ·have e0:gra.findG (n :: t) x.1 i=(i:Int):=by unfold gra.findG;rw [if_pos hn]
   have e1:endA t (i+1) x=none:=by
    unfold endA
    rw [findG_none (i+1) (hn ▸ h1.1),if_pos (by omega)]
   rw [e1]
   unfold endA
   rw [e0,if_neg (by omega),show (i:Int) - i=0 by omega,portsOf_zero]
   show endP (i:Int) n.nm n.ps 0 (putM F (n.nm,[]) ((i:Int),-1)) x=_
   rw [endP_eq _ _ _ _ _ _ (h2 n (List.mem_cons_self ..))]
   unfold portN
   by_cases hx:x.2=[]
   ·have hq:portI n.ps x.2 0=-2:=portI_none 0 (fun q=>by
      obtain ⟨p,hp,e⟩:=List.mem_map.1 q
      exact (h2 n (List.mem_cons_self ..)).2 p hp (e.trans hx))
    rw [if_neg (fun q=>q.2 hq),if_pos hx,if_neg (by decide)]
    exact if_pos (by rw [hn,← hx])
   ·rw [if_neg hx]
    by_cases hq:portI n.ps x.2 0=-2
    ·rw [if_neg (fun q=>q.2 hq),if_pos hq]
     exact if_neg (fun q=>hx (by rw [q]))
    ·rw [if_pos ⟨hn.symm,hq⟩,if_neg hq]
  ·have e0:gra.findG (n :: t) x.1 i=gra.findG t x.1 (i+1):=by
     show (if n.nm=x.1 then _ else _)=_;rw [if_neg hn]
   have e2:endA (n :: t) i x=endA t (i+1) x:=by
    unfold endA
    rw [e0]
    rcases findG_ge x.1 t (i+1) with q | q
    ·rw [q,if_pos (by omega),if_pos (by omega)]
    ·have hq0:¬ gra.findG t x.1 (i+1) < 0:=by omega
     rw [if_neg hq0,if_neg hq0]
     obtain ⟨k,hk⟩:∃ k:Nat,gra.findG t x.1 (i+1) - ((i+1:Nat):Int)=k:=⟨(gra.findG t x.1 (i+1) - ((i+1:Nat):Int)).toNat,by omega⟩
     rw [show gra.findG t x.1 (i+1) - (i:Int)=(k:Int)+1 by omega,portsOf_succ,hk]
   rw [e2]
   cases endA t (i+1) x with
   | some v=>rfl
   | none =>
    show endP (i:Int) n.nm n.ps 0 (putM F (n.nm,[]) ((i:Int),-1)) x=F x
    rw [endP_eq _ _ _ _ _ _ (h2 n (List.mem_cons_self ..)),if_neg (fun q=>hn q.1.symm)]
    exact if_neg (fun q=>hn (by rw [q]))
def edgC (F:EnM)(lb:Nm)(wt ln:Int):List Pr→List gra.Ed→List gra.Ed × Bool
 | r :: q :: t,es=>if (F r).2=false∨(F q).2=false then (es,false) else edgC F lb wt ln (q :: t) (if es.length≤256 then es ++ [⟨(F r).1.1,(F q).1.1,(F r).1.2,(F q).1.2,lb,wt,ln⟩] else es)
 | _,es=>(es,true)
def edcC (F:EnM)(c:List Pr × List Pr)(es:List gra.Ed):List gra.Ed × Bool:=edgC F (getL c.2 wLabel).1 (numL 2 c.2 wWeight) (numL 2 c.2 wLen) c.1 es
def addC (F:EnM):List (List Pr × List Pr)→List gra.Ed→List gra.Ed × Bool
 | [],es=>(es,true)
 | c :: t,es=>if (edcC F c es).2=false then ((edcC F c es).1,false) else addC F t (edcC F c es).1
theorem take_push (E:List gra.Ed)(x:gra.Ed):(if (E.take 257).length≤256 then E.take 257 ++ [x] else E.take 257)=(E ++ [x]).take 257:=by
 rw [List.length_take]
 by_cases h:min 257 E.length≤256
 ·rw [if_pos h,List.take_of_length_le (by omega),List.take_of_length_le (by rw [List.length_append];simp;omega)]
 ·rw [if_neg h,List.take_append_of_le_length (by omega)]
def badE (x:gra.Ed):Bool:=decide (x.fp=-2) || decide (x.tp=-2)
theorem portN_ge (l:List (Nm × Int))(n:Nm):-2≤portN l n:=by
 unfold portN
 split
 ·omega
 ·rcases portI_ge n l 0 with h | h
  ·rw [h];omega
  ·omega
theorem edg_eq {ns:List gra.Nd}{F:EnM}(hF:∀ x,F x=match endA ns 0 x with | some v=>(v,true) | none=>em0 x)(m:List Pr):∀ (l:List Pr) (E:List gra.Ed),(∀ r∈l,0≤gra.findG ns r.1 0) →
    (edgC F (getL m wLabel).1 (numL 2 m wWeight) (numL 2 m wLen) l (E.take 257)).2=!((endsL (l.map fun r=>gra.findG ns r.1 0) l m).map (finE ns)).any badE ∧
    ((edgC F (getL m wLabel).1 (numL 2 m wWeight) (numL 2 m wLen) l (E.take 257)).2=true→(edgC F (getL m wLabel).1 (numL 2 m wWeight) (numL 2 m wLen) l (E.take 257)).1=(E ++ (endsL (l.map fun r=>gra.findG ns r.1 0) l m).map (finE ns)).take 257)
 | [],E,_=>⟨rfl,fun _=>by simp [edgC,endsL]⟩
 | [r],E,_=>⟨rfl,fun _=>by simp [edgC,endsL]⟩
 | r :: q :: t,E,h=>by
  have hr:=h r (List.mem_cons_self ..)
  have hq:=h q (List.mem_cons_of_mem _ (List.mem_cons_self ..))
  have look:∀ x:Pr,0≤gra.findG ns x.1 0→F x=if portN (portsOf ns (gra.findG ns x.1 0)) x.2=-2 then ((0,0),false) else ((gra.findG ns x.1 0,portN (portsOf ns (gra.findG ns x.1 0)) x.2),true):=fun x hx=>by
   rw [hF]
   unfold endA
   rw [if_neg (by omega),show gra.findG ns x.1 0 - ((0:Nat):Int)=gra.findG ns x.1 0 by omega]
   by_cases hp:portN (portsOf ns (gra.findG ns x.1 0)) x.2=-2
   ·rw [if_pos hp,if_pos hp];rfl
   ·rw [if_neg hp,if_neg hp]
  have key:(endsL ((r :: q :: t).map fun r=>gra.findG ns r.1 0) (r :: q :: t) m).map (finE ns)=finE ns ⟨gra.findG ns r.1 0,gra.findG ns q.1 0,r.2,q.2,m⟩ :: (endsL ((q :: t).map fun r=>gra.findG ns r.1 0) (q :: t) m).map (finE ns):=rfl
  rw [key,List.any_cons]
  have hb:badE (finE ns ⟨gra.findG ns r.1 0,gra.findG ns q.1 0,r.2,q.2,m⟩)=true ↔ (portN (portsOf ns (gra.findG ns r.1 0)) r.2=-2∨portN (portsOf ns (gra.findG ns q.1 0)) q.2=-2):=by
   unfold badE finE
   simp
  have lr:=look r hr
  have lq:=look q hq
  unfold edgC
  by_cases hbad:badE (finE ns ⟨gra.findG ns r.1 0,gra.findG ns q.1 0,r.2,q.2,m⟩)=true
  ·have hc:(F r).2=false∨(F q).2=false:=by
     rcases hb.1 hbad with e | e
     ·left;rw [lr,if_pos e]
     ·right;rw [lq,if_pos e]
   rw [if_pos hc,hbad]
   exact ⟨rfl,fun e=>absurd (show false=true from e) (by decide)⟩
  ·have h1:¬ portN (portsOf ns (gra.findG ns r.1 0)) r.2=-2:=fun e=>hbad (hb.2 (Or.inl e))
   have h2:¬ portN (portsOf ns (gra.findG ns q.1 0)) q.2=-2:=fun e=>hbad (hb.2 (Or.inr e))
   rw [if_neg h1] at lr
   rw [if_neg h2] at lq
   have hc:¬ ((F r).2=false∨(F q).2=false):=by rw [lr,lq];simp
   rw [if_neg hc,take_push,lr,lq]
   have hbf:badE (finE ns ⟨gra.findG ns r.1 0,gra.findG ns q.1 0,r.2,q.2,m⟩)=false:=by simpa using hbad
   rw [hbf,Bool.false_or]
   obtain ⟨q1,q2⟩:=edg_eq hF m (q :: t) (E ++ [⟨gra.findG ns r.1 0,gra.findG ns q.1 0,portN (portsOf ns (gra.findG ns r.1 0)) r.2,portN (portsOf ns (gra.findG ns q.1 0)) q.2,(getL m wLabel).1,numL 2 m wWeight,numL 2 m wLen⟩]) (fun x hx=>h x (List.mem_cons_of_mem _ hx))
   refine ⟨q1,fun e=>?_⟩
   rw [q2 e,List.append_assoc];rfl
theorem add_eq {ns:List gra.Nd}{F:EnM}(hF:∀ x,F x=match endA ns 0 x with | some v=>(v,true) | none=>em0 x):∀ (ch:List (List Pr × List Pr)) (E:List gra.Ed),(∀ c∈ch,∀ r∈c.1,0≤gra.findG ns r.1 0) →
    (addC F ch (E.take 257)).2=!((ch.flatMap fun c=>endsL (c.1.map fun r=>gra.findG ns r.1 0) c.1 c.2).map (finE ns)).any badE ∧
    ((addC F ch (E.take 257)).2=true→(addC F ch (E.take 257)).1=(E ++ (ch.flatMap fun c=>endsL (c.1.map fun r=>gra.findG ns r.1 0) c.1 c.2).map (finE ns)).take 257)
 | [],E,_=>⟨rfl,fun _=>by simp [addC]⟩
 | c :: t,E,h=>by
  obtain ⟨q1,q2⟩:=edg_eq hF c.2 c.1 E (h c (List.mem_cons_self ..))
  rw [List.flatMap_cons,List.map_append,List.any_append]
  unfold addC
  unfold edcC
  cases hb:((endsL (c.1.map fun r=>gra.findG ns r.1 0) c.1 c.2).map (finE ns)).any badE with
  | true =>
   rw [hb,Bool.not_true] at q1
   rw [if_pos q1]
   exact ⟨rfl,fun e=>absurd (show false=true from e) (by decide)⟩
  | false =>
   rw [hb,Bool.not_false] at q1
   rw [if_neg (by rw [q1];decide),q2 q1,Bool.false_or]
   obtain ⟨r1,r2⟩:=add_eq hF t (E ++ (endsL (c.1.map fun r=>gra.findG ns r.1 0) c.1 c.2).map (finE ns)) (fun x hx=>h x (List.mem_cons_of_mem _ hx))
   exact ⟨r1,fun e=>by rw [r2 e,List.append_assoc]⟩
end Go.Proofs.YtcdoicgbjoikkaaGreatDoor.nor
