/-
  Plain facts on normalization (layer 12): the graph and the options of a tree; names in the order of first mention. No function of the program is named here; no condition.
  What Mode and ValidOptions of the reference of layer 12 return. No condition.
  What clamp and ValidOptions of the landed code of layer 12 return; comparisons of options and of attributes. No condition.
  What Keyed and settings of the reference of layer 12 return. Conditions: statements in memory; an option's statement has an attribute.
  What settings of the reference of layer 12 returns. Conditions: statements in memory; an option's statement has an attribute; a bound on their number.
  What Options of the reference of layer 12 returns. Condition: a tree of at most 10^12 statements in memory.
  The landed code's way of normalization (layer 12) as plain functions: chains of refs in place of edges, a table of ends. No function of the program is named here; no condition.
-/
import Derived.Test.YtcdoicgbjoikkaaGreatDoorMta
import Derived.Test.YtcdoicgbjoikkaaGreatDoorMca
import Derived.Test.YtcdoicgbjoikkaaGreatDoorGraPlain
import Derived.Test.YtcdoicgbjoikkaaGreatDoorMae
import Derived.Test.YtcdoicgbjoikkaaGreatDoorMce
import Derived.Lib.MinMax
import Derived.Test.YtcdoicgbjoikkaaGreatDoorMcb
import Derived.Test.YtcdoicgbjoikkaaGreatDoorMtd
import Derived.StillTailTactics
import Derived.Test.YtcdoicgbjoikkaaGreatDoorMtb
import Derived.Test.YtcdoicgbjoikkaaGreatDoorMcc
import Derived.Test.YtcdoicgbjoikkaaGreatDoorMte
namespace Go.Proofs.YtcdoicgbjoikkaaGreatDoor.nor
open lex tre att

abbrev Nm := List UInt8
abbrev Cl := Nm × Int
/-- An edge that arises: its ends, the names of its ports, its attributes. -/
structure En where
  fr : Int
  «to» : Int
  fp : Nm
  tp : Nm
  ats : List Pr
deriving DecidableEq
/-- What is known after some statements. -/
structure Sta where
  ns : List Cl
  ats : List (List Pr)
  cs : List Cl
  en : List En
  e : Int
/-- A cluster, and the defaults that are in force. -/
structure Pl where
  cl : Int
  dn : List Pr
  de : List Pr
def nodeI : List Cl → Nm → Nat → Int
  | [], _, _ => -1
  | x :: t, n, i => if x.1 = n then (i : Int) else nodeI t n (i + 1)
def clusd (l : List Cl) (n : Nm) : Bool := l.any fun x => x.1 == n
/-- The state after a node is mentioned, and the node's number. -/
def mentS (s : Sta) (n : Nm) (p : Pl) : Sta :=
  if nodeI s.ns n 0 < 0 then ⟨s.ns ++ [(n, p.cl)], s.ats ++ [p.dn], s.cs, s.en, if s.e = 0 ∧ clusd s.cs n = true then 6 else s.e⟩
  else ⟨s.ns, s.ats, s.cs, s.en, if s.e = 0 ∧ clusd s.cs n = true then 6 else s.e⟩
def mentI (s : Sta) (n : Nm) : Int := if nodeI s.ns n 0 < 0 then (s.ns.length : Int) else nodeI s.ns n 0
/-- The attributes of all nodes, those of one merged with others. -/
def chgA : List (List Pr) → Int → List Pr → List (List Pr)
  | [], _, _ => []
  | a :: t, i, l => (if i = 0 then mergeL a l else a) :: chgA t (i - 1) l
def refsS : List Pr → Sta → Pl → Sta
  | [], s, _ => s
  | r :: t, s, p => if s.e ≠ 0 then s else refsS t (mentS s r.1 p) p
def refsI : List Pr → Sta → Pl → List Int
  | [], _, _ => []
  | r :: t, s, p => if s.e ≠ 0 then [] else mentI s r.1 :: refsI t (mentS s r.1 p) p
def endsL : List Int → List Pr → List Pr → List En
  | a :: b :: t, r :: q :: u, m => ⟨a, b, r.2, q.2, m⟩ :: endsL (b :: t) (q :: u) m
  | _, _, _ => []
def edgesS (s : Sta) (rs ats : List Pr) (p : Pl) : Sta :=
  if (refsS rs s p).e ≠ 0 then refsS rs s p
  else ⟨(refsS rs s p).ns, (refsS rs s p).ats, (refsS rs s p).cs, (refsS rs s p).en ++ endsL (refsI rs s p) rs (mergeL p.de ats), (refsS rs s p).e⟩
/-- The first error of attributes. -/
def firC (k : Int) : List Pr → Int
  | [] => 0
  | a :: t => if checkL k a ≠ 0 then checkL k a else firC k t
def keyL (n : Nm) (ats : List Pr) : Pr := (n, (ats.headD ([], [])).2)
def stE (k : Int) (n : Nm) (ats : List Pr) : Int := if k = 4 then firC 4 [keyL n ats] else if k = 2 ∨ (k = 3 ∧ n = wEdge) then firC 2 ats else firC 1 ats
def dflt (k : Int) (n : Nm) (ats : List Pr) (p : Pl) : Pl := if k = 3 then (if n = wNode then ⟨p.cl, mergeL p.dn ats, p.de⟩ else ⟨p.cl, p.dn, mergeL p.de ats⟩) else p
mutual
def stmS : St → Pl → Sta → Sta
  | .mk k n r a b, p, s =>
    if k = 1 then ⟨(mentS s n p).ns, chgA (mentS s n p).ats (mentI s n) a, (mentS s n p).cs, (mentS s n p).en, (mentS s n p).e⟩
    else if k = 2 then edgesS s r a p
    else if k = 5 then (if clusd s.cs n = true ∨ 0 ≤ nodeI s.ns n 0 then ⟨s.ns, s.ats, s.cs, s.en, 6⟩ else blkS b ⟨s.cs.length, p.dn, p.de⟩ ⟨s.ns, s.ats, s.cs ++ [(n, p.cl)], s.en, s.e⟩)
    else s
def blkS : List St → Pl → Sta → Sta
  | [], _, s => s
  | .mk k n r a b :: t, p, s => if s.e ≠ 0 then s else if stE k n a ≠ 0 then ⟨s.ns, s.ats, s.cs, s.en, stE k n a⟩ else blkS t (dflt k n a p) (stmS (.mk k n r a b) p s)
end
theorem blkS_nil (p : Pl) (s : Sta) : blkS [] p s = s := by rw [blkS]
theorem blkS_cons (x : St) (t : List St) (p : Pl) (s : Sta) : blkS (x :: t) p s = if s.e ≠ 0 then s else if stE x.kind x.name x.attrs ≠ 0 then ⟨s.ns, s.ats, s.cs, s.en, stE x.kind x.name x.attrs⟩ else blkS t (dflt x.kind x.name x.attrs p) (stmS x p s) := by
  cases x; rw [blkS]; rfl
theorem stmS_eq (x : St) (p : Pl) (s : Sta) : stmS x p s = if x.kind = 1 then ⟨(mentS s x.name p).ns, chgA (mentS s x.name p).ats (mentI s x.name) x.attrs, (mentS s x.name p).cs, (mentS s x.name p).en, (mentS s x.name p).e⟩
    else if x.kind = 2 then edgesS s x.refs x.attrs p
    else if x.kind = 5 then (if clusd s.cs x.name = true ∨ 0 ≤ nodeI s.ns x.name 0 then ⟨s.ns, s.ats, s.cs, s.en, 6⟩ else blkS x.body ⟨s.cs.length, p.dn, p.de⟩ ⟨s.ns, s.ats, s.cs ++ [(x.name, p.cl)], s.en, s.e⟩)
    else s := by
  cases x; rw [stmS]; rfl
theorem stmS_1 (n : Nm) (r a : List Pr) (b : List St) (p : Pl) (s : Sta) : stmS (.mk 1 n r a b) p s = ⟨(mentS s n p).ns, chgA (mentS s n p).ats (mentI s n) a, (mentS s n p).cs, (mentS s n p).en, (mentS s n p).e⟩ := by rw [stmS]; rfl
theorem stmS_2 (n : Nm) (r a : List Pr) (b : List St) (p : Pl) (s : Sta) : stmS (.mk 2 n r a b) p s = edgesS s r a p := by rw [stmS]; rfl
theorem stmS_3 (n : Nm) (r a : List Pr) (b : List St) (p : Pl) (s : Sta) : stmS (.mk 3 n r a b) p s = s := by rw [stmS]; rfl
theorem stmS_4 (n : Nm) (r a : List Pr) (b : List St) (p : Pl) (s : Sta) : stmS (.mk 4 n r a b) p s = s := by rw [stmS]; rfl
theorem stmS_5 (n : Nm) (r a : List Pr) (b : List St) (p : Pl) (s : Sta) : stmS (.mk 5 n r a b) p s = if clusd s.cs n = true ∨ 0 ≤ nodeI s.ns n 0 then ⟨s.ns, s.ats, s.cs, s.en, 6⟩ else blkS b ⟨s.cs.length, p.dn, p.de⟩ ⟨s.ns, s.ats, s.cs ++ [(n, p.cl)], s.en, s.e⟩ := by rw [stmS]; rfl

/-! ### The graph -/
def portI : List (Nm × Int) → Nm → Nat → Int
  | [], _, _ => -2
  | x :: t, n, i => if x.1 = n then (i : Int) else portI t n (i + 1)
def portN (l : List (Nm × Int)) (n : Nm) : Int := if n = [] then -1 else portI l n 0
def finN (x : Cl) (l : List Pr) : gra.Nd :=
  ⟨x.1, if (getL l wLabel).2 then (getL l wLabel).1 else x.1, numL 1 l wWidth, numL 1 l wHeight, x.2, if (getL l wPorts).2 then (portsL (getL l wPorts).1).1 else []⟩
def portsOf (ns : List gra.Nd) (i : Int) : List (Nm × Int) := match ns[i.toNat]? with | some x => x.ps | none => []
def finE (ns : List gra.Nd) (x : En) : gra.Ed :=
  ⟨x.fr, x.to, portN (portsOf ns x.fr) x.fp, portN (portsOf ns x.to) x.tp, (getL x.ats wLabel).1, numL 2 x.ats wWeight, numL 2 x.ats wLen⟩
def finG (n : Nm) (d : Bool) (s : Sta) : gra.Gr := ⟨n, d, List.zipWith finN s.ns s.ats, s.en.map (finE (List.zipWith finN s.ns s.ats)), s.cs⟩
def emG : gra.Gr := ⟨[], false, [], [], []⟩
def st0 : Sta := ⟨[], [], [], [], 0⟩
def pl0 : Pl := ⟨-1, [], []⟩
def noPort (g : gra.Gr) : Bool := g.es.any fun x => decide (x.fp = -2) || decide (x.tp = -2)
def buildT (T : Tr) : gra.Gr × Int :=
  if validT T ≠ 0 then (emG, validT T)
  else if (blkS T.body pl0 st0).e ≠ 0 then (emG, (blkS T.body pl0 st0).e)
  else if noPort (finG T.name T.dir (blkS T.body pl0 st0)) = true then (emG, 5)
  else if gra.validE (finG T.name T.dir (blkS T.body pl0 st0)) ≠ 0 then (emG, gra.validE (finG T.name T.dir (blkS T.body pl0 st0)))
  else (finG T.name T.dir (blkS T.body pl0 st0), 0)

/-! ### Options -/
structure Op' where
  mode : Int
  ns : Int
  rs : Int
  mg : Int
  rd : Int
deriving DecidableEq
def setL (l : List (St × Int)) : List Pr := l.flatMap fun x => if x.1.kind = 4 then [keyL x.1.name x.1.attrs] else []
def optsOf (own : List Pr) : Op' := ⟨if modeL (getL own wMode).1 < 0 then 0 else modeL (getL own wMode).1, numL 4 own wNodesep, numL 4 own wRanksep, numL 4 own wMargin, numL 4 own wRounds⟩
def optsT (T : Tr) : Op' × Int :=
  if validT T ≠ 0 then (⟨0, 0, 0, 0, 0⟩, validT T)
  else if firC 4 (setL (preL T.body 0)) ≠ 0 then (⟨0, 0, 0, 0, 0⟩, firC 4 (setL (preL T.body 0)))
  else (optsOf ((setL (preL T.body 0)).foldl (fun own a => mergeL own [a]) []), 0)
/-! ### Names in the order of first mention -/
theorem nodeI_mem (n : Nm) : ∀ (l : List Cl) (i : Nat), 0 ≤ nodeI l n i ↔ n ∈ l.map (·.1)
  | [], i => by simp [nodeI]
  | x :: t, i => by
    unfold nodeI
    by_cases h : x.1 = n
    · rw [if_pos h]; simp [h]
    · rw [if_neg h, nodeI_mem n t (i + 1)]
      simp only [List.map_cons, List.mem_cons]
      exact ⟨Or.inr, fun q => q.resolve_left fun e => h e.symm⟩
theorem ment_names (s : Sta) (n : Nm) (p : Pl) : (mentS s n p).ns.map (·.1) = addN (s.ns.map (·.1)) n := by
  unfold mentS addN
  by_cases h : nodeI s.ns n 0 < 0
  · rw [if_pos h]
    have hn : ¬ (s.ns.map (·.1)).contains n = true := by
      rw [List.contains_iff_mem, ← nodeI_mem n s.ns 0]; omega
    rw [if_neg hn]; simp
  · rw [if_neg h]
    have hn : (s.ns.map (·.1)).contains n = true := by
      rw [List.contains_iff_mem, ← nodeI_mem n s.ns 0]; omega
    rw [if_pos hn]
theorem ment_cs (s : Sta) (n : Nm) (p : Pl) : (mentS s n p).cs = s.cs := by unfold mentS; split <;> rfl
theorem refs_cs (p : Pl) : ∀ (l : List Pr) (s : Sta), (refsS l s p).cs = s.cs
  | [], _ => rfl
  | r :: t, s => by
    unfold refsS
    split
    · rfl
    · rw [refs_cs p t, ment_cs]
theorem refs_e (p : Pl) : ∀ (l : List Pr) (s : Sta), (refsS l s p).e = 0 → s.e = 0
  | [], _, h => h
  | r :: t, s, h => by
    unfold refsS at h
    by_cases h0 : s.e = 0
    · exact h0
    · rw [if_pos h0] at h; exact absurd h h0
theorem refs_names (p : Pl) : ∀ (l : List Pr) (s : Sta), (refsS l s p).e = 0 → (refsS l s p).ns.map (·.1) = (l.map (·.1)).foldl addN (s.ns.map (·.1))
  | [], _, _ => rfl
  | r :: t, s, h => by
    have h0 := refs_e p (r :: t) s h
    unfold refsS at h ⊢
    rw [if_neg (by simp [h0])] at h ⊢
    rw [refs_names p t _ h, ment_names]; rfl
theorem edges_names (s : Sta) (rs ats : List Pr) (p : Pl) (h : (edgesS s rs ats p).e = 0) : (edgesS s rs ats p).ns.map (·.1) = (rs.map (·.1)).foldl addN (s.ns.map (·.1)) ∧ (edgesS s rs ats p).cs = s.cs := by
  unfold edgesS at h ⊢
  split at h
  · rename_i hne; exact absurd h hne
  · rename_i hne
    rw [if_neg hne]
    exact ⟨refs_names p rs s h, refs_cs p rs s⟩
theorem sta_parts {s : St} {lv : Int} (h : staE s lv = 0) : (s.kind = 1 ∨ s.kind = 2 ∨ s.kind = 3 ∨ s.kind = 4 ∨ s.kind = 5) ∧ (s.kind ≠ 2 → s.refs = []) ∧ (s.kind ≠ 5 → s.body = []) := by
  unfold staE at h
  split at h
  · rename_i hne; exact absurd h hne
  · rename_i hne
    have hf : fldE s = 0 := by simpa using hne
    unfold fldE at hf
    split at hf
    · exact absurd hf (by decide)
    split at hf
    · exact absurd hf (by decide)
    rename_i h1 h2
    refine ⟨by omega, fun hk => ?_, fun hk => ?_⟩
    · exact List.length_eq_zero_iff.1 (Nat.le_zero.1 (Nat.not_lt.1 fun q => h2 (Or.inr (Or.inl ⟨hk, q⟩))))
    · exact List.length_eq_zero_iff.1 (Nat.le_zero.1 (Nat.not_lt.1 fun q => h2 (Or.inr (Or.inr (Or.inr ⟨hk, q⟩)))))
theorem blk_e (l : List St) (p : Pl) (s : Sta) (h : (blkS l p s).e = 0) : s.e = 0 := by
  cases l with
  | nil => rw [blkS_nil] at h; exact h
  | cons x t =>
    rw [blkS_cons] at h
    by_cases h0 : s.e = 0
    · exact h0
    · rw [if_pos h0] at h; exact absurd h h0
theorem nms_app (a b : List (St × Int)) : nmsL (a ++ b) = nmsL a ++ nmsL b := by unfold nmsL; rw [List.flatMap_append]
theorem clu_app (a b : List (St × Int)) : cluL (a ++ b) = cluL a ++ cluL b := by unfold cluL; rw [List.flatMap_append]
/-- Without an error: the nodes are those mentioned, in the order of first mention; the clusters are in the order of their statements. -/
theorem blk_names : (∀ x : St, ∀ (p : Pl) (s : Sta) (lv : Int), (∀ y ∈ preS x lv, staE y.1 y.2 = 0) → s.e = 0 → (stmS x p s).e = 0 →
      (stmS x p s).ns.map (·.1) = (nmsL (preS x lv)).foldl addN (s.ns.map (·.1)) ∧ (stmS x p s).cs.map (·.1) = s.cs.map (·.1) ++ cluL (preS x lv)) ∧
    ∀ l : List St, ∀ (p : Pl) (s : Sta) (lv : Int), (∀ y ∈ preL l lv, staE y.1 y.2 = 0) → (blkS l p s).e = 0 →
      (blkS l p s).ns.map (·.1) = (nmsL (preL l lv)).foldl addN (s.ns.map (·.1)) ∧ (blkS l p s).cs.map (·.1) = s.cs.map (·.1) ++ cluL (preL l lv) := by
  refine st_ind (fun k n r a b hb p s lv hv h0 he => ?_) (fun p s lv _ _ => ?_) (fun x t hx ht p s lv hv he => ?_)
  · have hs := hv (.mk k n r a b, lv) (by rw [preS_eq]; exact List.mem_cons_self ..)
    obtain ⟨hk, hr, hbd⟩ := sta_parts hs
    rw [preS_eq] at hv ⊢
    simp only [St.kind, St.refs, St.body] at hk hr hbd hv ⊢
    rcases hk with hk | hk | hk | hk | hk
    · subst hk
      obtain rfl := hr (by decide)
      obtain rfl := hbd (by decide)
      rw [stmS_1] at he ⊢
      refine ⟨?_, ?_⟩
      · rw [ment_names]; simp [nmsL, nmsS, preL_nil, St.kind, St.name, St.refs]
      · rw [ment_cs]; simp [cluL, preL_nil, St.kind]
    · subst hk
      obtain rfl := hbd (by decide)
      rw [stmS_2] at he ⊢
      obtain ⟨q1, q2⟩ := edges_names s r a p he
      refine ⟨?_, ?_⟩
      · rw [q1]; simp [nmsL, nmsS, preL_nil, St.kind, St.name, St.refs]
      · rw [q2]; simp [cluL, preL_nil, St.kind]
    · subst hk
      obtain rfl := hr (by decide)
      obtain rfl := hbd (by decide)
      rw [stmS_3]
      refine ⟨?_, ?_⟩
      · simp [nmsL, nmsS, preL_nil, St.kind, St.name, St.refs]
      · simp [cluL, preL_nil, St.kind]
    · subst hk
      obtain rfl := hr (by decide)
      obtain rfl := hbd (by decide)
      rw [stmS_4]
      refine ⟨?_, ?_⟩
      · simp [nmsL, nmsS, preL_nil, St.kind, St.name, St.refs]
      · simp [cluL, preL_nil, St.kind]
    · subst hk
      obtain rfl := hr (by decide)
      rw [stmS_5] at he ⊢
      split at he
      · exact absurd (show (6 : Int) = 0 from he) (by decide)
      · rename_i hc
        rw [if_neg hc]
        obtain ⟨q1, q2⟩ := hb _ _ (lv + 1) (fun y hy => hv y (List.mem_cons_of_mem _ (by simpa using hy))) he
        refine ⟨?_, ?_⟩
        · rw [q1]; simp [nmsL, nmsS, St.kind, St.name, St.refs]
        · rw [q2]; simp [cluL, St.kind, St.name]
  · rw [blkS_nil, preL_nil]; simp [nmsL, cluL]
  · have h0 := blk_e _ _ _ he
    rw [preL_cons] at hv ⊢
    rw [blkS_cons, if_neg (by simp [h0])] at he ⊢
    split at he
    · rename_i hne; exact absurd he hne
    · rename_i hne
      rw [if_neg hne]
      obtain ⟨q1, q2⟩ := ht _ _ lv (fun y hy => hv y (List.mem_append_right _ hy)) he
      obtain ⟨r1, r2⟩ := hx p s lv (fun y hy => hv y (List.mem_append_left _ hy)) h0 (blk_e _ _ _ he)
      refine ⟨?_, ?_⟩
      · rw [q1, r1, nms_app, List.foldl_append]
      · rw [q2, r2, clu_app, List.append_assoc]
end Go.Proofs.YtcdoicgbjoikkaaGreatDoor.nor
namespace Go.Proofs.YtcdoicgbjoikkaaGreatDoor.nor
open Go.RowKit lex tre att

theorem mode_lit (s : List UInt8) : modeL s = if s = [108, 97, 121, 101, 114, 101, 100] then 0 else if s = [111, 114, 116, 104, 111, 103, 111, 110, 97, 108] then 1 else if s = [115, 116, 114, 97, 105, 103, 104, 116] then 2 else if s = [116, 105, 100, 121] then 3 else if s = [114, 97, 100, 105, 97, 108] then 4 else -1 := by
  unfold modeL modes idxA
  by_cases h0 : s = [108, 97, 121, 101, 114, 101, 100]
  · rw [if_pos h0.symm, if_pos h0]
  rw [if_neg (fun e => h0 e.symm), if_neg h0]
  unfold idxA
  by_cases h1 : s = [111, 114, 116, 104, 111, 103, 111, 110, 97, 108]
  · rw [if_pos h1.symm, if_pos h1]; rfl
  rw [if_neg (fun e => h1 e.symm), if_neg h1]
  unfold idxA
  by_cases h2 : s = [115, 116, 114, 97, 105, 103, 104, 116]
  · rw [if_pos h2.symm, if_pos h2]; rfl
  rw [if_neg (fun e => h2 e.symm), if_neg h2]
  unfold idxA
  by_cases h3 : s = [116, 105, 100, 121]
  · rw [if_pos h3.symm, if_pos h3]; rfl
  rw [if_neg (fun e => h3 e.symm), if_neg h3]
  unfold idxA
  by_cases h4 : s = [114, 97, 100, 105, 97, 108]
  · rw [if_pos h4.symm, if_pos h4]; rfl
  rw [if_neg (fun e => h4 e.symm), if_neg h4]
  rfl
set_option maxHeartbeats 2000000 in
theorem rmode_of (s : ByteArray) (m : Int) (w : World) (h : Hid ((if modeL s.data.toList < 0 then 0 else modeL s.data.toList) = m)) :
    Calls Tryz.prog 40 #[.string s] w fun e w' => e = .returned (.int .i64 m) ∧ w = w' := by
  have hm := h.out
  rw [mode_lit] at hm
  obtain ⟨l, hl⟩ : ∃ l, s.data.toList = l := ⟨_, rfl⟩
  rw [hl] at hm
  have hl2 : s.toList = l := by rw [ByteArray.toList_eq]; exact hl
  clear h
  by_cases h1 : l = [111, 114, 116, 104, 111, 103, 111, 110, 97, 108]
  · have z1 : (s.toList == [111, 114, 116, 104, 111, 103, 111, 110, 97, 108]) = true := by rw [hl2, beq_iff_eq]; exact h1
    obtain rfl : 1 = m := by rw [← hm, h1]; rfl
    clear hl hl2 hm h1
    go_enter Tryz.func40, Tryz.ntmps40
    go_wp2
    go_ret
    exact ⟨rfl, rfl⟩
  have z1 : (s.toList == [111, 114, 116, 104, 111, 103, 111, 110, 97, 108]) = false := by rw [hl2, beq_eq_false_iff_ne]; exact h1
  by_cases h2 : l = [115, 116, 114, 97, 105, 103, 104, 116]
  · have z2 : (s.toList == [115, 116, 114, 97, 105, 103, 104, 116]) = true := by rw [hl2, beq_iff_eq]; exact h2
    obtain rfl : 2 = m := by rw [← hm, h2]; rfl
    clear hl hl2 hm h1 h2
    go_enter Tryz.func40, Tryz.ntmps40
    go_wp2
    go_ret
    exact ⟨rfl, rfl⟩
  have z2 : (s.toList == [115, 116, 114, 97, 105, 103, 104, 116]) = false := by rw [hl2, beq_eq_false_iff_ne]; exact h2
  by_cases h3 : l = [116, 105, 100, 121]
  · have z3 : (s.toList == [116, 105, 100, 121]) = true := by rw [hl2, beq_iff_eq]; exact h3
    obtain rfl : 3 = m := by rw [← hm, h3]; rfl
    clear hl hl2 hm h1 h2 h3
    go_enter Tryz.func40, Tryz.ntmps40
    go_wp2
    go_ret
    exact ⟨rfl, rfl⟩
  have z3 : (s.toList == [116, 105, 100, 121]) = false := by rw [hl2, beq_eq_false_iff_ne]; exact h3
  by_cases h4 : l = [114, 97, 100, 105, 97, 108]
  · have z4 : (s.toList == [114, 97, 100, 105, 97, 108]) = true := by rw [hl2, beq_iff_eq]; exact h4
    obtain rfl : 4 = m := by rw [← hm, h4]; rfl
    clear hl hl2 hm h1 h2 h3 h4
    go_enter Tryz.func40, Tryz.ntmps40
    go_wp2
    go_ret
    exact ⟨rfl, rfl⟩
  have z4 : (s.toList == [114, 97, 100, 105, 97, 108]) = false := by rw [hl2, beq_eq_false_iff_ne]; exact h4
  obtain rfl : 0 = m := by
    rw [← hm, if_neg h1, if_neg h2, if_neg h3, if_neg h4]
    by_cases h0 : l = [108, 97, 121, 101, 114, 101, 100]
    · rw [if_pos h0]; rfl
    · rw [if_neg h0]; rfl
  clear hl hl2 hm h1 h2 h3 h4
  go_enter Tryz.func40, Tryz.ntmps40
  go_wp2
  go_ret
  exact ⟨rfl, rfl⟩
def opV (o : Op') : Value := .agg #[.int .i64 o.mode, .int .i64 o.ns, .int .i64 o.rs, .int .i64 o.mg, .int .i64 o.rd]
end Go.Proofs.YtcdoicgbjoikkaaGreatDoor.nor
namespace Go.Proofs.YtcdoicgbjoikkaaGreatDoor.nor
open Go.RowKit lex tre att

theorem guard_op : Tryz.prog.eqGuardType Tryz.prog.depth 38 = false := by kernel_rfl
theorem eql_op (u v : Op') (dq : Bool) (h : Hid (decide (u = v) = dq)) (w : World) : (binOp .eql 38 (.agg #[.int .i64 u.mode, .int .i64 u.ns, .int .i64 u.rs, .int .i64 u.mg, .int .i64 u.rd]) (.agg #[.int .i64 v.mode, .int .i64 v.ns, .int .i64 v.rs, .int .i64 v.mg, .int .i64 v.rd])).run Tryz.prog w = .ok (.bool dq) w := by
  have hu : Tryz.prog.underlying 38 = some (.struct (Tryz.prog.fieldsOf 38)) := by kernel_rfl
  have hp : Tryz.prog.stoodInHeld 38 = false := by kernel_rfl
  obtain ⟨a0, a1, a2, a3, a4⟩ := u
  obtain ⟨c0, c1, c2, c3, c4⟩ := v
  simp only [Op'.mk.injEq] at h
  rw [run_eql_struct, run_equalIn_agg w 9999 _ _ _ hu hp, ← h.out]
  by_cases h0 : a0 = c0 <;> by_cases h1 : a1 = c1 <;> by_cases h2 : a2 = c2 <;> by_cases h3 : a3 = c3 <;> by_cases h4 : a4 = c4 <;> simp [go_sem, Op.eqFields, Program.fieldsOf, Tryz.underlying38, Tryz.underlying3, h0, h1, h2, h3, h4]
theorem eql_att (u v : Pr) (dq : Bool) (h : Hid (decide (u = v) = dq)) (w : World) : (binOp .eql 82 (.agg #[.string (bb u.1), .string (bb u.2)]) (.agg #[.string (bb v.1), .string (bb v.2)])).run Tryz.prog w = .ok (.bool dq) w := by
  have hu : Tryz.prog.underlying 82 = some (.struct (Tryz.prog.fieldsOf 82)) := by kernel_rfl
  have hp : Tryz.prog.stoodInHeld 82 = false := by kernel_rfl
  obtain ⟨a, b⟩ := u
  obtain ⟨c, d⟩ := v
  rw [run_eql_struct, run_equalIn_agg w 9999 _ _ _ hu hp, ← h.out]
  by_cases h1 : a = c <;> by_cases h2 : b = d <;> simp [go_sem, Op.eqFields, Program.fieldsOf, Tryz.underlying82, Tryz.underlying9, ByteArray.toList_eq, h1, h2]
/-- The five ints of options in memory. -/
abbrev at5 (W : World) (b : Nat) (o : Op') : Prop := W.cell? ⟨b, 0, none⟩ = some (.int .i64 o.mode) ∧ W.cell? ⟨b, 1, none⟩ = some (.int .i64 o.ns) ∧ W.cell? ⟨b, 2, none⟩ = some (.int .i64 o.rs) ∧ W.cell? ⟨b, 3, none⟩ = some (.int .i64 o.mg) ∧ W.cell? ⟨b, 4, none⟩ = some (.int .i64 o.rd)
theorem at5_new (w : World) (o : Op') (t : TypeId) : at5 (w.alloc (.cells #[.int .i64 o.mode, .int .i64 o.ns, .int .i64 o.rs, .int .i64 o.mg, .int .i64 o.rd] t)) w.heap.size o := by
  refine ⟨?_, ?_, ?_, ?_, ?_⟩ <;> go_simp
end Go.Proofs.YtcdoicgbjoikkaaGreatDoor.nor
namespace Go.Proofs.YtcdoicgbjoikkaaGreatDoor.nor
open Go.RowKit lex tre att

/-- A box of two strings that may be written. -/
def sbx (W : World) (b : Nat) (x y : ByteArray) : Prop := W.cell? ⟨b, 0, none⟩ = some (.string x) ∧ W.cell? ⟨b, 1, none⟩ = some (.string y) ∧ W.frozen? ⟨b, 0, none⟩ = false ∧ W.frozen? ⟨b, 1, none⟩ = false
theorem sbx_new (w : World) (x y : ByteArray) (t : TypeId) : sbx (w.alloc (.cells #[.string x, .string y] t)) w.heap.size x y := by
  refine ⟨?_, ?_, ?_, ?_⟩ <;> go_simp
/-- A statement's box. -/
def tbx (W : World) (b : Nat) (k : Int) (n : ByteArray) (rv av bv : Value) : Prop := W.cell? ⟨b, 0, none⟩ = some (.int .i64 k) ∧ W.cell? ⟨b, 1, none⟩ = some (.string n) ∧ W.cell? ⟨b, 2, none⟩ = some rv ∧ W.cell? ⟨b, 3, none⟩ = some av ∧ W.cell? ⟨b, 4, none⟩ = some bv
theorem tbx_new (w : World) (k : Int) (n : ByteArray) (ro ao bo : Option Addr) (rn rc an ac bn bc : Nat) (t : TypeId) : tbx (w.alloc (.cells #[.int .i64 k, .string n, .slice ro rn rc, .slice ao an ac, .slice bo bn bc] t)) w.heap.size k n (.slice ro rn rc) (.slice ao an ac) (.slice bo bn bc) := by
  refine ⟨?_, ?_, ?_, ?_, ?_⟩ <;> go_simp
theorem tbx_keep {w w' : World} {b : Nat} {k : Int} {n : ByteArray} {rv av bv : Value} (h : tbx w b k n rv av bv) (hb : Below w.heap.size w w') : tbx w' b k n rv av bv := by
  obtain ⟨a0, a1, a2, a3, a4⟩ := h
  exact ⟨cell_keep hb a0, cell_keep hb a1, cell_keep hb a2, cell_keep hb a3, cell_keep hb a4⟩
theorem setL_app (a b : List (St × Int)) : setL (a ++ b) = setL a ++ setL b := by unfold setL; rw [List.flatMap_append]
theorem setL_lv : (∀ x : St, ∀ a b, setL (preS x a) = setL (preS x b)) ∧ ∀ l : List St, ∀ a b, setL (preL l a) = setL (preL l b) :=
  st_ind (fun k n r at' b hb x y => by
    rw [preS_eq, preS_eq]
    show setL ([_] ++ _) = setL ([_] ++ _)
    rw [setL_app, setL_app]
    simp only [St.body]
    rw [hb _ (if (St.mk k n r at' b).kind = 5 then y + 1 else y)]; rfl) (fun _ _ => rfl) (fun x t hx ht a b => by rw [preL_cons, preL_cons, setL_app, setL_app, hx a b, ht a b])
/-- The options that a list sets, in order. -/
def optL (l : List St) : List Pr := setL (preL l 0)
theorem optL_cons (x : St) (t : List St) : optL (x :: t) = ((if x.kind = 4 then [keyL x.name x.attrs] else []) ++ optL x.body) ++ optL t := by
  unfold optL
  rw [preL_cons, setL_app, preS_eq]
  show setL ([_] ++ _) ++ _ = _
  rw [setL_app, setL_lv.2 x.body _ 0]
  have e : setL [(x, 0)] = if x.kind = 4 then [keyL x.name x.attrs] else [] := by unfold setL; simp
  rw [e]
theorem optL_take {l : List St} {k : Nat} (h : k < l.length) : optL (l.take (k + 1)) = optL (l.take k) ++ ((if l[k].kind = 4 then [keyL l[k].name l[k].attrs] else []) ++ optL l[k].body) := by
  rw [List.take_succ_eq_append_getElem h]
  unfold optL
  rw [preL_app, setL_app]
  congr 1
  have := optL_cons l[k] []
  unfold optL at this
  rw [this, preL_nil]
  simp [setL]
theorem optL_len : (∀ x : St, ∀ a, (setL (preS x a)).length ≤ (preS x a).length) ∧ ∀ l : List St, ∀ a, (setL (preL l a)).length ≤ (preL l a).length := by
  have key : ∀ L : List (St × Int), (setL L).length ≤ L.length := by
    intro L
    induction L with
    | nil => exact Nat.le_refl _
    | cons x t ih =>
      show (setL ([x] ++ t)).length ≤ _
      rw [setL_app, List.length_append, List.length_cons]
      have : (setL [x]).length ≤ 1 := by unfold setL; simp only [List.flatMap_cons, List.flatMap_nil, List.append_nil]; split <;> simp
      omega
  exact ⟨fun x a => key _, fun l a => key _⟩
/-- Each statement of a list that sets an option has an attribute. -/
def SetHas (l : List St) : Prop := ∀ x ∈ preL l 0, x.1.kind = 4 → x.1.attrs ≠ []
theorem SetHas.at {l : List St} (h : SetHas l) {k : Nat} (hk : k < l.length) : (l[k].kind = 4 → l[k].attrs ≠ []) ∧ SetHas l[k].body := by
  have hmem : ∀ y ∈ preS l[k] 0, y ∈ preL l 0 := by
    intro y hy
    have e : l = l.take k ++ l[k] :: l.drop (k + 1) := by rw [← List.drop_eq_getElem_cons hk, List.take_append_drop]
    rw [e, preL_app, preL_cons]
    exact List.mem_append_right _ (List.mem_append_left _ hy)
  refine ⟨fun h4 => h (l[k], 0) (hmem _ (by rw [preS_eq]; exact List.mem_cons_self ..)) h4, fun x hx h4 => ?_⟩
  obtain ⟨lv, hl⟩ := pre_mem.2 l[k].body 0 (if l[k].kind = 5 then (0 : Int) + 1 else 0) x hx
  exact h (x.1, lv) (hmem _ (by rw [preS_eq]; exact List.mem_cons_of_mem _ hl)) h4
end Go.Proofs.YtcdoicgbjoikkaaGreatDoor.nor
namespace Go.Proofs.YtcdoicgbjoikkaaGreatDoor.nor
open Go.RowKit lex tre att

theorem cnt_take {l : List St} {k : Nat} (h : k < l.length) : cnt (l.take (k + 1)) = cnt (l.take k) + 1 + cnt l[k].body ∧ cnt (l.take (k + 1)) ≤ cnt l := by
  have e : l = l.take (k + 1) ++ l.drop (k + 1) := (List.take_append_drop ..).symm
  have e1 : cnt l = cnt (l.take (k + 1)) + cnt (l.drop (k + 1)) := by
    have : cnt (l.take (k + 1) ++ l.drop (k + 1)) = cnt (l.take (k + 1)) + cnt (l.drop (k + 1)) := by unfold cnt; rw [preL_app, List.length_append]
    rw [← e] at this; exact this
  refine ⟨?_, by omega⟩
  rw [List.take_succ_eq_append_getElem h]
  have : cnt (l.take k ++ [l[k]]) = cnt (l.take k) + cnt [l[k]] := by unfold cnt; rw [preL_app, List.length_append]
  rw [this, cnt_cons, cnt_nil]; omega
theorem opt_len (l : List St) : (optL l).length ≤ cnt l := optL_len.2 l 0
end Go.Proofs.YtcdoicgbjoikkaaGreatDoor.nor
namespace Go.Proofs.YtcdoicgbjoikkaaGreatDoor.nor
open Go.RowKit lex tre att

theorem nm_len {l : List UInt8} (h : isNm l = true) : l.length ≤ 16 := by
  unfold isNm at h
  simp only [Bool.and_eq_true, decide_eq_true_eq] at h
  omega
theorem attL_ok (k : Int) : ∀ (l done : List Pr), attL k done l = 0 → ∀ a ∈ l, a.2.length ≤ 32 ∧ (k ≠ 4 → isNm a.1 = true)
  | [], _, _, a, ha => by cases ha
  | x :: t, done, h, a, ha => by
    unfold attL at h
    split at h
    · exact absurd h (by decide)
    rename_i h1
    split at h
    · exact absurd h (by decide)
    split at h
    · exact absurd h (by decide)
    rename_i h3
    split at h
    · exact absurd h (by decide)
    rcases List.mem_cons.1 ha with rfl | ha
    · refine ⟨by omega, fun hk => ?_⟩
      cases hq : isNm a.1
      · exact absurd ⟨hk, hq⟩ h1
      · rfl
    · exact attL_ok k t _ h a ha
theorem sta_attrs {s : St} {lv : Int} (h : staE s lv = 0) : (∀ a ∈ s.attrs, a.2.length ≤ 32 ∧ (s.kind ≠ 4 → isNm a.1 = true)) ∧ s.attrs.length ≤ 16 ∧ (s.kind = 4 → s.attrs ≠ []) ∧ ((s.kind ≠ 2 ∧ s.kind ≠ 3) → isNm s.name = true) := by
  unfold staE at h
  split at h
  · rename_i hne; exact absurd h hne
  rename_i hf
  have hf0 : fldE s = 0 := by simpa using hf
  split at h
  · exact absurd h (by decide)
  split at h
  · exact absurd h (by decide)
  rename_i hnm
  split at h
  · exact absurd h (by decide)
  unfold attE at h
  split at h
  · exact absurd h (by decide)
  rename_i h16
  refine ⟨attL_ok s.kind s.attrs [] h, by omega, fun h4 => ?_, fun hk => ?_⟩
  · intro e
    unfold fldE at hf0
    rw [e] at hf0
    simp [h4] at hf0
  · cases hq : isNm s.name
    · exact absurd ⟨hk.1, hk.2, hq⟩ hnm
    · rfl
theorem setL_ok {L : List (St × Int)} (h : ∀ x ∈ L, staE x.1 x.2 = 0) : ∀ r ∈ setL L, r.1.length ≤ 16 ∧ r.2.length ≤ 32 := by
  intro r hr
  unfold setL at hr
  rw [List.mem_flatMap] at hr
  obtain ⟨x, hx, hr⟩ := hr
  split at hr
  · rename_i h4
    simp only [List.mem_cons, List.not_mem_nil, or_false] at hr
    subst hr
    obtain ⟨q1, -, q3, q4⟩ := sta_attrs (h x hx)
    refine ⟨nm_len (q4 ⟨by omega, by omega⟩), ?_⟩
    obtain ⟨a, t, ha⟩ := List.exists_cons_of_ne_nil (q3 h4)
    show ((x.1.attrs.headD ([], [])).2).length ≤ 32
    rw [ha]
    exact (q1 a (by rw [ha]; exact List.mem_cons_self ..)).1
  · cases hr
theorem firC_drop {k : Int} {L : List Pr} {i : Nat} (h : i < L.length) : firC k (L.drop i) = if checkL k L[i] ≠ 0 then checkL k L[i] else firC k (L.drop (i + 1)) := by
  rw [List.drop_eq_getElem_cons h]; rfl
theorem prs_one (w : World) (a : Pr) (h : a.1.length ≤ maxLen ∧ a.2.length ≤ maxLen) (t : TypeId) : Prs (w.alloc (.cells #[.string (bb a.1), .string (bb a.2)] t)) (.slice (some ⟨w.heap.size, 0, none⟩) 1 1) [a] := by
  have h0 := World.ownsRow_lit (base := 0) (e := t) (size := 2) w #[.string (bb a.1), .string (bb a.2)] 1 (Nat.zero_le _) (by decide) rfl
  exact own_prs (l := [a]) h0 (fun r hr => by simp only [List.mem_cons, List.not_mem_nil, or_false] at hr; subst hr; exact h)
/-- Options that may be written. -/
def obx (W : World) (b : Nat) (v0 v1 v2 v3 v4 : Int) : Prop := W.cell? ⟨b, 0, none⟩ = some (.int .i64 v0) ∧ W.cell? ⟨b, 1, none⟩ = some (.int .i64 v1) ∧ W.cell? ⟨b, 2, none⟩ = some (.int .i64 v2) ∧ W.cell? ⟨b, 3, none⟩ = some (.int .i64 v3) ∧ W.cell? ⟨b, 4, none⟩ = some (.int .i64 v4) ∧
  W.frozen? ⟨b, 0, none⟩ = false ∧ W.frozen? ⟨b, 1, none⟩ = false ∧ W.frozen? ⟨b, 2, none⟩ = false ∧ W.frozen? ⟨b, 3, none⟩ = false ∧ W.frozen? ⟨b, 4, none⟩ = false
theorem obx_new (w : World) (a b c d e : Int) (t : TypeId) : obx (w.alloc (.cells #[.int .i64 a, .int .i64 b, .int .i64 c, .int .i64 d, .int .i64 e] t)) w.heap.size a b c d e := by
  refine ⟨?_, ?_, ?_, ?_, ?_, ?_, ?_, ?_, ?_, ?_⟩ <;> go_simp
theorem obx_keep {w w' : World} {b : Nat} {v0 v1 v2 v3 v4 : Int} (h : obx w b v0 v1 v2 v3 v4) (hb : Below w.heap.size w w') : obx w' b v0 v1 v2 v3 v4 := by
  obtain ⟨a0, a1, a2, a3, a4, f0, f1, f2, f3, f4⟩ := h
  exact ⟨cell_keep hb a0, cell_keep hb a1, cell_keep hb a2, cell_keep hb a3, cell_keep hb a4, fr_keep hb a0 f0, fr_keep hb a1 f1, fr_keep hb a2 f2, fr_keep hb a3 f3, fr_keep hb a4 f4⟩
end Go.Proofs.YtcdoicgbjoikkaaGreatDoor.nor
namespace Go.Proofs.YtcdoicgbjoikkaaGreatDoor.nor
open lex tre att

/-- What the code knows after some statements. -/
structure Bs where
  ns : List Cl
  ats : List (List Pr)
  cs : List Cl
  ch : List (List Pr × List Pr)
def mentC (s : Bs) (n : Nm) (p : Pl) : Bs := if nodeI s.ns n 0 < 0 then ⟨s.ns ++ [(n, p.cl)], s.ats ++ [p.dn], s.cs, s.ch⟩ else s
def refsC : List Pr → Bs → Pl → Bs × Int
  | [], s, _ => (s, 0)
  | r :: t, s, p => if clusd s.cs r.1 = true then (s, 6) else refsC t (mentC s r.1 p) p
mutual
def stmC : St → Pl → Bs → Bs × Int
  | .mk k n r a b, p, s =>
    if k = 1 then (if clusd s.cs n = true then (s, 6) else (⟨(mentC s n p).ns, chgA (mentC s n p).ats (nodeI (mentC s n p).ns n 0) a, (mentC s n p).cs, (mentC s n p).ch⟩, 0))
    else if k = 2 then (if (refsC r s p).2 ≠ 0 then ((refsC r s p).1, (refsC r s p).2) else (⟨(refsC r s p).1.ns, (refsC r s p).1.ats, (refsC r s p).1.cs, (refsC r s p).1.ch ++ [(r, mergeL p.de a)]⟩, 0))
    else if k = 5 then (if clusd s.cs n = true ∨ 0 ≤ nodeI s.ns n 0 then (s, 6) else blkC b ⟨s.cs.length, p.dn, p.de⟩ ⟨s.ns, s.ats, s.cs ++ [(n, p.cl)], s.ch⟩)
    else (s, 0)
def blkC : List St → Pl → Bs → Bs × Int
  | [], _, s => (s, 0)
  | .mk k n r a b :: t, p, s => if stE k n a ≠ 0 then (s, stE k n a) else if (stmC (.mk k n r a b) (dflt k n a p) s).2 ≠ 0 then ((stmC (.mk k n r a b) (dflt k n a p) s).1, (stmC (.mk k n r a b) (dflt k n a p) s).2) else blkC t (dflt k n a p) (stmC (.mk k n r a b) (dflt k n a p) s).1
end
theorem blkC_nil (p : Pl) (s : Bs) : blkC [] p s = (s, 0) := by rw [blkC]
theorem blkC_cons (x : St) (t : List St) (p : Pl) (s : Bs) : blkC (x :: t) p s = if stE x.kind x.name x.attrs ≠ 0 then (s, stE x.kind x.name x.attrs) else if (stmC x (dflt x.kind x.name x.attrs p) s).2 ≠ 0 then ((stmC x (dflt x.kind x.name x.attrs p) s).1, (stmC x (dflt x.kind x.name x.attrs p) s).2) else blkC t (dflt x.kind x.name x.attrs p) (stmC x (dflt x.kind x.name x.attrs p) s).1 := by
  cases x; rw [blkC]; rfl
theorem stmC_1 (n : Nm) (r a : List Pr) (b : List St) (p : Pl) (s : Bs) : stmC (.mk 1 n r a b) p s = if clusd s.cs n = true then (s, 6) else (⟨(mentC s n p).ns, chgA (mentC s n p).ats (nodeI (mentC s n p).ns n 0) a, (mentC s n p).cs, (mentC s n p).ch⟩, 0) := by rw [stmC]; rfl
theorem stmC_2 (n : Nm) (r a : List Pr) (b : List St) (p : Pl) (s : Bs) : stmC (.mk 2 n r a b) p s = if (refsC r s p).2 ≠ 0 then ((refsC r s p).1, (refsC r s p).2) else (⟨(refsC r s p).1.ns, (refsC r s p).1.ats, (refsC r s p).1.cs, (refsC r s p).1.ch ++ [(r, mergeL p.de a)]⟩, 0) := by rw [stmC]; rfl
theorem stmC_5 (n : Nm) (r a : List Pr) (b : List St) (p : Pl) (s : Bs) : stmC (.mk 5 n r a b) p s = if clusd s.cs n = true ∨ 0 ≤ nodeI s.ns n 0 then (s, 6) else blkC b ⟨s.cs.length, p.dn, p.de⟩ ⟨s.ns, s.ats, s.cs ++ [(n, p.cl)], s.ch⟩ := by rw [stmC]; rfl
theorem stmC_n {k : Int} (h1 : k ≠ 1) (h2 : k ≠ 2) (h5 : k ≠ 5) {n : Nm} {r a : List Pr} {b : List St} {p : Pl} {s : Bs} : stmC (.mk k n r a b) p s = (s, 0) := by rw [stmC, if_neg h1, if_neg h2, if_neg h5]

/-! ### Both ways know the same -/
theorem nodeI_app (m : Nm) (x : Cl) : ∀ (l : List Cl) (i : Nat), nodeI (l ++ [x]) m i = if 0 ≤ nodeI l m i then nodeI l m i else if x.1 = m then ((i + l.length : Nat) : Int) else -1
  | [], i => by simp [nodeI]
  | y :: t, i => by
    rw [List.cons_append]
    unfold nodeI
    by_cases h : y.1 = m
    · simp only [if_pos h]; rw [if_pos (by omega)]
    · simp only [if_neg h]
      rw [nodeI_app m x t (i + 1), List.length_cons, show i + 1 + t.length = i + (t.length + 1) by omega]
theorem nodeI_lt (n : Nm) : ∀ (l : List Cl) (i : Nat), nodeI l n i < ((i + l.length : Nat) : Int)
  | [], i => by show (-1 : Int) < _; omega
  | x :: t, i => by
    unfold nodeI
    split
    · rw [List.length_cons]; omega
    · have := nodeI_lt n t (i + 1)
      rw [List.length_cons]; omega
/-- The edges that chains stand for. -/
def enF (ns : List Cl) (ch : List (List Pr × List Pr)) : List En := ch.flatMap fun c => endsL (c.1.map fun r => nodeI ns r.1 0) c.1 c.2
structure Rel (c : Bs) (s : Sta) : Prop where
  ns : s.ns = c.ns
  ats : s.ats = c.ats
  cs : s.cs = c.cs
  en : s.en = enF c.ns c.ch
  e : s.e = 0
  kn : ∀ x ∈ c.ch, ∀ r ∈ x.1, 0 ≤ nodeI c.ns r.1 0
theorem idx_same {ns : List Cl} {x : Cl} {l : List Pr} (h : ∀ r ∈ l, 0 ≤ nodeI ns r.1 0) : l.map (fun r => nodeI (ns ++ [x]) r.1 0) = l.map (fun r => nodeI ns r.1 0) :=
  List.map_congr_left fun r hr => by rw [nodeI_app, if_pos (h r hr)]
theorem enF_grow {ns : List Cl} {x : Cl} : ∀ {ch : List (List Pr × List Pr)}, (∀ y ∈ ch, ∀ r ∈ y.1, 0 ≤ nodeI ns r.1 0) → enF (ns ++ [x]) ch = enF ns ch
  | [], _ => rfl
  | c :: t, h => by
    show endsL _ _ _ ++ enF (ns ++ [x]) t = endsL _ _ _ ++ enF ns t
    rw [enF_grow fun y hy => h y (List.mem_cons_of_mem _ hy), idx_same (h c (List.mem_cons_self ..))]
theorem ge_grow {ns : List Cl} {x : Cl} {n : Nm} (h : 0 ≤ nodeI ns n 0) : 0 ≤ nodeI (ns ++ [x]) n 0 := by rw [nodeI_app, if_pos h]; exact h
theorem ment_dup {c : Bs} {s : Sta} (h : Rel c s) (n : Nm) (p : Pl) (hc : clusd c.cs n = true) : (mentS s n p).e = 6 := by
  unfold mentS
  rw [h.cs]
  split
  · exact if_pos ⟨h.e, hc⟩
  · exact if_pos ⟨h.e, hc⟩
theorem ment_rel {c : Bs} {s : Sta} (h : Rel c s) (n : Nm) (p : Pl) (hc : ¬ clusd c.cs n = true) : Rel (mentC c n p) (mentS s n p) ∧ mentI s n = nodeI (mentC c n p).ns n 0 ∧ 0 ≤ nodeI (mentC c n p).ns n 0 ∧ ∀ m, 0 ≤ nodeI c.ns m 0 → nodeI (mentC c n p).ns m 0 = nodeI c.ns m 0 := by
  unfold mentS mentC mentI
  have he : (if s.e = 0 ∧ clusd c.cs n = true then (6 : Int) else s.e) = s.e := if_neg (fun q => hc q.2)
  rw [h.cs, h.ns, he]
  by_cases hn : nodeI c.ns n 0 < 0
  · simp only [if_pos hn]
    have e1 : nodeI (c.ns ++ [(n, p.cl)]) n 0 = (c.ns.length : Int) := by rw [nodeI_app, if_neg (by omega), if_pos rfl]; simp
    refine ⟨⟨rfl, ?_, rfl, ?_, h.e, fun x hx r hr => ge_grow (h.kn x hx r hr)⟩, ?_, ?_, fun m hm => by show nodeI (c.ns ++ _) m 0 = _; rw [nodeI_app, if_pos hm]⟩
    · show s.ats ++ _ = c.ats ++ _; rw [h.ats]
    · show s.en = enF (c.ns ++ _) c.ch; rw [enF_grow h.kn]; exact h.en
    · exact e1.symm
    · show 0 ≤ nodeI (c.ns ++ [(n, p.cl)]) n 0; rw [e1]; omega
  · simp only [if_neg hn]
    exact ⟨⟨rfl, h.ats, rfl, h.en, h.e, h.kn⟩, trivial, by omega, fun _ _ => trivial⟩
theorem refs_done (p : Pl) : ∀ (l : List Pr) (s : Sta), s.e ≠ 0 → refsS l s p = s
  | [], _, _ => rfl
  | r :: t, s, h => by unfold refsS; rw [if_pos h]
theorem refs_rel (p : Pl) : ∀ (l : List Pr) (c : Bs) (s : Sta), Rel c s → (refsC l c p).2 = (refsS l s p).e ∧ ((refsS l s p).e = 0 → Rel (refsC l c p).1 (refsS l s p) ∧ refsI l s p = l.map (fun r => nodeI (refsC l c p).1.ns r.1 0) ∧ (∀ r ∈ l, 0 ≤ nodeI (refsC l c p).1.ns r.1 0) ∧ ∀ m, 0 ≤ nodeI c.ns m 0 → nodeI (refsC l c p).1.ns m 0 = nodeI c.ns m 0)
  | [], c, s, h => ⟨h.e.symm, fun _ => ⟨h, rfl, fun r hr => (by cases hr), fun _ _ => rfl⟩⟩
  | r :: t, c, s, h => by
    have eS : refsS (r :: t) s p = refsS t (mentS s r.1 p) p := if_neg (by simp [h.e])
    have eI : refsI (r :: t) s p = mentI s r.1 :: refsI t (mentS s r.1 p) p := if_neg (by simp [h.e])
    rw [eS, eI]
    by_cases hc : clusd c.cs r.1 = true
    · have eC : refsC (r :: t) c p = (c, 6) := if_pos hc
      rw [eC]
      have h6 := ment_dup h r.1 p hc
      rw [refs_done p t _ (by rw [h6]; decide), h6]
      exact ⟨rfl, fun q => absurd q (by decide)⟩
    · have eC : refsC (r :: t) c p = refsC t (mentC c r.1 p) p := if_neg hc
      rw [eC]
      obtain ⟨m1, m2, m3, m4⟩ := ment_rel h r.1 p hc
      obtain ⟨q1, q2⟩ := refs_rel p t _ _ m1
      refine ⟨q1, fun q => ?_⟩
      obtain ⟨r1, r2, r3, r4⟩ := q2 q
      have e1 := r4 r.1 m3
      refine ⟨r1, ?_, fun x hx => ?_, fun m hm => ?_⟩
      · rw [List.map_cons, r2, m2, e1]
      · rcases List.mem_cons.1 hx with rfl | hx
        · rw [e1]; exact m3
        · exact r3 x hx
      · rw [r4 m (by rw [m4 m hm]; exact hm), m4 m hm]
theorem edges_rel {c : Bs} {s : Sta} (h : Rel c s) (rs a : List Pr) (p : Pl) : (if (refsC rs c p).2 ≠ 0 then ((refsC rs c p).1, (refsC rs c p).2) else ((⟨(refsC rs c p).1.ns, (refsC rs c p).1.ats, (refsC rs c p).1.cs, (refsC rs c p).1.ch ++ [(rs, mergeL p.de a)]⟩ : Bs), (0 : Int))).2 = (edgesS s rs a p).e ∧
    ((edgesS s rs a p).e = 0 → Rel (if (refsC rs c p).2 ≠ 0 then ((refsC rs c p).1, (refsC rs c p).2) else ((⟨(refsC rs c p).1.ns, (refsC rs c p).1.ats, (refsC rs c p).1.cs, (refsC rs c p).1.ch ++ [(rs, mergeL p.de a)]⟩ : Bs), (0 : Int))).1 (edgesS s rs a p)) := by
  obtain ⟨q1, q2⟩ := refs_rel p rs c s h
  rw [q1]
  unfold edgesS
  by_cases he : (refsS rs s p).e ≠ 0
  · rw [if_pos he, if_pos he]
    exact ⟨rfl, fun q => absurd q he⟩
  · rw [if_neg he, if_neg he]
    have he' : (refsS rs s p).e = 0 := by simpa using he
    obtain ⟨r1, r2, r3, r4⟩ := q2 he'
    refine ⟨he'.symm, fun _ => ⟨r1.ns, r1.ats, r1.cs, ?_, r1.e, fun x hx r hr => ?_⟩⟩
    · show (refsS rs s p).en ++ _ = enF _ (_ ++ [_])
      rw [r1.en, r2]
      unfold enF
      rw [List.flatMap_append]
      simp
    · rcases List.mem_append.1 hx with hx | hx
      · exact r1.kn x hx r hr
      · rw [List.mem_singleton] at hx; subst hx; exact r3 r hr
theorem dflt_id {k : Int} (h : k ≠ 3) (n : Nm) (a : List Pr) (p : Pl) : dflt k n a p = p := if_neg h
/-- The code's way and the reference's: the same error; where there is none, the same is known. -/
theorem blk_rel : (∀ x : St, ∀ (p : Pl) (c : Bs) (s : Sta), Rel c s → (stmC x (dflt x.kind x.name x.attrs p) c).2 = (stmS x p s).e ∧ ((stmS x p s).e = 0 → Rel (stmC x (dflt x.kind x.name x.attrs p) c).1 (stmS x p s))) ∧
    ∀ l : List St, ∀ (p : Pl) (c : Bs) (s : Sta), Rel c s → (blkC l p c).2 = (blkS l p s).e ∧ ((blkS l p s).e = 0 → Rel (blkC l p c).1 (blkS l p s)) := by
  refine st_ind (fun k n r a b hb p c s h => ?_) (fun p c s h => ?_) (fun x t hx ht p c s h => ?_)
  · show (stmC (.mk k n r a b) (dflt k n a p) c).2 = (stmS (.mk k n r a b) p s).e ∧ ((stmS (.mk k n r a b) p s).e = 0 → Rel (stmC (.mk k n r a b) (dflt k n a p) c).1 (stmS (.mk k n r a b) p s))
    by_cases h1 : k = 1
    · subst h1
      rw [dflt_id (by decide), stmC_1, stmS_1]
      by_cases hc : clusd c.cs n = true
      · rw [if_pos hc]
        exact ⟨(ment_dup h n p hc).symm, fun q => absurd ((ment_dup h n p hc).symm.trans q) (by decide)⟩
      · rw [if_neg hc]
        obtain ⟨m1, m2, m3, m4⟩ := ment_rel h n p hc
        refine ⟨m1.e.symm, fun _ => ⟨m1.ns, ?_, m1.cs, m1.en, m1.e, m1.kn⟩⟩
        show chgA (mentS s n p).ats (mentI s n) a = chgA (mentC c n p).ats _ a
        rw [m1.ats, m2]
    by_cases h2 : k = 2
    · subst h2
      rw [dflt_id (by decide), stmC_2, stmS_2]
      exact edges_rel h r a p
    by_cases h5 : k = 5
    · subst h5
      rw [dflt_id (by decide), stmC_5, stmS_5, h.cs, h.ns]
      by_cases hc : clusd c.cs n = true ∨ 0 ≤ nodeI c.ns n 0
      · rw [if_pos hc, if_pos hc]
        exact ⟨rfl, fun q => absurd (show (6 : Int) = 0 from q) (by decide)⟩
      · rw [if_neg hc, if_neg hc]
        exact hb _ _ _ ⟨rfl, h.ats, rfl, h.en, h.e, h.kn⟩
    · rw [stmC_n h1 h2 h5, show stmS (.mk k n r a b) p s = s by rw [stmS, if_neg h1, if_neg h2, if_neg h5]]
      exact ⟨h.e.symm, fun _ => h⟩
  · rw [blkC_nil, blkS_nil]; exact ⟨h.e.symm, fun _ => h⟩
  · have eS : blkS (x :: t) p s = if stE x.kind x.name x.attrs ≠ 0 then ⟨s.ns, s.ats, s.cs, s.en, stE x.kind x.name x.attrs⟩ else blkS t (dflt x.kind x.name x.attrs p) (stmS x p s) := by rw [blkS_cons]; exact if_neg (by simp [h.e])
    rw [blkC_cons, eS]
    by_cases hE : stE x.kind x.name x.attrs ≠ 0
    · rw [if_pos hE, if_pos hE]
      exact ⟨rfl, fun q => absurd q hE⟩
    · rw [if_neg hE, if_neg hE]
      obtain ⟨q1, q2⟩ := hx p c s h
      by_cases he : (stmC x (dflt x.kind x.name x.attrs p) c).2 ≠ 0
      · rw [if_pos he]
        have hz : (stmS x p s).e ≠ 0 := by rw [← q1]; exact he
        have hd : ∀ l q, blkS l q (stmS x p s) = stmS x p s := fun l q => by
          cases l with
          | nil => rw [blkS_nil]
          | cons y u => rw [blkS_cons, if_pos hz]
        rw [hd]
        exact ⟨q1, fun q => absurd q hz⟩
      · rw [if_neg he]
        have hz : (stmS x p s).e = 0 := by rw [← q1]; simpa using he
        exact ht _ _ _ (q2 hz)
end Go.Proofs.YtcdoicgbjoikkaaGreatDoor.nor
