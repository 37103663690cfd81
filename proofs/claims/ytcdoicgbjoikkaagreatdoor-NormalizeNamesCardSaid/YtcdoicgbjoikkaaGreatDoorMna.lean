/-
  Plain facts on normalization (layer 12): the graph and the options of a tree; names in the order of first mention. No function of the program is named here; no condition.
  What Mode and ValidOptions of the reference of layer 12 return. No condition.
  What clamp and ValidOptions of the landed code of layer 12 return; comparisons of options and of attributes. No condition.
  What Keyed and settings of the reference of layer 12 return. Conditions: statements in memory; an option's statement has an attribute.
  What settings of the reference of layer 12 returns. Conditions: statements in memory; an option's statement has an attribute; a bound on their number.
-/
import Derived.Test.YtcdoicgbjoikkaaGreatDoorMta
import Derived.Test.YtcdoicgbjoikkaaGreatDoorMca
import Derived.Test.YtcdoicgbjoikkaaGreatDoorGraPlain
import Derived.Test.YtcdoicgbjoikkaaGreatDoorMae
import Derived.Test.YtcdoicgbjoikkaaGreatDoorMce
import Derived.Lib.MinMax
import Derived.Test.YtcdoicgbjoikkaaGreatDoorMcb
import Derived.Test.YtcdoicgbjoikkaaGreatDoorMtd
import Derived.StillTailTactics
import Derived.Test.YtcdoicgbjoikkaaGreatDoorMtb
namespace Go.Proofs.YtcdoicgbjoikkaaGreatDoor.nor
open lex tre att

abbrev Nm := List UInt8
abbrev Cl := Nm × Int
/-- An edge that arises: its ends, the names of its ports, its attributes. -/
structure En where
  fr : Int
  «to» : Int
  fp : Nm
  tp : Nm
  ats : List Pr
deriving DecidableEq
/-- What is known after some statements. -/
structure Sta where
  ns : List Cl
  ats : List (List Pr)
  cs : List Cl
  en : List En
  e : Int
/-- A cluster, and the defaults that are in force. -/
structure Pl where
  cl : Int
  dn : List Pr
  de : List Pr
def nodeI : List Cl → Nm → Nat → Int
  | [], _, _ => -1
  | x :: t, n, i => if x.1 = n then (i : Int) else nodeI t n (i + 1)
def clusd (l : List Cl) (n : Nm) : Bool := l.any fun x => x.1 == n
/-- The state after a node is mentioned, and the node's number. -/
def mentS (s : Sta) (n : Nm) (p : Pl) : Sta :=
  if nodeI s.ns n 0 < 0 then ⟨s.ns ++ [(n, p.cl)], s.ats ++ [p.dn], s.cs, s.en, if s.e = 0 ∧ clusd s.cs n = true then 6 else s.e⟩
  else ⟨s.ns, s.ats, s.cs, s.en, if s.e = 0 ∧ clusd s.cs n = true then 6 else s.e⟩
def mentI (s : Sta) (n : Nm) : Int := if nodeI s.ns n 0 < 0 then (s.ns.length : Int) else nodeI s.ns n 0
/-- The attributes of all nodes, those of one merged with others. -/
def chgA : List (List Pr) → Int → List Pr → List (List Pr)
  | [], _, _ => []
  | a :: t, i, l => (if i = 0 then mergeL a l else a) :: chgA t (i - 1) l
def refsS : List Pr → Sta → Pl → Sta
  | [], s, _ => s
  | r :: t, s, p => if s.e ≠ 0 then s else refsS t (mentS s r.1 p) p
def refsI : List Pr → Sta → Pl → List Int
  | [], _, _ => []
  | r :: t, s, p => if s.e ≠ 0 then [] else mentI s r.1 :: refsI t (mentS s r.1 p) p
def endsL : List Int → List Pr → List Pr → List En
  | a :: b :: t, r :: q :: u, m => ⟨a, b, r.2, q.2, m⟩ :: endsL (b :: t) (q :: u) m
  | _, _, _ => []
def edgesS (s : Sta) (rs ats : List Pr) (p : Pl) : Sta :=
  if (refsS rs s p).e ≠ 0 then refsS rs s p
  else ⟨(refsS rs s p).ns, (refsS rs s p).ats, (refsS rs s p).cs, (refsS rs s p).en ++ endsL (refsI rs s p) rs (mergeL p.de ats), (refsS rs s p).e⟩
/-- The first error of attributes. -/
def firC (k : Int) : List Pr → Int
  | [] => 0
  | a :: t => if checkL k a ≠ 0 then checkL k a else firC k t
def keyL (n : Nm) (ats : List Pr) : Pr := (n, (ats.headD ([], [])).2)
def stE (k : Int) (n : Nm) (ats : List Pr) : Int := if k = 4 then firC 4 [keyL n ats] else if k = 2 ∨ (k = 3 ∧ n = wEdge) then firC 2 ats else firC 1 ats
def dflt (k : Int) (n : Nm) (ats : List Pr) (p : Pl) : Pl := if k = 3 then (if n = wNode then ⟨p.cl, mergeL p.dn ats, p.de⟩ else ⟨p.cl, p.dn, mergeL p.de ats⟩) else p
mutual
def stmS : St → Pl → Sta → Sta
  | .mk k n r a b, p, s =>
    if k = 1 then ⟨(mentS s n p).ns, chgA (mentS s n p).ats (mentI s n) a, (mentS s n p).cs, (mentS s n p).en, (mentS s n p).e⟩
    else if k = 2 then edgesS s r a p
    else if k = 5 then (if clusd s.cs n = true ∨ 0 ≤ nodeI s.ns n 0 then ⟨s.ns, s.ats, s.cs, s.en, 6⟩ else blkS b ⟨s.cs.length, p.dn, p.de⟩ ⟨s.ns, s.ats, s.cs ++ [(n, p.cl)], s.en, s.e⟩)
    else s
def blkS : List St → Pl → Sta → Sta
  | [], _, s => s
  | .mk k n r a b :: t, p, s => if s.e ≠ 0 then s else if stE k n a ≠ 0 then ⟨s.ns, s.ats, s.cs, s.en, stE k n a⟩ else blkS t (dflt k n a p) (stmS (.mk k n r a b) p s)
end
theorem blkS_nil (p : Pl) (s : Sta) : blkS [] p s = s := by rw [blkS]
theorem blkS_cons (x : St) (t : List St) (p : Pl) (s : Sta) : blkS (x :: t) p s = if s.e ≠ 0 then s else if stE x.kind x.name x.attrs ≠ 0 then ⟨s.ns, s.ats, s.cs, s.en, stE x.kind x.name x.attrs⟩ else blkS t (dflt x.kind x.name x.attrs p) (stmS x p s) := by
  cases x; rw [blkS]; rfl
theorem stmS_1 (n : Nm) (r a : List Pr) (b : List St) (p : Pl) (s : Sta) : stmS (.mk 1 n r a b) p s = ⟨(mentS s n p).ns, chgA (mentS s n p).ats (mentI s n) a, (mentS s n p).cs, (mentS s n p).en, (mentS s n p).e⟩ := by rw [stmS]; rfl
theorem stmS_2 (n : Nm) (r a : List Pr) (b : List St) (p : Pl) (s : Sta) : stmS (.mk 2 n r a b) p s = edgesS s r a p := by rw [stmS]; rfl
theorem stmS_3 (n : Nm) (r a : List Pr) (b : List St) (p : Pl) (s : Sta) : stmS (.mk 3 n r a b) p s = s := by rw [stmS]; rfl
theorem stmS_4 (n : Nm) (r a : List Pr) (b : List St) (p : Pl) (s : Sta) : stmS (.mk 4 n r a b) p s = s := by rw [stmS]; rfl
theorem stmS_5 (n : Nm) (r a : List Pr) (b : List St) (p : Pl) (s : Sta) : stmS (.mk 5 n r a b) p s = if clusd s.cs n = true ∨ 0 ≤ nodeI s.ns n 0 then ⟨s.ns, s.ats, s.cs, s.en, 6⟩ else blkS b ⟨s.cs.length, p.dn, p.de⟩ ⟨s.ns, s.ats, s.cs ++ [(n, p.cl)], s.en, s.e⟩ := by rw [stmS]; rfl

/-! ### The graph -/
def finN (x : Cl) (l : List Pr) : gra.Nd :=
  ⟨x.1, if (getL l wLabel).2 then (getL l wLabel).1 else x.1, numL 1 l wWidth, numL 1 l wHeight, x.2, if (getL l wPorts).2 then (portsL (getL l wPorts).1).1 else []⟩
def emG : gra.Gr := ⟨[], false, [], [], []⟩
def st0 : Sta := ⟨[], [], [], [], 0⟩
def pl0 : Pl := ⟨-1, [], []⟩
/-! ### Options -/
structure Op' where
  mode : Int
  ns : Int
  rs : Int
  mg : Int
  rd : Int
deriving DecidableEq
def setL (l : List (St × Int)) : List Pr := l.flatMap fun x => if x.1.kind = 4 then [keyL x.1.name x.1.attrs] else []
def optsOf (own : List Pr) : Op' := ⟨if modeL (getL own wMode).1 < 0 then 0 else modeL (getL own wMode).1, numL 4 own wNodesep, numL 4 own wRanksep, numL 4 own wMargin, numL 4 own wRounds⟩
def optsT (T : Tr) : Op' × Int :=
  if validT T ≠ 0 then (⟨0, 0, 0, 0, 0⟩, validT T)
  else if firC 4 (setL (preL T.body 0)) ≠ 0 then (⟨0, 0, 0, 0, 0⟩, firC 4 (setL (preL T.body 0)))
  else (optsOf ((setL (preL T.body 0)).foldl (fun own a => mergeL own [a]) []), 0)
def rng (n lo hi : Int) : Bool := decide (lo ≤ n) && decide (n ≤ hi)
def okO (o : Op') : Bool := rng o.mode 0 4 && rng o.ns 0 1048576 && rng o.rs 0 1048576 && rng o.mg 0 1048576 && rng o.rd 0 100

/-! ### Names in the order of first mention -/
theorem nodeI_mem (n : Nm) : ∀ (l : List Cl) (i : Nat), 0 ≤ nodeI l n i ↔ n ∈ l.map (·.1)
  | [], i => by simp [nodeI]
  | x :: t, i => by
    unfold nodeI
    by_cases h : x.1 = n
    · rw [if_pos h]; simp [h]
    · rw [if_neg h, nodeI_mem n t (i + 1)]
      simp only [List.map_cons, List.mem_cons]
      exact ⟨Or.inr, fun q => q.resolve_left fun e => h e.symm⟩
theorem ment_names (s : Sta) (n : Nm) (p : Pl) : (mentS s n p).ns.map (·.1) = addN (s.ns.map (·.1)) n := by
  unfold mentS addN
  by_cases h : nodeI s.ns n 0 < 0
  · rw [if_pos h]
    have hn : ¬ (s.ns.map (·.1)).contains n = true := by
      rw [List.contains_iff_mem, ← nodeI_mem n s.ns 0]; omega
    rw [if_neg hn]; simp
  · rw [if_neg h]
    have hn : (s.ns.map (·.1)).contains n = true := by
      rw [List.contains_iff_mem, ← nodeI_mem n s.ns 0]; omega
    rw [if_pos hn]
theorem ment_cs (s : Sta) (n : Nm) (p : Pl) : (mentS s n p).cs = s.cs := by unfold mentS; split <;> rfl
theorem refs_cs (p : Pl) : ∀ (l : List Pr) (s : Sta), (refsS l s p).cs = s.cs
  | [], _ => rfl
  | r :: t, s => by
    unfold refsS
    split
    · rfl
    · rw [refs_cs p t, ment_cs]
theorem refs_e (p : Pl) : ∀ (l : List Pr) (s : Sta), (refsS l s p).e = 0 → s.e = 0
  | [], _, h => h
  | r :: t, s, h => by
    unfold refsS at h
    by_cases h0 : s.e = 0
    · exact h0
    · rw [if_pos h0] at h; exact absurd h h0
theorem refs_names (p : Pl) : ∀ (l : List Pr) (s : Sta), (refsS l s p).e = 0 → (refsS l s p).ns.map (·.1) = (l.map (·.1)).foldl addN (s.ns.map (·.1))
  | [], _, _ => rfl
  | r :: t, s, h => by
    have h0 := refs_e p (r :: t) s h
    unfold refsS at h ⊢
    rw [if_neg (by simp [h0])] at h ⊢
    rw [refs_names p t _ h, ment_names]; rfl
theorem edges_names (s : Sta) (rs ats : List Pr) (p : Pl) (h : (edgesS s rs ats p).e = 0) : (edgesS s rs ats p).ns.map (·.1) = (rs.map (·.1)).foldl addN (s.ns.map (·.1)) ∧ (edgesS s rs ats p).cs = s.cs := by
  unfold edgesS at h ⊢
  split at h
  · rename_i hne; exact absurd h hne
  · rename_i hne
    rw [if_neg hne]
    exact ⟨refs_names p rs s h, refs_cs p rs s⟩
theorem sta_parts {s : St} {lv : Int} (h : staE s lv = 0) : (s.kind = 1 ∨ s.kind = 2 ∨ s.kind = 3 ∨ s.kind = 4 ∨ s.kind = 5) ∧ (s.kind ≠ 2 → s.refs = []) ∧ (s.kind ≠ 5 → s.body = []) := by
  unfold staE at h
  split at h
  · rename_i hne; exact absurd h hne
  · rename_i hne
    have hf : fldE s = 0 := by simpa using hne
    unfold fldE at hf
    split at hf
    · exact absurd hf (by decide)
    split at hf
    · exact absurd hf (by decide)
    rename_i h1 h2
    refine ⟨by omega, fun hk => ?_, fun hk => ?_⟩
    · exact List.length_eq_zero_iff.1 (Nat.le_zero.1 (Nat.not_lt.1 fun q => h2 (Or.inr (Or.inl ⟨hk, q⟩))))
    · exact List.length_eq_zero_iff.1 (Nat.le_zero.1 (Nat.not_lt.1 fun q => h2 (Or.inr (Or.inr (Or.inr ⟨hk, q⟩)))))
theorem blk_e (l : List St) (p : Pl) (s : Sta) (h : (blkS l p s).e = 0) : s.e = 0 := by
  cases l with
  | nil => rw [blkS_nil] at h; exact h
  | cons x t =>
    rw [blkS_cons] at h
    by_cases h0 : s.e = 0
    · exact h0
    · rw [if_pos h0] at h; exact absurd h h0
theorem nms_app (a b : List (St × Int)) : nmsL (a ++ b) = nmsL a ++ nmsL b := by unfold nmsL; rw [List.flatMap_append]
theorem clu_app (a b : List (St × Int)) : cluL (a ++ b) = cluL a ++ cluL b := by unfold cluL; rw [List.flatMap_append]
/-- Without an error: the nodes are those mentioned, in the order of first mention; the clusters are in the order of their statements. -/
theorem blk_names : (∀ x : St, ∀ (p : Pl) (s : Sta) (lv : Int), (∀ y ∈ preS x lv, staE y.1 y.2 = 0) → s.e = 0 → (stmS x p s).e = 0 →
      (stmS x p s).ns.map (·.1) = (nmsL (preS x lv)).foldl addN (s.ns.map (·.1)) ∧ (stmS x p s).cs.map (·.1) = s.cs.map (·.1) ++ cluL (preS x lv)) ∧
    ∀ l : List St, ∀ (p : Pl) (s : Sta) (lv : Int), (∀ y ∈ preL l lv, staE y.1 y.2 = 0) → (blkS l p s).e = 0 →
      (blkS l p s).ns.map (·.1) = (nmsL (preL l lv)).foldl addN (s.ns.map (·.1)) ∧ (blkS l p s).cs.map (·.1) = s.cs.map (·.1) ++ cluL (preL l lv) := by
  refine st_ind (fun k n r a b hb p s lv hv h0 he => ?_) (fun p s lv _ _ => ?_) (fun x t hx ht p s lv hv he => ?_)
  · have hs := hv (.mk k n r a b, lv) (by rw [preS_eq]; exact List.mem_cons_self ..)
    obtain ⟨hk, hr, hbd⟩ := sta_parts hs
    rw [preS_eq] at hv ⊢
    simp only [St.kind, St.refs, St.body] at hk hr hbd hv ⊢
    rcases hk with hk | hk | hk | hk | hk
    · subst hk
      obtain rfl := hr (by decide)
      obtain rfl := hbd (by decide)
      rw [stmS_1] at he ⊢
      refine ⟨?_, ?_⟩
      · rw [ment_names]; simp [nmsL, nmsS, preL_nil, St.kind, St.name, St.refs]
      · rw [ment_cs]; simp [cluL, preL_nil, St.kind]
    · subst hk
      obtain rfl := hbd (by decide)
      rw [stmS_2] at he ⊢
      obtain ⟨q1, q2⟩ := edges_names s r a p he
      refine ⟨?_, ?_⟩
      · rw [q1]; simp [nmsL, nmsS, preL_nil, St.kind, St.name, St.refs]
      · rw [q2]; simp [cluL, preL_nil, St.kind]
    · subst hk
      obtain rfl := hr (by decide)
      obtain rfl := hbd (by decide)
      rw [stmS_3]
      refine ⟨?_, ?_⟩
      · simp [nmsL, nmsS, preL_nil, St.kind, St.name, St.refs]
      · simp [cluL, preL_nil, St.kind]
    · subst hk
      obtain rfl := hr (by decide)
      obtain rfl := hbd (by decide)
      rw [stmS_4]
      refine ⟨?_, ?_⟩
      · simp [nmsL, nmsS, preL_nil, St.kind, St.name, St.refs]
      · simp [cluL, preL_nil, St.kind]
    · subst hk
      obtain rfl := hr (by decide)
      rw [stmS_5] at he ⊢
      split at he
      · exact absurd (show (6 : Int) = 0 from he) (by decide)
      · rename_i hc
        rw [if_neg hc]
        obtain ⟨q1, q2⟩ := hb _ _ (lv + 1) (fun y hy => hv y (List.mem_cons_of_mem _ (by simpa using hy))) he
        refine ⟨?_, ?_⟩
        · rw [q1]; simp [nmsL, nmsS, St.kind, St.name, St.refs]
        · rw [q2]; simp [cluL, St.kind, St.name]
  · rw [blkS_nil, preL_nil]; simp [nmsL, cluL]
  · have h0 := blk_e _ _ _ he
    rw [preL_cons] at hv ⊢
    rw [blkS_cons, if_neg (by simp [h0])] at he ⊢
    split at he
    · rename_i hne; exact absurd he hne
    · rename_i hne
      rw [if_neg hne]
      obtain ⟨q1, q2⟩ := ht _ _ lv (fun y hy => hv y (List.mem_append_right _ hy)) he
      obtain ⟨r1, r2⟩ := hx p s lv (fun y hy => hv y (List.mem_append_left _ hy)) h0 (blk_e _ _ _ he)
      refine ⟨?_, ?_⟩
      · rw [q1, r1, nms_app, List.foldl_append]
      · rw [q2, r2, clu_app, List.append_assoc]
end Go.Proofs.YtcdoicgbjoikkaaGreatDoor.nor
namespace Go.Proofs.YtcdoicgbjoikkaaGreatDoor.nor
open Go.RowKit lex tre att

theorem mode_lit (s : List UInt8) : modeL s = if s = [108, 97, 121, 101, 114, 101, 100] then 0 else if s = [111, 114, 116, 104, 111, 103, 111, 110, 97, 108] then 1 else if s = [115, 116, 114, 97, 105, 103, 104, 116] then 2 else if s = [116, 105, 100, 121] then 3 else if s = [114, 97, 100, 105, 97, 108] then 4 else -1 := by
  unfold modeL modes idxA
  by_cases h0 : s = [108, 97, 121, 101, 114, 101, 100]
  · rw [if_pos h0.symm, if_pos h0]
  rw [if_neg (fun e => h0 e.symm), if_neg h0]
  unfold idxA
  by_cases h1 : s = [111, 114, 116, 104, 111, 103, 111, 110, 97, 108]
  · rw [if_pos h1.symm, if_pos h1]; rfl
  rw [if_neg (fun e => h1 e.symm), if_neg h1]
  unfold idxA
  by_cases h2 : s = [115, 116, 114, 97, 105, 103, 104, 116]
  · rw [if_pos h2.symm, if_pos h2]; rfl
  rw [if_neg (fun e => h2 e.symm), if_neg h2]
  unfold idxA
  by_cases h3 : s = [116, 105, 100, 121]
  · rw [if_pos h3.symm, if_pos h3]; rfl
  rw [if_neg (fun e => h3 e.symm), if_neg h3]
  unfold idxA
  by_cases h4 : s = [114, 97, 100, 105, 97, 108]
  · rw [if_pos h4.symm, if_pos h4]; rfl
  rw [if_neg (fun e => h4 e.symm), if_neg h4]
  rfl
set_option maxHeartbeats 2000000 in
theorem rmode_of (s : ByteArray) (m : Int) (w : World) (h : Hid ((if modeL s.data.toList < 0 then 0 else modeL s.data.toList) = m)) :
    Calls Tryz.prog 40 #[.string s] w fun e w' => e = .returned (.int .i64 m) ∧ w = w' := by
  have hm := h.out
  rw [mode_lit] at hm
  obtain ⟨l, hl⟩ : ∃ l, s.data.toList = l := ⟨_, rfl⟩
  rw [hl] at hm
  have hl2 : s.toList = l := by rw [ByteArray.toList_eq]; exact hl
  clear h
  by_cases h1 : l = [111, 114, 116, 104, 111, 103, 111, 110, 97, 108]
  · have z1 : (s.toList == [111, 114, 116, 104, 111, 103, 111, 110, 97, 108]) = true := by rw [hl2, beq_iff_eq]; exact h1
    obtain rfl : 1 = m := by rw [← hm, h1]; rfl
    clear hl hl2 hm h1
    go_enter Tryz.func40, Tryz.ntmps40
    go_wp2
    go_ret
    exact ⟨rfl, rfl⟩
  have z1 : (s.toList == [111, 114, 116, 104, 111, 103, 111, 110, 97, 108]) = false := by rw [hl2, beq_eq_false_iff_ne]; exact h1
  by_cases h2 : l = [115, 116, 114, 97, 105, 103, 104, 116]
  · have z2 : (s.toList == [115, 116, 114, 97, 105, 103, 104, 116]) = true := by rw [hl2, beq_iff_eq]; exact h2
    obtain rfl : 2 = m := by rw [← hm, h2]; rfl
    clear hl hl2 hm h1 h2
    go_enter Tryz.func40, Tryz.ntmps40
    go_wp2
    go_ret
    exact ⟨rfl, rfl⟩
  have z2 : (s.toList == [115, 116, 114, 97, 105, 103, 104, 116]) = false := by rw [hl2, beq_eq_false_iff_ne]; exact h2
  by_cases h3 : l = [116, 105, 100, 121]
  · have z3 : (s.toList == [116, 105, 100, 121]) = true := by rw [hl2, beq_iff_eq]; exact h3
    obtain rfl : 3 = m := by rw [← hm, h3]; rfl
    clear hl hl2 hm h1 h2 h3
    go_enter Tryz.func40, Tryz.ntmps40
    go_wp2
    go_ret
    exact ⟨rfl, rfl⟩
  have z3 : (s.toList == [116, 105, 100, 121]) = false := by rw [hl2, beq_eq_false_iff_ne]; exact h3
  by_cases h4 : l = [114, 97, 100, 105, 97, 108]
  · have z4 : (s.toList == [114, 97, 100, 105, 97, 108]) = true := by rw [hl2, beq_iff_eq]; exact h4
    obtain rfl : 4 = m := by rw [← hm, h4]; rfl
    clear hl hl2 hm h1 h2 h3 h4
    go_enter Tryz.func40, Tryz.ntmps40
    go_wp2
    go_ret
    exact ⟨rfl, rfl⟩
  have z4 : (s.toList == [114, 97, 100, 105, 97, 108]) = false := by rw [hl2, beq_eq_false_iff_ne]; exact h4
  obtain rfl : 0 = m := by
    rw [← hm, if_neg h1, if_neg h2, if_neg h3, if_neg h4]
    by_cases h0 : l = [108, 97, 121, 101, 114, 101, 100]
    · rw [if_pos h0]; rfl
    · rw [if_neg h0]; rfl
  clear hl hl2 hm h1 h2 h3 h4
  go_enter Tryz.func40, Tryz.ntmps40
  go_wp2
  go_ret
  exact ⟨rfl, rfl⟩
def opV (o : Op') : Value := .agg #[.int .i64 o.mode, .int .i64 o.ns, .int .i64 o.rs, .int .i64 o.mg, .int .i64 o.rd]
set_option maxRecDepth 100000 in
set_option maxHeartbeats 8000000 in
theorem rvalido_of (o : Op') (b : Bool) (w : World) (h : Hid (okO o = b)) :
    Calls Tryz.prog 16 #[opV o] w fun e w' => e = .returned (.bool b) ∧ Below w.heap.size w w' := by
  obtain ⟨m, n, r, g, d⟩ := o
  have hb := h.out
  unfold okO rng at hb
  simp only at hb
  have HB := Lib.hid (al1 w (.cells #[.int .i64 m, .int .i64 n, .int .i64 r, .int .i64 g, .int .i64 d] 38))
  show Calls Tryz.prog 16 #[.agg #[.int .i64 m, .int .i64 n, .int .i64 r, .int .i64 g, .int .i64 d]] w _
  clear h
  by_cases q0 : 0 ≤ m
  case neg =>
    obtain rfl : false = b := by rw [← hb]; simp [q0]
    clear hb
    go_enter Tryz.func16, Tryz.ntmps16
    go_wp2
    go_ret
    exact ⟨rfl, HB.out⟩
  by_cases q1 : m ≤ 4
  case neg =>
    obtain rfl : false = b := by rw [← hb]; simp [q1]
    clear hb
    go_enter Tryz.func16, Tryz.ntmps16
    go_wp2
    go_ret
    exact ⟨rfl, HB.out⟩
  by_cases q2 : 0 ≤ n
  case neg =>
    obtain rfl : false = b := by rw [← hb]; simp [q2]
    clear hb
    go_enter Tryz.func16, Tryz.ntmps16
    go_wp2
    go_ret
    exact ⟨rfl, HB.out⟩
  by_cases q3 : n ≤ 1048576
  case neg =>
    obtain rfl : false = b := by rw [← hb]; simp [q3]
    clear hb
    go_enter Tryz.func16, Tryz.ntmps16
    go_wp2
    go_ret
    exact ⟨rfl, HB.out⟩
  by_cases q4 : 0 ≤ r
  case neg =>
    obtain rfl : false = b := by rw [← hb]; simp [q4]
    clear hb
    go_enter Tryz.func16, Tryz.ntmps16
    go_wp2
    go_ret
    exact ⟨rfl, HB.out⟩
  by_cases q5 : r ≤ 1048576
  case neg =>
    obtain rfl : false = b := by rw [← hb]; simp [q5]
    clear hb
    go_enter Tryz.func16, Tryz.ntmps16
    go_wp2
    go_ret
    exact ⟨rfl, HB.out⟩
  by_cases q6 : 0 ≤ g
  case neg =>
    obtain rfl : false = b := by rw [← hb]; simp [q6]
    clear hb
    go_enter Tryz.func16, Tryz.ntmps16
    go_wp2
    go_ret
    exact ⟨rfl, HB.out⟩
  by_cases q7 : g ≤ 1048576
  case neg =>
    obtain rfl : false = b := by rw [← hb]; simp [q7]
    clear hb
    go_enter Tryz.func16, Tryz.ntmps16
    go_wp2
    go_ret
    exact ⟨rfl, HB.out⟩
  by_cases q8 : 0 ≤ d
  case neg =>
    obtain rfl : false = b := by rw [← hb]; simp [q8]
    clear hb
    go_enter Tryz.func16, Tryz.ntmps16
    go_wp2
    go_ret
    exact ⟨rfl, HB.out⟩
  by_cases q9 : d ≤ 100
  case neg =>
    obtain rfl : false = b := by rw [← hb]; simp [q9]
    clear hb
    go_enter Tryz.func16, Tryz.ntmps16
    go_wp2
    go_ret
    exact ⟨rfl, HB.out⟩
  obtain rfl : true = b := by rw [← hb]; simp [q0, q1, q2, q3, q4, q5, q6, q7, q8, q9]
  clear hb
  go_enter Tryz.func16, Tryz.ntmps16
  go_wp2
  go_ret
  exact ⟨rfl, HB.out⟩
end Go.Proofs.YtcdoicgbjoikkaaGreatDoor.nor
namespace Go.Proofs.YtcdoicgbjoikkaaGreatDoor.nor
open Go.RowKit lex tre att

theorem guard_op : Tryz.prog.eqGuardType Tryz.prog.depth 38 = false := by kernel_rfl
theorem eql_op (u v : Op') (dq : Bool) (h : Hid (decide (u = v) = dq)) (w : World) : (binOp .eql 38 (.agg #[.int .i64 u.mode, .int .i64 u.ns, .int .i64 u.rs, .int .i64 u.mg, .int .i64 u.rd]) (.agg #[.int .i64 v.mode, .int .i64 v.ns, .int .i64 v.rs, .int .i64 v.mg, .int .i64 v.rd])).run Tryz.prog w = .ok (.bool dq) w := by
  have hu : Tryz.prog.underlying 38 = some (.struct (Tryz.prog.fieldsOf 38)) := by kernel_rfl
  have hp : Tryz.prog.stoodInHeld 38 = false := by kernel_rfl
  obtain ⟨a0, a1, a2, a3, a4⟩ := u
  obtain ⟨c0, c1, c2, c3, c4⟩ := v
  simp only [Op'.mk.injEq] at h
  rw [run_eql_struct, run_equalIn_agg w 9999 _ _ _ hu hp, ← h.out]
  by_cases h0 : a0 = c0 <;> by_cases h1 : a1 = c1 <;> by_cases h2 : a2 = c2 <;> by_cases h3 : a3 = c3 <;> by_cases h4 : a4 = c4 <;> simp [go_sem, Op.eqFields, Program.fieldsOf, Tryz.underlying38, Tryz.underlying3, h0, h1, h2, h3, h4]
theorem eql_att (u v : Pr) (dq : Bool) (h : Hid (decide (u = v) = dq)) (w : World) : (binOp .eql 82 (.agg #[.string (bb u.1), .string (bb u.2)]) (.agg #[.string (bb v.1), .string (bb v.2)])).run Tryz.prog w = .ok (.bool dq) w := by
  have hu : Tryz.prog.underlying 82 = some (.struct (Tryz.prog.fieldsOf 82)) := by kernel_rfl
  have hp : Tryz.prog.stoodInHeld 82 = false := by kernel_rfl
  obtain ⟨a, b⟩ := u
  obtain ⟨c, d⟩ := v
  rw [run_eql_struct, run_equalIn_agg w 9999 _ _ _ hu hp, ← h.out]
  by_cases h1 : a = c <;> by_cases h2 : b = d <;> simp [go_sem, Op.eqFields, Program.fieldsOf, Tryz.underlying82, Tryz.underlying9, ByteArray.toList_eq, h1, h2]
set_option maxRecDepth 100000 in
theorem clamp_of (n m : Int) (w : World) : Calls Tryz.prog 42 #[.int .i64 n, .int .i64 m] w fun e w' => e = .returned (.int .i64 (min (max n 0) m)) ∧ w' = w := by
  go_enter Tryz.func42, Tryz.ntmps42
  go_wp2
  go_ret
  exact ⟨rfl, rfl⟩
/-- The five ints of options in memory. -/
abbrev at5 (W : World) (b : Nat) (o : Op') : Prop := W.cell? ⟨b, 0, none⟩ = some (.int .i64 o.mode) ∧ W.cell? ⟨b, 1, none⟩ = some (.int .i64 o.ns) ∧ W.cell? ⟨b, 2, none⟩ = some (.int .i64 o.rs) ∧ W.cell? ⟨b, 3, none⟩ = some (.int .i64 o.mg) ∧ W.cell? ⟨b, 4, none⟩ = some (.int .i64 o.rd)
theorem at5_new (w : World) (o : Op') (t : TypeId) : at5 (w.alloc (.cells #[.int .i64 o.mode, .int .i64 o.ns, .int .i64 o.rs, .int .i64 o.mg, .int .i64 o.rd] t)) w.heap.size o := by
  refine ⟨?_, ?_, ?_, ?_, ?_⟩ <;> go_simp
def nearO (o : Op') : Op' := ⟨min (max o.mode 0) 4, min (max o.ns 0) 1048576, min (max o.rs 0) 1048576, min (max o.mg 0) 1048576, min (max o.rd 0) 100⟩
theorem near_ok (o : Op') : decide (o = nearO o) = okO o := by
  obtain ⟨a, b, c, d, e⟩ := o
  rw [Bool.eq_iff_iff, decide_eq_true_eq]
  unfold nearO okO rng
  simp only [Op'.mk.injEq, Bool.and_eq_true, decide_eq_true_eq]
  omega
theorem o_drew {a W : World} {b : Nat} {o : Op'} (h : Below a.heap.size a W ∧ at5 W b o) : Below a.heap.size a W.drew ∧ at5 W.drew b o := ⟨h.1.drew, h.2⟩
theorem o_alloc {a W : World} {b : Nat} {o : Op'} {x : Obj} (h : Below a.heap.size a W ∧ at5 W b o) : Below a.heap.size a (W.alloc x) ∧ at5 (W.alloc x) b o :=
  ⟨h.1.alloc h.1.size x, cell_later' (al1 ..) h.2.1, cell_later' (al1 ..) h.2.2.1, cell_later' (al1 ..) h.2.2.2.1, cell_later' (al1 ..) h.2.2.2.2.1, cell_later' (al1 ..) h.2.2.2.2.2⟩
set_option maxRecDepth 100000 in
set_option maxHeartbeats 1000000 in
theorem valido_of (o : Op') (b : Bool) (w : World) (h : Hid (okO o = b)) :
    Calls Tryz.prog 15 #[opV o] w fun e w' => e = .returned (.bool b) ∧ Below w.heap.size w w' := by
  have hb1 := Lib.hid (al1 w (.cells #[.int .i64 o.mode, .int .i64 o.ns, .int .i64 o.rs, .int .i64 o.mg, .int .i64 o.rd] 38))
  have h5 := at5_new w o 38
  have heq := eql_op o (nearO o) b (Lib.hid (by rw [near_ok]; exact h.out))
  have hgo := guard_op
  show Calls Tryz.prog 15 #[.agg #[.int .i64 o.mode, .int .i64 o.ns, .int .i64 o.rs, .int .i64 o.mg, .int .i64 o.rd]] w _
  go_enter Tryz.func15, Tryz.ntmps15
  go_wp2_with fail
  generalize w.alloc (.cells #[.int .i64 o.mode, .int .i64 o.ns, .int .i64 o.rs, .int .i64 o.mg, .int .i64 o.rd] 38) = w1 at *
  have hP0 : Below w1.heap.size w1 w1 ∧ at5 w1 w.heap.size o := ⟨Below.refl _ _, h5⟩
  go_region_held3 (fun w' => Below w1.heap.size w1 w' ∧ at5 w' w.heap.size o)
    (repeat (first | assumption | (with_reducible refine o_drew ?_) | (with_reducible refine o_alloc ?_)))
    (first
    | (go_at_call 42; refine (clamp_of _ _ _).mono ?_; rintro e w6 ⟨rfl, rfl⟩; have hP : True := trivial))
  all_goals
    have hn5 := o_alloc (x := .cells #[.int .i64 (nearO o).mode, .int .i64 (nearO o).ns, .int .i64 (nearO o).rs, .int .i64 (nearO o).mg, .int .i64 (nearO o).rd] 38) hP0
    have hq5 := at5_new w1 (nearO o) 38
    obtain ⟨hbn, n0, n1, n2, n3, n4⟩ := hn5
    obtain ⟨q0, q1, q2, q3, q4⟩ := hq5
    unfold nearO at n0 n1 n2 n3 n4 q0 q1 q2 q3 q4 hbn heq
    simp only at n0 n1 n2 n3 n4 q0 q1 q2 q3 q4 hbn heq
    generalize w1.alloc (.cells #[.int .i64 (min (max o.mode 0) 4), .int .i64 (min (max o.ns 0) 1048576), .int .i64 (min (max o.rs 0) 1048576), .int .i64 (min (max o.mg 0) 1048576), .int .i64 (min (max o.rd 0) 100)] 38) = w2 at *
    have HB2 := Lib.hid (below_keep hbn hb1.out)
    have m0 : w2.drew.cell? ⟨w.heap.size, 0, none⟩ = some (.int .i64 o.mode) := n0
    have m1 : w2.drew.cell? ⟨w.heap.size, 1, none⟩ = some (.int .i64 o.ns) := n1
    have m2 : w2.drew.cell? ⟨w.heap.size, 2, none⟩ = some (.int .i64 o.rs) := n2
    have m3 : w2.drew.cell? ⟨w.heap.size, 3, none⟩ = some (.int .i64 o.mg) := n3
    have m4 : w2.drew.cell? ⟨w.heap.size, 4, none⟩ = some (.int .i64 o.rd) := n4
    have l0 : w2.drew.cell? ⟨w1.heap.size, 0, none⟩ = some (.int .i64 (min (max o.mode 0) 4)) := q0
    have l1 : w2.drew.cell? ⟨w1.heap.size, 1, none⟩ = some (.int .i64 (min (max o.ns 0) 1048576)) := q1
    have l2 : w2.drew.cell? ⟨w1.heap.size, 2, none⟩ = some (.int .i64 (min (max o.rs 0) 1048576)) := q2
    have l3 : w2.drew.cell? ⟨w1.heap.size, 3, none⟩ = some (.int .i64 (min (max o.mg 0) 1048576)) := q3
    have l4 : w2.drew.cell? ⟨w1.heap.size, 4, none⟩ = some (.int .i64 (min (max o.rd 0) 100)) := q4
    clear n0 n1 n2 n3 n4 q0 q1 q2 q3 q4 hbn hP0 h5
    go_wp2
    go_ret
    exact ⟨rfl, HB2.out.drew⟩
end Go.Proofs.YtcdoicgbjoikkaaGreatDoor.nor
namespace Go.Proofs.YtcdoicgbjoikkaaGreatDoor.nor
open Go.RowKit lex tre att

/-- A box of two strings that may be written. -/
def sbx (W : World) (b : Nat) (x y : ByteArray) : Prop := W.cell? ⟨b, 0, none⟩ = some (.string x) ∧ W.cell? ⟨b, 1, none⟩ = some (.string y) ∧ W.frozen? ⟨b, 0, none⟩ = false ∧ W.frozen? ⟨b, 1, none⟩ = false
theorem sbx_new (w : World) (x y : ByteArray) (t : TypeId) : sbx (w.alloc (.cells #[.string x, .string y] t)) w.heap.size x y := by
  refine ⟨?_, ?_, ?_, ?_⟩ <;> go_simp
/-- A statement's box. -/
def tbx (W : World) (b : Nat) (k : Int) (n : ByteArray) (rv av bv : Value) : Prop := W.cell? ⟨b, 0, none⟩ = some (.int .i64 k) ∧ W.cell? ⟨b, 1, none⟩ = some (.string n) ∧ W.cell? ⟨b, 2, none⟩ = some rv ∧ W.cell? ⟨b, 3, none⟩ = some av ∧ W.cell? ⟨b, 4, none⟩ = some bv
theorem tbx_new (w : World) (k : Int) (n : ByteArray) (ro ao bo : Option Addr) (rn rc an ac bn bc : Nat) (t : TypeId) : tbx (w.alloc (.cells #[.int .i64 k, .string n, .slice ro rn rc, .slice ao an ac, .slice bo bn bc] t)) w.heap.size k n (.slice ro rn rc) (.slice ao an ac) (.slice bo bn bc) := by
  refine ⟨?_, ?_, ?_, ?_, ?_⟩ <;> go_simp
theorem tbx_keep {w w' : World} {b : Nat} {k : Int} {n : ByteArray} {rv av bv : Value} (h : tbx w b k n rv av bv) (hb : Below w.heap.size w w') : tbx w' b k n rv av bv := by
  obtain ⟨a0, a1, a2, a3, a4⟩ := h
  exact ⟨cell_keep hb a0, cell_keep hb a1, cell_keep hb a2, cell_keep hb a3, cell_keep hb a4⟩
set_option maxRecDepth 100000 in
set_option maxHeartbeats 4000000 in
theorem keyed_of (k : Int) (n : ByteArray) (ro bo : Option Addr) (rn rc bn bc : Nat) (av : Value) (a : Pr) (t : List Pr) (w : World) (h : Hid (Prs w av (a :: t))) :
    Calls Tryz.prog 66 #[.agg #[.int .i64 k, .string n, .slice ro rn rc, av, .slice bo bn bc]] w fun e w' => e = .returned (.agg #[.string n, .string (bb a.2)]) ∧ Below w.heap.size w w' := by
  have hmx : Tryz.prog.follows .mixedOrders = true := by kernel_rfl
  obtain ⟨ao, ac, rfl, -, -, hA⟩ := id h.out
  obtain ⟨A, rfl, hat⟩ := hA (by simp)
  have h0 := hat 0 (by simp)
  unfold prAt at h0
  simp only [List.getElem_cons_zero, Nat.zero_mul] at h0
  obtain ⟨-, q1, -⟩ := h0
  obtain ⟨Y, hY⟩ : ∃ Y, bb a.2 = Y := ⟨_, rfl⟩
  obtain ⟨L, hL⟩ : ∃ L, t.length + 1 = L := ⟨_, rfl⟩
  have hLp : (0 : Int) < (L : Int) := by omega
  have hLn : 0 < L := by omega
  have hA0 : A.add 0 = A := by unfold Addr.add; rw [if_pos rfl]
  rw [hA0] at q1
  rw [hY] at q1
  rw [hY]
  simp only [List.length_cons, hL]
  have hB := al2 w (.cells #[.int .i64 k, .string n, .slice ro rn rc, .slice (some A) L ac, .slice bo bn bc] 56) (.cells #[.string ⟨#[]⟩, .string ⟨#[]⟩] 82)
  have hT : tbx ((w.alloc (.cells #[.int .i64 k, .string n, .slice ro rn rc, .slice (some A) L ac, .slice bo bn bc] 56)).alloc (.cells #[.string ⟨#[]⟩, .string ⟨#[]⟩] 82)) w.heap.size k n (.slice ro rn rc) (.slice (some A) L ac) (.slice bo bn bc) := tbx_keep (tbx_new ..) (al1 ..)
  have hS : sbx ((w.alloc (.cells #[.int .i64 k, .string n, .slice ro rn rc, .slice (some A) L ac, .slice bo bn bc] 56)).alloc (.cells #[.string ⟨#[]⟩, .string ⟨#[]⟩] 82)) (w.heap.size + 1) ⟨#[]⟩ ⟨#[]⟩ := by
    have := sbx_new (w.alloc (.cells #[.int .i64 k, .string n, .slice ro rn rc, .slice (some A) L ac, .slice bo bn bc] 56)) ⟨#[]⟩ ⟨#[]⟩ 82
    rwa [World.size_alloc] at this
  have q1' := cell_later' hB q1
  obtain ⟨W2, hW2⟩ : ∃ W2, (w.alloc (.cells #[.int .i64 k, .string n, .slice ro rn rc, .slice (some A) L ac, .slice bo bn bc] 56)).alloc (.cells #[.string ⟨#[]⟩, .string ⟨#[]⟩] 82) = W2 := ⟨_, rfl⟩
  rw [hW2] at hB hT hS q1'
  have HB := Lib.hid hB
  have HT := Lib.hid hT
  have HS := Lib.hid hS
  have HQ := Lib.hid q1'
  have HW2 := Lib.hid hW2
  clear hB hT hS q1' q1 hW2 hat hA hY hL h
  go_enter Tryz.func66, Tryz.ntmps66
  go_wp2_with fail
  rw [HW2.out]
  have hBd := HB.out.drew
  have hTd := tbx_keep HT.out (Below.refl W2.heap.size W2).drew
  have hSd : sbx W2.drew (w.heap.size + 1) ⟨#[]⟩ ⟨#[]⟩ := HS.out
  have hQd := cell_later' (Below.refl W2.heap.size W2).drew HQ.out
  refine wp_region_still_tail 8 (by kernel_rfl) (by kernel_rfl) ?_
  change wpStill _ _ W2.drew (fun a' => wpList _ _ _ _ a' W2.drew) _ _
  generalize W2.drew = wd at *
  obtain ⟨t0, t1, t2, t3, t4⟩ := hTd
  obtain ⟨s0, s1, s2, s3⟩ := hSd
  simp only [List.take_succ_cons, List.take_zero, List.drop_succ_cons, List.drop_zero]
  repeat still_step
  refine wpStill_nil ?_
  go_wp2
  have r0 : (wd.setCell ⟨w.heap.size + 1, 0, none⟩ (.string n)).cell? ⟨w.heap.size + 1, 0, none⟩ = some (.string n) := by go_simp
  have r1 : ((wd.setCell ⟨w.heap.size + 1, 0, none⟩ (.string n)).setCell ⟨w.heap.size + 1, 1, none⟩ (.string Y)).cell? ⟨w.heap.size + 1, 1, none⟩ = some (.string Y) := by go_simp
  exact bodyPost_ret (v := .agg #[.string n, .string Y]) (by simp [results, Tryz.results66, go_sem, r0, r1]) rfl ⟨rfl, (hBd.setCell (by simp) _).setCell (by simp) _⟩

theorem setL_app (a b : List (St × Int)) : setL (a ++ b) = setL a ++ setL b := by unfold setL; rw [List.flatMap_append]
theorem setL_lv : (∀ x : St, ∀ a b, setL (preS x a) = setL (preS x b)) ∧ ∀ l : List St, ∀ a b, setL (preL l a) = setL (preL l b) :=
  st_ind (fun k n r at' b hb x y => by
    rw [preS_eq, preS_eq]
    show setL ([_] ++ _) = setL ([_] ++ _)
    rw [setL_app, setL_app]
    simp only [St.body]
    rw [hb _ (if (St.mk k n r at' b).kind = 5 then y + 1 else y)]; rfl) (fun _ _ => rfl) (fun x t hx ht a b => by rw [preL_cons, preL_cons, setL_app, setL_app, hx a b, ht a b])
/-- The options that a list sets, in order. -/
def optL (l : List St) : List Pr := setL (preL l 0)
theorem optL_cons (x : St) (t : List St) : optL (x :: t) = ((if x.kind = 4 then [keyL x.name x.attrs] else []) ++ optL x.body) ++ optL t := by
  unfold optL
  rw [preL_cons, setL_app, preS_eq]
  show setL ([_] ++ _) ++ _ = _
  rw [setL_app, setL_lv.2 x.body _ 0]
  have e : setL [(x, 0)] = if x.kind = 4 then [keyL x.name x.attrs] else [] := by unfold setL; simp
  rw [e]
theorem optL_take {l : List St} {k : Nat} (h : k < l.length) : optL (l.take (k + 1)) = optL (l.take k) ++ ((if l[k].kind = 4 then [keyL l[k].name l[k].attrs] else []) ++ optL l[k].body) := by
  rw [List.take_succ_eq_append_getElem h]
  unfold optL
  rw [preL_app, setL_app]
  congr 1
  have := optL_cons l[k] []
  unfold optL at this
  rw [this, preL_nil]
  simp [setL]
theorem optL_len : (∀ x : St, ∀ a, (setL (preS x a)).length ≤ (preS x a).length) ∧ ∀ l : List St, ∀ a, (setL (preL l a)).length ≤ (preL l a).length := by
  have key : ∀ L : List (St × Int), (setL L).length ≤ L.length := by
    intro L
    induction L with
    | nil => exact Nat.le_refl _
    | cons x t ih =>
      show (setL ([x] ++ t)).length ≤ _
      rw [setL_app, List.length_append, List.length_cons]
      have : (setL [x]).length ≤ 1 := by unfold setL; simp only [List.flatMap_cons, List.flatMap_nil, List.append_nil]; split <;> simp
      omega
  exact ⟨fun x a => key _, fun l a => key _⟩
/-- Each statement of a list that sets an option has an attribute. -/
def SetHas (l : List St) : Prop := ∀ x ∈ preL l 0, x.1.kind = 4 → x.1.attrs ≠ []
theorem SetHas.at {l : List St} (h : SetHas l) {k : Nat} (hk : k < l.length) : (l[k].kind = 4 → l[k].attrs ≠ []) ∧ SetHas l[k].body := by
  have hmem : ∀ y ∈ preS l[k] 0, y ∈ preL l 0 := by
    intro y hy
    have e : l = l.take k ++ l[k] :: l.drop (k + 1) := by rw [← List.drop_eq_getElem_cons hk, List.take_append_drop]
    rw [e, preL_app, preL_cons]
    exact List.mem_append_right _ (List.mem_append_left _ hy)
  refine ⟨fun h4 => h (l[k], 0) (hmem _ (by rw [preS_eq]; exact List.mem_cons_self ..)) h4, fun x hx h4 => ?_⟩
  obtain ⟨lv, hl⟩ := pre_mem.2 l[k].body 0 (if l[k].kind = 5 then (0 : Int) + 1 else 0) x hx
  exact h (x.1, lv) (hmem _ (by rw [preS_eq]; exact List.mem_cons_of_mem _ hl)) h4
end Go.Proofs.YtcdoicgbjoikkaaGreatDoor.nor
namespace Go.Proofs.YtcdoicgbjoikkaaGreatDoor.nor
open Go.RowKit lex tre att

/-- The row that settings leaves. -/
def SetOut (w0 : World) (D : List Pr) (e : Ending) (w' : World) : Prop := ∃ ao cap, e = .returned (.slice ao D.length cap) ∧ w'.ownsRow w0.heap.size 82 2 (.slice ao D.length cap) D.length (D.flatMap prC) ∧ Below w0.heap.size w0 w'
def SetOk (l : List St) : Prop := ∀ (w0 w : World) (v : Value) (ao : Option Addr) (cap : Nat) (C : List Pr), Below w0.heap.size w0 w → Sts w0 v l → w.ownsRow w0.heap.size 82 2 (.slice ao C.length cap) C.length (C.flatMap prC) → SetHas l → C.length + cnt l ≤ 100000 →
  Calls Tryz.prog 36 #[.slice ao C.length cap, v] w (SetOut w0 (C ++ optL l))
theorem SetOk.use {l : List St} (h : Hid (SetOk l)) (w0 w : World) (v : Value) (ao : Option Addr) (cap : Nat) (C D : List Pr) (hb : Hid (Below w0.heap.size w0 w)) (hs : Hid (Sts w0 v l)) (hr : Hid (w.ownsRow w0.heap.size 82 2 (.slice ao C.length cap) C.length (C.flatMap prC))) (hh : Hid (SetHas l)) (hn : Hid (C.length + cnt l ≤ 100000)) (hD : Hid (C ++ optL l = D)) :
    Calls Tryz.prog 36 #[.slice ao C.length cap, v] w (SetOut w0 D) := by rw [← hD.out]; exact h.out w0 w v ao cap C hb.out hs.out hr.out hh.out hn.out
theorem cnt_take {l : List St} {k : Nat} (h : k < l.length) : cnt (l.take (k + 1)) = cnt (l.take k) + 1 + cnt l[k].body ∧ cnt (l.take (k + 1)) ≤ cnt l := by
  have e : l = l.take (k + 1) ++ l.drop (k + 1) := (List.take_append_drop ..).symm
  have e1 : cnt l = cnt (l.take (k + 1)) + cnt (l.drop (k + 1)) := by
    have : cnt (l.take (k + 1) ++ l.drop (k + 1)) = cnt (l.take (k + 1)) + cnt (l.drop (k + 1)) := by unfold cnt; rw [preL_app, List.length_append]
    rw [← e] at this; exact this
  refine ⟨?_, by omega⟩
  rw [List.take_succ_eq_append_getElem h]
  have : cnt (l.take k ++ [l[k]]) = cnt (l.take k) + cnt [l[k]] := by unfold cnt; rw [preL_app, List.length_append]
  rw [this, cnt_cons, cnt_nil]; omega
theorem opt_len (l : List St) : (optL l).length ≤ cnt l := optL_len.2 l 0
set_option maxRecDepth 100000 in
set_option maxHeartbeats 1000000 in
theorem set_step (l : List St) (ih : ∀ s ∈ l, SetOk s.body) : SetOk l := by
  intro w0 w v ao cap C hb hs hr hh hn
  obtain ⟨vo, vc, rfl, hc1, hm1, -⟩ := id hs
  unfold maxLen at hm1
  have hlm : l.length ≤ 9223372036854775807 := by omega
  have IH := Lib.hid ih
  have HS := Lib.hid hs
  have HH := Lib.hid hh
  have HB0 := Lib.hid hb
  have HR0 := Lib.hid hr
  clear hc1 hm1 ih hs hh hb hr
  go_enter Tryz.func36, Tryz.ntmps36
  go_wp2_with fail
  go_loopw [0, 5] (fun ov iv wr => ∃ (i : Nat) (D : List Pr) (oo : Option Addr) (oc : Nat), ov = .slice oo D.length oc ∧ iv = .int .i64 i ∧ i ≤ l.length ∧ C ++ optL (l.take i) = D ∧ wr.ownsRow w0.heap.size 82 2 (.slice oo D.length oc) D.length (D.flatMap prC) ∧ Below w0.heap.size w0 wr) (fun _ iv _ => l.length - (intOf iv).toNat)
  case atStart => exact ⟨0, C, ao, cap, rfl, rfl, Nat.zero_le _, by simp [optL, setL, preL_nil], HR0.out, HB0.out⟩
  case round =>
    obtain ⟨i, D, oo, oc, rfl, rfl, hi, hD, hrow, hB⟩ := hrel
    rename World => wr
    have HR := Lib.hid hrow
    have HB := Lib.hid hB
    have HD := Lib.hid hD
    clear hrow hB hD HR0 HB0
    by_cases hlt : i < l.length
    case neg =>
      obtain rfl : i = l.length := by omega
      have HE : Hid (D = C ++ optL l) := Lib.hid (by rw [← HD.out, List.take_length])
      go_wp2
      go_ret
      exact ⟨oo, oc, by rw [← HE.out]; rfl, by rw [← HE.out]; exact HR.out, HB.out⟩
    have hget := (HS.out.keep HB.out).get hlt
    have hget0 := HS.out.get hlt
    have hat := optL_take hlt
    have hct := cnt_take hlt
    have hsa := HH.out.at hlt
    have hih := IH.out l[i] (List.getElem_mem hlt)
    have hol := opt_len (l.take i)
    obtain ⟨s, hs⟩ : ∃ s, l[i] = s := ⟨_, rfl⟩
    rw [hs] at hget hget0 hat hct hsa hih
    obtain ⟨A, rfl, hsA⟩ := hget
    obtain ⟨A', eA, hsA0⟩ := hget0
    cases eA
    rw [stAt_eq] at hsA hsA0
    obtain ⟨q0, q1, -, ⟨rv, q2, hrv⟩, ⟨av, q3, hav⟩, ⟨bv, q4, hbv⟩⟩ := hsA
    obtain ⟨-, -, -, -, -, ⟨bv0, p4, hbv0⟩⟩ := hsA0
    have ebv : bv0 = bv := by
      have := cell_later' HB.out p4
      rw [q4] at this
      exact (Option.some.inj this).symm
    subst ebv
    obtain ⟨ro, rc, rfl, -, -, -⟩ := id hrv
    obtain ⟨aa, ac, rfl, -, -, -⟩ := id hav
    obtain ⟨bo, bc, rfl, -, -, -⟩ := id hbv
    have HDl : Hid (D.length = C.length + (optL (l.take i)).length) := Lib.hid (by rw [← HD.out, List.length_append])
    have hct2 : cnt (l.take i) + 1 + cnt s.body ≤ cnt l := by rw [← hct.1]; exact hct.2
    have hDn : D.length ≤ 100000 := by have := HDl.out; omega
    have HDn : Hid (D.length + 1 + cnt s.body ≤ 100000) := Lib.hid (by have := HDl.out; omega)
    have i0 : (0 : Int) ≤ (i : Int) := by omega
    have i1 : (i : Int) < (l.length : Int) := by omega
    have HAT : Hid ((C ++ optL (l.take (i + 1))) = (D ++ (if s.kind = 4 then [keyL s.name s.attrs] else [])) ++ optL s.body) := Lib.hid (by rw [hat, ← HD.out]; simp [List.append_assoc])
    have HP4 := Lib.hid p4
    have HIH := Lib.hid hih
    have HBV := Lib.hid hbv0
    have HSA := Lib.hid hsa
    have HAV := Lib.hid hav
    have HHB := Lib.hid hsa.2
    clear hat hct hsa hih hbv hbv0 hrv hs p4 hav
    by_cases h4 : s.kind = 4
    · have z4 : (s.kind == 4) = true := by rw [beq_iff_eq]; exact h4
      obtain ⟨a, t, ha⟩ := List.exists_cons_of_ne_nil (HSA.out.1 h4)
      have hAT := HAT.out
      rw [if_pos h4] at hAT
      have hky : keyL s.name s.attrs = (s.name, a.2) := by unfold keyL; rw [ha]; rfl
      rw [hky] at hAT
      have HAT2 := Lib.hid hAT
      have HAV2 : Hid (Prs wr (.slice aa s.attrs.length ac) (a :: t)) := Lib.hid (by rw [← ha]; exact HAV.out)
      have HD1 : Hid ((D ++ [(s.name, a.2)]).length = D.length + 1) := Lib.hid (by simp)
      clear ha hAT hky h4
      go_wp2_with fail
      refine (keyed_of s.kind (bb s.name) ro bo s.refs.length rc s.body.length bc (.slice aa s.attrs.length ac) a t wr HAV2).mono ?_
      rintro e w2 ⟨rfl, hb2⟩
      have hB2 := below_keep (w1 := wr) (w2 := w2) hb2 (Below.refl wr.heap.size wr)
      have HB2 : Hid (Below w0.heap.size w0 w2) := Lib.hid (HB.out.trans (hb2.mono HB.out.size))
      have HR2 : Hid (w2.ownsRow w0.heap.size 82 2 (.slice oo D.length oc) D.length (D.flatMap prC)) := Lib.hid (Go.Proofs.YtcdoicgbjoikkaaGreatDoor.own_keep HR.out hb2)
      have hsz := HB2.out.size
      clear hb2 hB2 q0 q1 q2 q3
      go_wp2_with (at_builtin; refine app_pr Tryz.underlying54 info_of_cla rfl (.tmp 18) (.tmp 24) rfl w0.heap.size _ D (s.name, a.2) w2.heap.size rfl rfl rfl HR2 (by omega) hsz ?_; intro ao3 cap3 w3 hrow3 hgrow3; have HB3 := Lib.hid (HB2.out.grown hgrow3 hsz (fun q hq => (World.ownsRow.lt HR2.out q hq).1)); have HR3 := Lib.hid hrow3; have r4 := cell_later' HB3.out HP4.out; clear hgrow3 hrow3)
      have hcall := SetOk.use HIH w0 w3 (.slice bo s.body.length bc) ao3 cap3 (D ++ [(s.name, a.2)]) _ HB3 HBV (Lib.hid (by rw [HD1.out]; have := HR3.out; rw [HD1.out] at this; exact this)) HHB (Lib.hid (by rw [HD1.out]; exact HDn.out)) (Lib.hid rfl)
      rw [HD1.out] at hcall
      refine hcall.mono ?_
      rintro e w4 ⟨ao4, cap4, rfl, hr4, hb4⟩
      have HR4 := Lib.hid hr4
      have HB4 := Lib.hid hb4
      clear hr4 hb4 hcall r4
      go_wp2
      go_roundw
      case rel => exact ⟨i + 1, _, ao4, cap4, congrArg (fun n => Value.slice ao4 n cap4) (by simp only [List.length_append, List.length_cons, List.length_nil]; omega), by go_num, by omega, HAT2.out, HR4.out, HB4.out⟩
      case measure => simp [intOf]; omega
    · have z4 : (s.kind == 4) = false := by rw [beq_eq_false_iff_ne]; exact h4
      have hAT := HAT.out
      rw [if_neg h4, List.append_nil] at hAT
      have HAT2 := Lib.hid hAT
      clear hAT h4
      go_wp2_with fail
      refine (SetOk.use HIH w0 wr (.slice bo s.body.length bc) oo oc D _ HB HBV HR HHB (Lib.hid (by have := HDn.out; omega)) (Lib.hid rfl)).mono ?_
      rintro e w4 ⟨ao4, cap4, rfl, hr4, hb4⟩
      have HR4 := Lib.hid hr4
      have HB4 := Lib.hid hb4
      clear hr4 hb4 q0 q1 q2 q3 q4
      go_wp2
      go_roundw
      case rel => exact ⟨i + 1, _, ao4, cap4, congrArg (fun n => Value.slice ao4 n cap4) (by simp only [List.length_append]), by go_num, by omega, HAT2.out, HR4.out, HB4.out⟩
      case measure => simp [intOf]; omega
theorem set_ok (l : List St) : SetOk l := lst_ind set_step l
end Go.Proofs.YtcdoicgbjoikkaaGreatDoor.nor
