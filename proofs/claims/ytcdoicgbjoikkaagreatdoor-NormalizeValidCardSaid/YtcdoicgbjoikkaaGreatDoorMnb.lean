/-
  What Options of the reference of layer 12 returns. Condition: a tree of at most 10^12 statements in memory.
  The landed code's way of normalization (layer 12) as plain functions: chains of refs in place of edges, a table of ends. No function of the program is named here; no condition.
  The landed code's edges (layer 12) as plain functions: the table of ends, the edges of chains, at most one too many; and that all together is the graph that the reference builds. No function of the program is named here; no condition.
  The landed code's graph (layer 12) as a plain function, and that it is the reference's. No function of the program is named here; no condition.
  Sizes of what the landed code of layer 12 makes: how many nodes, clusters and chains, and that lists of accepted attributes are short. No function of the program is named here; no condition.
-/
import Derived.Test.YtcdoicgbjoikkaaGreatDoorMna
import Derived.Test.YtcdoicgbjoikkaaGreatDoorMce
import Derived.Test.YtcdoicgbjoikkaaGreatDoorMcc
import Derived.Test.YtcdoicgbjoikkaaGreatDoorMte
namespace Go.Proofs.YtcdoicgbjoikkaaGreatDoor.nor
open Go.RowKit lex tre att

theorem nm_len {l : List UInt8} (h : isNm l = true) : l.length ≤ 16 := by
  unfold isNm at h
  simp only [Bool.and_eq_true, decide_eq_true_eq] at h
  omega
theorem attL_ok (k : Int) : ∀ (l done : List Pr), attL k done l = 0 → ∀ a ∈ l, a.2.length ≤ 32 ∧ (k ≠ 4 → isNm a.1 = true)
  | [], _, _, a, ha => by cases ha
  | x :: t, done, h, a, ha => by
    unfold attL at h
    split at h
    · exact absurd h (by decide)
    rename_i h1
    split at h
    · exact absurd h (by decide)
    split at h
    · exact absurd h (by decide)
    rename_i h3
    split at h
    · exact absurd h (by decide)
    rcases List.mem_cons.1 ha with rfl | ha
    · refine ⟨by omega, fun hk => ?_⟩
      cases hq : isNm a.1
      · exact absurd ⟨hk, hq⟩ h1
      · rfl
    · exact attL_ok k t _ h a ha
theorem sta_attrs {s : St} {lv : Int} (h : staE s lv = 0) : (∀ a ∈ s.attrs, a.2.length ≤ 32 ∧ (s.kind ≠ 4 → isNm a.1 = true)) ∧ s.attrs.length ≤ 16 ∧ (s.kind = 4 → s.attrs ≠ []) ∧ ((s.kind ≠ 2 ∧ s.kind ≠ 3) → isNm s.name = true) := by
  unfold staE at h
  split at h
  · rename_i hne; exact absurd h hne
  rename_i hf
  have hf0 : fldE s = 0 := by simpa using hf
  split at h
  · exact absurd h (by decide)
  split at h
  · exact absurd h (by decide)
  rename_i hnm
  split at h
  · exact absurd h (by decide)
  unfold attE at h
  split at h
  · exact absurd h (by decide)
  rename_i h16
  refine ⟨attL_ok s.kind s.attrs [] h, by omega, fun h4 => ?_, fun hk => ?_⟩
  · intro e
    unfold fldE at hf0
    rw [e] at hf0
    simp [h4] at hf0
  · cases hq : isNm s.name
    · exact absurd ⟨hk.1, hk.2, hq⟩ hnm
    · rfl
theorem setL_ok {L : List (St × Int)} (h : ∀ x ∈ L, staE x.1 x.2 = 0) : ∀ r ∈ setL L, r.1.length ≤ 16 ∧ r.2.length ≤ 32 := by
  intro r hr
  unfold setL at hr
  rw [List.mem_flatMap] at hr
  obtain ⟨x, hx, hr⟩ := hr
  split at hr
  · rename_i h4
    simp only [List.mem_cons, List.not_mem_nil, or_false] at hr
    subst hr
    obtain ⟨q1, -, q3, q4⟩ := sta_attrs (h x hx)
    refine ⟨nm_len (q4 ⟨by omega, by omega⟩), ?_⟩
    obtain ⟨a, t, ha⟩ := List.exists_cons_of_ne_nil (q3 h4)
    show ((x.1.attrs.headD ([], [])).2).length ≤ 32
    rw [ha]
    exact (q1 a (by rw [ha]; exact List.mem_cons_self ..)).1
  · cases hr
/-- The options merged so far. -/
def ownK (L : List Pr) (k : Nat) : List Pr := (L.take k).foldl (fun own a => mergeL own [a]) []
theorem ownK_step {L : List Pr} {k : Nat} (h : k < L.length) : ownK L (k + 1) = mergeL (ownK L k) [L[k]] := by
  unfold ownK; rw [List.take_succ_eq_append_getElem h, List.foldl_append]; rfl
theorem ownK_ok (L : List Pr) : ∀ k, k ≤ L.length → (ownK L k).length ≤ k ∧ ∀ r ∈ ownK L k, r ∈ L
  | 0, _ => by simp [ownK]
  | k + 1, h => by
    obtain ⟨h1, h2⟩ := ownK_ok L k (by omega)
    rw [ownK_step (by omega)]
    refine ⟨Nat.le_trans (sort_len _) (by rw [List.length_append]; simp; omega), fun r hr => ?_⟩
    rcases List.mem_append.1 (sort_mem _ r hr) with q | q
    · exact h2 r q
    · simp only [List.mem_cons, List.not_mem_nil, or_false] at q
      subst q; exact List.getElem_mem _
theorem firC_drop {k : Int} {L : List Pr} {i : Nat} (h : i < L.length) : firC k (L.drop i) = if checkL k L[i] ≠ 0 then checkL k L[i] else firC k (L.drop (i + 1)) := by
  rw [List.drop_eq_getElem_cons h]; rfl
theorem prs_one (w : World) (a : Pr) (h : a.1.length ≤ maxLen ∧ a.2.length ≤ maxLen) (t : TypeId) : Prs (w.alloc (.cells #[.string (bb a.1), .string (bb a.2)] t)) (.slice (some ⟨w.heap.size, 0, none⟩) 1 1) [a] := by
  have h0 := World.ownsRow_lit (base := 0) (e := t) (size := 2) w #[.string (bb a.1), .string (bb a.2)] 1 (Nat.zero_le _) (by decide) rfl
  exact own_prs (l := [a]) h0 (fun r hr => by simp only [List.mem_cons, List.not_mem_nil, or_false] at hr; subst hr; exact h)
/-- Options that may be written. -/
def obx (W : World) (b : Nat) (v0 v1 v2 v3 v4 : Int) : Prop := W.cell? ⟨b, 0, none⟩ = some (.int .i64 v0) ∧ W.cell? ⟨b, 1, none⟩ = some (.int .i64 v1) ∧ W.cell? ⟨b, 2, none⟩ = some (.int .i64 v2) ∧ W.cell? ⟨b, 3, none⟩ = some (.int .i64 v3) ∧ W.cell? ⟨b, 4, none⟩ = some (.int .i64 v4) ∧
  W.frozen? ⟨b, 0, none⟩ = false ∧ W.frozen? ⟨b, 1, none⟩ = false ∧ W.frozen? ⟨b, 2, none⟩ = false ∧ W.frozen? ⟨b, 3, none⟩ = false ∧ W.frozen? ⟨b, 4, none⟩ = false
theorem obx_new (w : World) (a b c d e : Int) (t : TypeId) : obx (w.alloc (.cells #[.int .i64 a, .int .i64 b, .int .i64 c, .int .i64 d, .int .i64 e] t)) w.heap.size a b c d e := by
  refine ⟨?_, ?_, ?_, ?_, ?_, ?_, ?_, ?_, ?_, ?_⟩ <;> go_simp
theorem obx_keep {w w' : World} {b : Nat} {v0 v1 v2 v3 v4 : Int} (h : obx w b v0 v1 v2 v3 v4) (hb : Below w.heap.size w w') : obx w' b v0 v1 v2 v3 v4 := by
  obtain ⟨a0, a1, a2, a3, a4, f0, f1, f2, f3, f4⟩ := h
  exact ⟨cell_keep hb a0, cell_keep hb a1, cell_keep hb a2, cell_keep hb a3, cell_keep hb a4, fr_keep hb a0 f0, fr_keep hb a1 f1, fr_keep hb a2 f2, fr_keep hb a3 f3, fr_keep hb a4 f4⟩
end Go.Proofs.YtcdoicgbjoikkaaGreatDoor.nor
namespace Go.Proofs.YtcdoicgbjoikkaaGreatDoor.nor
open lex tre att

/-- What the code knows after some statements. -/
structure Bs where
  ns : List Cl
  ats : List (List Pr)
  cs : List Cl
  ch : List (List Pr × List Pr)
def mentC (s : Bs) (n : Nm) (p : Pl) : Bs := if nodeI s.ns n 0 < 0 then ⟨s.ns ++ [(n, p.cl)], s.ats ++ [p.dn], s.cs, s.ch⟩ else s
def refsC : List Pr → Bs → Pl → Bs × Int
  | [], s, _ => (s, 0)
  | r :: t, s, p => if clusd s.cs r.1 = true then (s, 6) else refsC t (mentC s r.1 p) p
mutual
def stmC : St → Pl → Bs → Bs × Int
  | .mk k n r a b, p, s =>
    if k = 1 then (if clusd s.cs n = true then (s, 6) else (⟨(mentC s n p).ns, chgA (mentC s n p).ats (nodeI (mentC s n p).ns n 0) a, (mentC s n p).cs, (mentC s n p).ch⟩, 0))
    else if k = 2 then (if (refsC r s p).2 ≠ 0 then ((refsC r s p).1, (refsC r s p).2) else (⟨(refsC r s p).1.ns, (refsC r s p).1.ats, (refsC r s p).1.cs, (refsC r s p).1.ch ++ [(r, mergeL p.de a)]⟩, 0))
    else if k = 5 then (if clusd s.cs n = true ∨ 0 ≤ nodeI s.ns n 0 then (s, 6) else blkC b ⟨s.cs.length, p.dn, p.de⟩ ⟨s.ns, s.ats, s.cs ++ [(n, p.cl)], s.ch⟩)
    else (s, 0)
def blkC : List St → Pl → Bs → Bs × Int
  | [], _, s => (s, 0)
  | .mk k n r a b :: t, p, s => if stE k n a ≠ 0 then (s, stE k n a) else if (stmC (.mk k n r a b) (dflt k n a p) s).2 ≠ 0 then ((stmC (.mk k n r a b) (dflt k n a p) s).1, (stmC (.mk k n r a b) (dflt k n a p) s).2) else blkC t (dflt k n a p) (stmC (.mk k n r a b) (dflt k n a p) s).1
end
theorem blkC_nil (p : Pl) (s : Bs) : blkC [] p s = (s, 0) := by rw [blkC]
theorem blkC_cons (x : St) (t : List St) (p : Pl) (s : Bs) : blkC (x :: t) p s = if stE x.kind x.name x.attrs ≠ 0 then (s, stE x.kind x.name x.attrs) else if (stmC x (dflt x.kind x.name x.attrs p) s).2 ≠ 0 then ((stmC x (dflt x.kind x.name x.attrs p) s).1, (stmC x (dflt x.kind x.name x.attrs p) s).2) else blkC t (dflt x.kind x.name x.attrs p) (stmC x (dflt x.kind x.name x.attrs p) s).1 := by
  cases x; rw [blkC]; rfl
theorem stmC_1 (n : Nm) (r a : List Pr) (b : List St) (p : Pl) (s : Bs) : stmC (.mk 1 n r a b) p s = if clusd s.cs n = true then (s, 6) else (⟨(mentC s n p).ns, chgA (mentC s n p).ats (nodeI (mentC s n p).ns n 0) a, (mentC s n p).cs, (mentC s n p).ch⟩, 0) := by rw [stmC]; rfl
theorem stmC_2 (n : Nm) (r a : List Pr) (b : List St) (p : Pl) (s : Bs) : stmC (.mk 2 n r a b) p s = if (refsC r s p).2 ≠ 0 then ((refsC r s p).1, (refsC r s p).2) else (⟨(refsC r s p).1.ns, (refsC r s p).1.ats, (refsC r s p).1.cs, (refsC r s p).1.ch ++ [(r, mergeL p.de a)]⟩, 0) := by rw [stmC]; rfl
theorem stmC_5 (n : Nm) (r a : List Pr) (b : List St) (p : Pl) (s : Bs) : stmC (.mk 5 n r a b) p s = if clusd s.cs n = true ∨ 0 ≤ nodeI s.ns n 0 then (s, 6) else blkC b ⟨s.cs.length, p.dn, p.de⟩ ⟨s.ns, s.ats, s.cs ++ [(n, p.cl)], s.ch⟩ := by rw [stmC]; rfl
theorem stmC_n {k : Int} (h1 : k ≠ 1) (h2 : k ≠ 2) (h5 : k ≠ 5) {n : Nm} {r a : List Pr} {b : List St} {p : Pl} {s : Bs} : stmC (.mk k n r a b) p s = (s, 0) := by rw [stmC, if_neg h1, if_neg h2, if_neg h5]

/-! ### Both ways know the same -/
theorem nodeI_app (m : Nm) (x : Cl) : ∀ (l : List Cl) (i : Nat), nodeI (l ++ [x]) m i = if 0 ≤ nodeI l m i then nodeI l m i else if x.1 = m then ((i + l.length : Nat) : Int) else -1
  | [], i => by simp [nodeI]
  | y :: t, i => by
    rw [List.cons_append]
    unfold nodeI
    by_cases h : y.1 = m
    · simp only [if_pos h]; rw [if_pos (by omega)]
    · simp only [if_neg h]
      rw [nodeI_app m x t (i + 1), List.length_cons, show i + 1 + t.length = i + (t.length + 1) by omega]
theorem nodeI_lt (n : Nm) : ∀ (l : List Cl) (i : Nat), nodeI l n i < ((i + l.length : Nat) : Int)
  | [], i => by show (-1 : Int) < _; omega
  | x :: t, i => by
    unfold nodeI
    split
    · rw [List.length_cons]; omega
    · have := nodeI_lt n t (i + 1)
      rw [List.length_cons]; omega
/-- The edges that chains stand for. -/
def enF (ns : List Cl) (ch : List (List Pr × List Pr)) : List En := ch.flatMap fun c => endsL (c.1.map fun r => nodeI ns r.1 0) c.1 c.2
structure Rel (c : Bs) (s : Sta) : Prop where
  ns : s.ns = c.ns
  ats : s.ats = c.ats
  cs : s.cs = c.cs
  en : s.en = enF c.ns c.ch
  e : s.e = 0
  kn : ∀ x ∈ c.ch, ∀ r ∈ x.1, 0 ≤ nodeI c.ns r.1 0
theorem idx_same {ns : List Cl} {x : Cl} {l : List Pr} (h : ∀ r ∈ l, 0 ≤ nodeI ns r.1 0) : l.map (fun r => nodeI (ns ++ [x]) r.1 0) = l.map (fun r => nodeI ns r.1 0) :=
  List.map_congr_left fun r hr => by rw [nodeI_app, if_pos (h r hr)]
theorem enF_grow {ns : List Cl} {x : Cl} : ∀ {ch : List (List Pr × List Pr)}, (∀ y ∈ ch, ∀ r ∈ y.1, 0 ≤ nodeI ns r.1 0) → enF (ns ++ [x]) ch = enF ns ch
  | [], _ => rfl
  | c :: t, h => by
    show endsL _ _ _ ++ enF (ns ++ [x]) t = endsL _ _ _ ++ enF ns t
    rw [enF_grow fun y hy => h y (List.mem_cons_of_mem _ hy), idx_same (h c (List.mem_cons_self ..))]
theorem ge_grow {ns : List Cl} {x : Cl} {n : Nm} (h : 0 ≤ nodeI ns n 0) : 0 ≤ nodeI (ns ++ [x]) n 0 := by rw [nodeI_app, if_pos h]; exact h
theorem ment_dup {c : Bs} {s : Sta} (h : Rel c s) (n : Nm) (p : Pl) (hc : clusd c.cs n = true) : (mentS s n p).e = 6 := by
  unfold mentS
  rw [h.cs]
  split
  · exact if_pos ⟨h.e, hc⟩
  · exact if_pos ⟨h.e, hc⟩
theorem ment_rel {c : Bs} {s : Sta} (h : Rel c s) (n : Nm) (p : Pl) (hc : ¬ clusd c.cs n = true) : Rel (mentC c n p) (mentS s n p) ∧ mentI s n = nodeI (mentC c n p).ns n 0 ∧ 0 ≤ nodeI (mentC c n p).ns n 0 ∧ ∀ m, 0 ≤ nodeI c.ns m 0 → nodeI (mentC c n p).ns m 0 = nodeI c.ns m 0 := by
  unfold mentS mentC mentI
  have he : (if s.e = 0 ∧ clusd c.cs n = true then (6 : Int) else s.e) = s.e := if_neg (fun q => hc q.2)
  rw [h.cs, h.ns, he]
  by_cases hn : nodeI c.ns n 0 < 0
  · simp only [if_pos hn]
    have e1 : nodeI (c.ns ++ [(n, p.cl)]) n 0 = (c.ns.length : Int) := by rw [nodeI_app, if_neg (by omega), if_pos rfl]; simp
    refine ⟨⟨rfl, ?_, rfl, ?_, h.e, fun x hx r hr => ge_grow (h.kn x hx r hr)⟩, ?_, ?_, fun m hm => by show nodeI (c.ns ++ _) m 0 = _; rw [nodeI_app, if_pos hm]⟩
    · show s.ats ++ _ = c.ats ++ _; rw [h.ats]
    · show s.en = enF (c.ns ++ _) c.ch; rw [enF_grow h.kn]; exact h.en
    · exact e1.symm
    · show 0 ≤ nodeI (c.ns ++ [(n, p.cl)]) n 0; rw [e1]; omega
  · simp only [if_neg hn]
    exact ⟨⟨rfl, h.ats, rfl, h.en, h.e, h.kn⟩, trivial, by omega, fun _ _ => trivial⟩
theorem refs_done (p : Pl) : ∀ (l : List Pr) (s : Sta), s.e ≠ 0 → refsS l s p = s
  | [], _, _ => rfl
  | r :: t, s, h => by unfold refsS; rw [if_pos h]
theorem refs_rel (p : Pl) : ∀ (l : List Pr) (c : Bs) (s : Sta), Rel c s → (refsC l c p).2 = (refsS l s p).e ∧ ((refsS l s p).e = 0 → Rel (refsC l c p).1 (refsS l s p) ∧ refsI l s p = l.map (fun r => nodeI (refsC l c p).1.ns r.1 0) ∧ (∀ r ∈ l, 0 ≤ nodeI (refsC l c p).1.ns r.1 0) ∧ ∀ m, 0 ≤ nodeI c.ns m 0 → nodeI (refsC l c p).1.ns m 0 = nodeI c.ns m 0)
  | [], c, s, h => ⟨h.e.symm, fun _ => ⟨h, rfl, fun r hr => (by cases hr), fun _ _ => rfl⟩⟩
  | r :: t, c, s, h => by
    have eS : refsS (r :: t) s p = refsS t (mentS s r.1 p) p := if_neg (by simp [h.e])
    have eI : refsI (r :: t) s p = mentI s r.1 :: refsI t (mentS s r.1 p) p := if_neg (by simp [h.e])
    rw [eS, eI]
    by_cases hc : clusd c.cs r.1 = true
    · have eC : refsC (r :: t) c p = (c, 6) := if_pos hc
      rw [eC]
      have h6 := ment_dup h r.1 p hc
      rw [refs_done p t _ (by rw [h6]; decide), h6]
      exact ⟨rfl, fun q => absurd q (by decide)⟩
    · have eC : refsC (r :: t) c p = refsC t (mentC c r.1 p) p := if_neg hc
      rw [eC]
      obtain ⟨m1, m2, m3, m4⟩ := ment_rel h r.1 p hc
      obtain ⟨q1, q2⟩ := refs_rel p t _ _ m1
      refine ⟨q1, fun q => ?_⟩
      obtain ⟨r1, r2, r3, r4⟩ := q2 q
      have e1 := r4 r.1 m3
      refine ⟨r1, ?_, fun x hx => ?_, fun m hm => ?_⟩
      · rw [List.map_cons, r2, m2, e1]
      · rcases List.mem_cons.1 hx with rfl | hx
        · rw [e1]; exact m3
        · exact r3 x hx
      · rw [r4 m (by rw [m4 m hm]; exact hm), m4 m hm]
theorem edges_rel {c : Bs} {s : Sta} (h : Rel c s) (rs a : List Pr) (p : Pl) : (if (refsC rs c p).2 ≠ 0 then ((refsC rs c p).1, (refsC rs c p).2) else ((⟨(refsC rs c p).1.ns, (refsC rs c p).1.ats, (refsC rs c p).1.cs, (refsC rs c p).1.ch ++ [(rs, mergeL p.de a)]⟩ : Bs), (0 : Int))).2 = (edgesS s rs a p).e ∧
    ((edgesS s rs a p).e = 0 → Rel (if (refsC rs c p).2 ≠ 0 then ((refsC rs c p).1, (refsC rs c p).2) else ((⟨(refsC rs c p).1.ns, (refsC rs c p).1.ats, (refsC rs c p).1.cs, (refsC rs c p).1.ch ++ [(rs, mergeL p.de a)]⟩ : Bs), (0 : Int))).1 (edgesS s rs a p)) := by
  obtain ⟨q1, q2⟩ := refs_rel p rs c s h
  rw [q1]
  unfold edgesS
  by_cases he : (refsS rs s p).e ≠ 0
  · rw [if_pos he, if_pos he]
    exact ⟨rfl, fun q => absurd q he⟩
  · rw [if_neg he, if_neg he]
    have he' : (refsS rs s p).e = 0 := by simpa using he
    obtain ⟨r1, r2, r3, r4⟩ := q2 he'
    refine ⟨he'.symm, fun _ => ⟨r1.ns, r1.ats, r1.cs, ?_, r1.e, fun x hx r hr => ?_⟩⟩
    · show (refsS rs s p).en ++ _ = enF _ (_ ++ [_])
      rw [r1.en, r2]
      unfold enF
      rw [List.flatMap_append]
      simp
    · rcases List.mem_append.1 hx with hx | hx
      · exact r1.kn x hx r hr
      · rw [List.mem_singleton] at hx; subst hx; exact r3 r hr
theorem dflt_id {k : Int} (h : k ≠ 3) (n : Nm) (a : List Pr) (p : Pl) : dflt k n a p = p := if_neg h
/-- The code's way and the reference's: the same error; where there is none, the same is known. -/
theorem blk_rel : (∀ x : St, ∀ (p : Pl) (c : Bs) (s : Sta), Rel c s → (stmC x (dflt x.kind x.name x.attrs p) c).2 = (stmS x p s).e ∧ ((stmS x p s).e = 0 → Rel (stmC x (dflt x.kind x.name x.attrs p) c).1 (stmS x p s))) ∧
    ∀ l : List St, ∀ (p : Pl) (c : Bs) (s : Sta), Rel c s → (blkC l p c).2 = (blkS l p s).e ∧ ((blkS l p s).e = 0 → Rel (blkC l p c).1 (blkS l p s)) := by
  refine st_ind (fun k n r a b hb p c s h => ?_) (fun p c s h => ?_) (fun x t hx ht p c s h => ?_)
  · show (stmC (.mk k n r a b) (dflt k n a p) c).2 = (stmS (.mk k n r a b) p s).e ∧ ((stmS (.mk k n r a b) p s).e = 0 → Rel (stmC (.mk k n r a b) (dflt k n a p) c).1 (stmS (.mk k n r a b) p s))
    by_cases h1 : k = 1
    · subst h1
      rw [dflt_id (by decide), stmC_1, stmS_1]
      by_cases hc : clusd c.cs n = true
      · rw [if_pos hc]
        exact ⟨(ment_dup h n p hc).symm, fun q => absurd ((ment_dup h n p hc).symm.trans q) (by decide)⟩
      · rw [if_neg hc]
        obtain ⟨m1, m2, m3, m4⟩ := ment_rel h n p hc
        refine ⟨m1.e.symm, fun _ => ⟨m1.ns, ?_, m1.cs, m1.en, m1.e, m1.kn⟩⟩
        show chgA (mentS s n p).ats (mentI s n) a = chgA (mentC c n p).ats _ a
        rw [m1.ats, m2]
    by_cases h2 : k = 2
    · subst h2
      rw [dflt_id (by decide), stmC_2, stmS_2]
      exact edges_rel h r a p
    by_cases h5 : k = 5
    · subst h5
      rw [dflt_id (by decide), stmC_5, stmS_5, h.cs, h.ns]
      by_cases hc : clusd c.cs n = true ∨ 0 ≤ nodeI c.ns n 0
      · rw [if_pos hc, if_pos hc]
        exact ⟨rfl, fun q => absurd (show (6 : Int) = 0 from q) (by decide)⟩
      · rw [if_neg hc, if_neg hc]
        exact hb _ _ _ ⟨rfl, h.ats, rfl, h.en, h.e, h.kn⟩
    · rw [stmC_n h1 h2 h5, show stmS (.mk k n r a b) p s = s by rw [stmS, if_neg h1, if_neg h2, if_neg h5]]
      exact ⟨h.e.symm, fun _ => h⟩
  · rw [blkC_nil, blkS_nil]; exact ⟨h.e.symm, fun _ => h⟩
  · have eS : blkS (x :: t) p s = if stE x.kind x.name x.attrs ≠ 0 then ⟨s.ns, s.ats, s.cs, s.en, stE x.kind x.name x.attrs⟩ else blkS t (dflt x.kind x.name x.attrs p) (stmS x p s) := by rw [blkS_cons]; exact if_neg (by simp [h.e])
    rw [blkC_cons, eS]
    by_cases hE : stE x.kind x.name x.attrs ≠ 0
    · rw [if_pos hE, if_pos hE]
      exact ⟨rfl, fun q => absurd q hE⟩
    · rw [if_neg hE, if_neg hE]
      obtain ⟨q1, q2⟩ := hx p c s h
      by_cases he : (stmC x (dflt x.kind x.name x.attrs p) c).2 ≠ 0
      · rw [if_pos he]
        have hz : (stmS x p s).e ≠ 0 := by rw [← q1]; exact he
        have hd : ∀ l q, blkS l q (stmS x p s) = stmS x p s := fun l q => by
          cases l with
          | nil => rw [blkS_nil]
          | cons y u => rw [blkS_cons, if_pos hz]
        rw [hd]
        exact ⟨q1, fun q => absurd q hz⟩
      · rw [if_neg he]
        have hz : (stmS x p s).e = 0 := by rw [← q1]; simpa using he
        exact ht _ _ _ (q2 hz)
end Go.Proofs.YtcdoicgbjoikkaaGreatDoor.nor
namespace Go.Proofs.YtcdoicgbjoikkaaGreatDoor.nor
open lex tre att

/-- What a table of ends holds. -/
abbrev EnM := Pr → (Int × Int) × Bool
def em0 : EnM := fun _ => ((0, 0), false)
def putM (F : EnM) (k : Pr) (v : Int × Int) : EnM := fun x => if x = k then (v, true) else F x
def endP (v : Int) (nm : Nm) : List (Nm × Int) → Nat → EnM → EnM
  | [], _, F => F
  | p :: t, i, F => endP v nm t (i + 1) (putM F (nm, p.1) (v, i))
def endN : List gra.Nd → Nat → EnM → EnM
  | [], _, F => F
  | n :: t, v, F => endN t (v + 1) (endP v n.nm n.ps 0 (putM F (n.nm, []) (v, -1)))
/-- Ports as a value of ports holds them. -/
def PsOk (l : List (Nm × Int)) : Prop := (l.map (·.1)).Nodup ∧ ∀ p ∈ l, p.1 ≠ []
theorem PsOk.tail {x : Nm × Int} {t : List (Nm × Int)} (h : PsOk (x :: t)) : PsOk t ∧ x.1 ∉ t.map (·.1) ∧ x.1 ≠ [] := by
  obtain ⟨h1, h2⟩ := h
  rw [List.map_cons, List.nodup_cons] at h1
  exact ⟨⟨h1.2, fun p hp => h2 p (List.mem_cons_of_mem _ hp)⟩, h1.1, h2 x (List.mem_cons_self ..)⟩
theorem findG_ge (n : Nm) : ∀ (l : List gra.Nd) (i : Nat), gra.findG l n i = -1 ∨ (i : Int) ≤ gra.findG l n i
  | [], _ => Or.inl rfl
  | x :: t, i => by
    unfold gra.findG
    split
    · exact Or.inr (Int.le_refl _)
    · rcases findG_ge n t (i + 1) with h | h
      · exact Or.inl h
      · exact Or.inr (by omega)
/-! ### Edges -/
def edgC (F : EnM) (lb : Nm) (wt ln : Int) : List Pr → List gra.Ed → List gra.Ed × Bool
  | r :: q :: t, es => if (F r).2 = false ∨ (F q).2 = false then (es, false) else edgC F lb wt ln (q :: t) (if es.length ≤ 256 then es ++ [⟨(F r).1.1, (F q).1.1, (F r).1.2, (F q).1.2, lb, wt, ln⟩] else es)
  | _, es => (es, true)
/-- The edges of one chain. -/
def edcC (F : EnM) (c : List Pr × List Pr) (es : List gra.Ed) : List gra.Ed × Bool := edgC F (getL c.2 wLabel).1 (numL 2 c.2 wWeight) (numL 2 c.2 wLen) c.1 es
def addC (F : EnM) : List (List Pr × List Pr) → List gra.Ed → List gra.Ed × Bool
  | [], es => (es, true)
  | c :: t, es => if (edcC F c es).2 = false then ((edcC F c es).1, false) else addC F t (edcC F c es).1
end Go.Proofs.YtcdoicgbjoikkaaGreatDoor.nor
namespace Go.Proofs.YtcdoicgbjoikkaaGreatDoor.nor
open lex tre att

theorem parts_ok : ∀ (l : List (List UInt8)) (out : List (List UInt8 × Int)), PsOk out → PsOk (partsL l out).1
  | [], out, h => h
  | s :: t, out, h => by
    unfold partsL
    split
    · exact ⟨List.nodup_nil, fun p hp => by cases hp⟩
    rename_i h1
    split
    · exact ⟨List.nodup_nil, fun p hp => by cases hp⟩
    rename_i h2
    split
    · exact ⟨List.nodup_nil, fun p hp => by cases hp⟩
    refine parts_ok t _ ⟨?_, fun p hp => ?_⟩
    · rw [List.map_append, List.nodup_append]
      refine ⟨h.1, by simp, fun a ha b hb => ?_⟩
      simp only [List.map_cons, List.map_nil, List.mem_cons, List.not_mem_nil, or_false] at hb
      subst hb
      intro e
      subst e
      obtain ⟨p, hp, e⟩ := List.mem_map.1 ha
      exact h2 (List.any_eq_true.2 ⟨p, hp, decide_eq_true e⟩)
    · rcases List.mem_append.1 hp with hp | hp
      · exact h.2 p hp
      · rw [List.mem_singleton] at hp
        subst hp
        intro e
        refine h1 ?_
        have e' : (partL s).2.1 = [] := e
        unfold partL at e' ⊢
        split at e' <;> rename_i hg
        · simp
        · split at e' <;> rename_i hs
          · simp [hs]
          · split at e' <;> rename_i hn
            · simp [hs, hn]
            · exfalso
              have e2 : _ = ([] : List UInt8) := e'
              simp only at e2
              rw [e2] at hn
              exact hn (by decide)
theorem fin_ps (x : Cl) (l : List Pr) : (finN x l).ps = (portsL (getL l wPorts).1).1 := by
  unfold finN
  by_cases h : (getL l wPorts).2 = true
  · rw [if_pos h]
  · have e : getL l wPorts = ([], false) := getL_none (by simpa using h)
    rw [if_neg h, e]; rfl
theorem zip_nm : ∀ (ns : List Cl) (ats : List (List Pr)), ns.length = ats.length → (List.zipWith finN ns ats).map (·.nm) = ns.map (·.1)
  | [], [], _ => rfl
  | x :: t, a :: u, h => by
    rw [List.zipWith_cons_cons, List.map_cons, List.map_cons, zip_nm t u (by simpa using h)]; rfl
theorem chg_len : ∀ (l : List (List Pr)) (i : Int) (m : List Pr), (chgA l i m).length = l.length
  | [], _, _ => rfl
  | a :: t, i, m => by unfold chgA; rw [List.length_cons, chg_len t, List.length_cons]
theorem mentC_len {c : Bs} (h : c.ns.length = c.ats.length) (n : Nm) (p : Pl) : (mentC c n p).ns.length = (mentC c n p).ats.length := by
  unfold mentC
  split
  · simp [h]
  · exact h
theorem refsC_len (p : Pl) : ∀ (l : List Pr) (c : Bs), c.ns.length = c.ats.length → (refsC l c p).1.ns.length = (refsC l c p).1.ats.length
  | [], _, h => h
  | r :: t, c, h => by
    unfold refsC
    split
    · exact h
    · exact refsC_len p t _ (mentC_len h _ _)
theorem blkC_len : (∀ x : St, ∀ (p : Pl) (c : Bs), c.ns.length = c.ats.length → (stmC x p c).1.ns.length = (stmC x p c).1.ats.length) ∧
    ∀ l : List St, ∀ (p : Pl) (c : Bs), c.ns.length = c.ats.length → (blkC l p c).1.ns.length = (blkC l p c).1.ats.length := by
  refine st_ind (fun k n r a b hb p c h => ?_) (fun p c h => ?_) (fun x t hx ht p c h => ?_)
  · by_cases h1 : k = 1
    · subst h1
      rw [stmC_1]
      split
      · exact h
      · show (mentC c n p).ns.length = (chgA _ _ _).length
        rw [chg_len]; exact mentC_len h _ _
    by_cases h2 : k = 2
    · subst h2
      rw [stmC_2]
      split
      · exact refsC_len p r c h
      · exact refsC_len p r c h
    by_cases h5 : k = 5
    · subst h5
      rw [stmC_5]
      split
      · exact h
      · exact hb _ _ h
    · rw [stmC_n h1 h2 h5]; exact h
  · rw [blkC_nil]; exact h
  · rw [blkC_cons]
    split
    · exact h
    · split
      · exact hx _ _ h
      · exact ht _ _ (hx _ _ h)
/-! ### The graph -/
def bs0 : Bs := ⟨[], [], [], []⟩
theorem rel0 : Rel bs0 st0 := ⟨rfl, rfl, rfl, rfl, rfl, fun x hx => by cases hx⟩
/-- The nodes with all that their attributes say. -/
def ndC' (c : Bs) : List gra.Nd := List.zipWith finN c.ns c.ats
def finC (n : Nm) (d : Bool) (c : Bs) : gra.Gr := ⟨n, d, ndC' c, (addC (endN (ndC' c) 0 em0) c.ch []).1, c.cs⟩
def buildC (T : Tr) : gra.Gr × Int :=
  if validT T ≠ 0 then (emG, validT T)
  else if (blkC T.body pl0 bs0).2 ≠ 0 then (emG, (blkC T.body pl0 bs0).2)
  else if (addC (endN (ndC' (blkC T.body pl0 bs0).1) 0 em0) (blkC T.body pl0 bs0).1.ch []).2 = false then (emG, 5)
  else if gra.validE (finC T.name T.dir (blkC T.body pl0 bs0).1) ≠ 0 then (emG, gra.validE (finC T.name T.dir (blkC T.body pl0 bs0).1))
  else (finC T.name T.dir (blkC T.body pl0 bs0).1, 0)
end Go.Proofs.YtcdoicgbjoikkaaGreatDoor.nor
namespace Go.Proofs.YtcdoicgbjoikkaaGreatDoor.nor
open lex tre att

/-! ### Short lists of attributes -/
theorem mem_erase' {a x : Nm} : ∀ {l : List Nm}, x ∈ l → x ≠ a → x ∈ l.erase a
  | [], h, _ => by cases h
  | y :: t, h, hne => by
    rw [List.erase_cons]
    split
    · rename_i hy
      rcases List.mem_cons.1 h with rfl | h
      · exact absurd (by simpa using hy) hne
      · exact h
    · rcases List.mem_cons.1 h with rfl | h
      · exact List.mem_cons_self ..
      · exact List.mem_cons_of_mem _ (mem_erase' h hne)
theorem nodup_le : ∀ {l K : List Nm}, l.Nodup → (∀ x ∈ l, x ∈ K) → l.length ≤ K.length
  | [], _, _, _ => Nat.zero_le _
  | a :: t, K, h, hs => by
    rw [List.nodup_cons] at h
    have ha := hs a (List.mem_cons_self ..)
    have := nodup_le (K := K.erase a) h.2 (fun x hx => mem_erase' (hs x (List.mem_cons_of_mem _ hx)) (fun e => h.1 (e ▸ hx)))
    rw [List.length_erase_of_mem ha] at this
    have hp := List.length_pos_of_mem ha
    rw [List.length_cons]; omega
theorem asc_nodup : ∀ {l : List Pr}, Asc l → (l.map (·.1)).Nodup
  | [], _ => List.nodup_nil
  | x :: t, h => by
    rw [List.map_cons, List.nodup_cons]
    refine ⟨fun q => ?_, asc_nodup h.2⟩
    obtain ⟨y, hy, e⟩ := List.mem_map.1 q
    have := h.1 y hy
    rw [e] at this
    exact lt_irr _ this
def keysN : List Nm := [wLabel, wWidth, wHeight, wPorts, wWeight, wLen, wMode, wNodesep, wRanksep, wMargin, wRounds]
theorem check_key {k : Int} {a : Pr} (h : checkL k a = 0) : a.1 ∈ keysN := by
  unfold checkL at h
  split at h
  · exact absurd h (by decide)
  split at h
  · exact absurd h (by decide)
  rename_i h2
  unfold knownL ruN ruE ruS at h2
  unfold keysN
  simp only [List.mem_cons, List.not_mem_nil, or_false]
  repeat' (first | (split at h2))
  all_goals first | (exact absurd rfl h2) | simp_all
/-- Attributes that a merge left, all accepted. -/
def Ga (k : Int) (l : List Pr) : Prop := (∀ a ∈ l, checkL k a = 0) ∧ Asc l
theorem Ga.len {k : Int} {l : List Pr} (h : Ga k l) : l.length ≤ 11 := by
  have := nodup_le (asc_nodup h.2) (K := keysN) (fun x hx => by
    obtain ⟨a, ha, e⟩ := List.mem_map.1 hx
    exact e ▸ check_key (h.1 a ha))
  simpa [keysN] using this
theorem Ga.nil (k : Int) : Ga k [] := ⟨fun a h => (by cases h), trivial⟩
theorem firC_ok {k : Int} : ∀ {l : List Pr}, firC k l = 0 → ∀ a ∈ l, checkL k a = 0
  | [], _, a, h => by cases h
  | x :: t, h, a, ha => by
    unfold firC at h
    split at h
    · rename_i hne; exact absurd h hne
    · rename_i hne
      rcases List.mem_cons.1 ha with rfl | ha
      · simpa using hne
      · exact firC_ok h a ha
theorem Ga.merge {k : Int} {l m : List Pr} (h : Ga k l) (hm : firC k m = 0) : Ga k (mergeL l m) :=
  ⟨fun a ha => by
    rcases List.mem_append.1 (sort_mem _ a ha) with q | q
    · exact h.1 a q
    · exact firC_ok hm a q, merge_asc l m⟩

/-! ### Statements that may be read -/
/-- A statement that is valid at some level, of few refs. -/
def okS (s : St) : Prop := (∃ lv, staE s lv = 0) ∧ s.refs.length ≤ 40
def okB (l : List St) : Prop := ∀ y ∈ preL l 0, okS y.1
theorem okB_cons {x : St} {t : List St} (h : okB (x :: t)) : okS x ∧ okB x.body ∧ okB t := by
  unfold okB at h ⊢
  rw [preL_cons, preS_eq] at h
  refine ⟨h (x, 0) (by simp), fun y hy => ?_, fun y hy => h y (by simp [hy])⟩
  obtain ⟨lv, hlv⟩ := pre_mem.2 x.body 0 (if x.kind = 5 then (0 : Int) + 1 else 0) y hy
  exact h (y.1, lv) (by simp only [List.cons_append, List.mem_cons, List.mem_append]; exact Or.inr (Or.inl hlv))
theorem okB_of {T : Tr} (h : validT T = 0) (hr : okL T.body) : okB T.body := fun y hy => ⟨⟨y.2, ((valid_iff T).1 h).2.2 y hy⟩, (hr y hy).1⟩
theorem okB_at {l : List St} {i : Nat} (h : okB (l.drop i)) (hi : i < l.length) : okS l[i] ∧ okB l[i].body ∧ okB (l.drop (i + 1)) := by
  rw [List.drop_eq_getElem_cons hi] at h
  exact okB_cons h
theorem cnt_at {l : List St} {i : Nat} (hi : i < l.length) : cnt (l.drop i) = 1 + cnt l[i].body + cnt (l.drop (i + 1)) := by
  rw [List.drop_eq_getElem_cons hi, cnt_cons]
/-- How much is known. -/
def sz (s : Bs) : Nat := s.ns.length + s.cs.length + s.ch.length
theorem ment_sz (s : Bs) (n : Nm) (p : Pl) : sz (mentC s n p) ≤ sz s + 1 := by
  unfold mentC sz
  split
  · simp only [List.length_append, List.length_singleton]; omega
  · omega
theorem refs_sz (p : Pl) : ∀ (l : List Pr) (s : Bs), sz (refsC l s p).1 ≤ sz s + l.length
  | [], s => Nat.le_refl _
  | r :: t, s => by
    unfold refsC
    split
    · show sz s ≤ _; omega
    · have h1 := refs_sz p t (mentC s r.1 p)
      have h2 := ment_sz s r.1 p
      rw [List.length_cons]; omega
theorem blk_sz : (∀ x : St, ∀ (p : Pl) (s : Bs), okS x → okB x.body → sz (stmC x p s).1 ≤ sz s + 42 * (1 + cnt x.body)) ∧
    ∀ l : List St, ∀ (p : Pl) (s : Bs), okB l → sz (blkC l p s).1 ≤ sz s + 42 * cnt l := by
  refine st_ind (fun k n r a b hb p s ho hk => ?_) (fun p s _ => ?_) (fun x t hx ht p s ho => ?_)
  · have hr : r.length ≤ 40 := ho.2
    simp only [St.body] at hk ⊢
    by_cases h1 : k = 1
    · subst h1
      rw [stmC_1]
      split
      · show sz s ≤ _; omega
      · have := ment_sz s n p
        show sz (mentC s n p) ≤ _
        omega
    by_cases h2 : k = 2
    · subst h2
      rw [stmC_2]
      have := refs_sz p r s
      split
      · show sz (refsC r s p).1 ≤ _; omega
      · unfold sz at this ⊢
        simp only [List.length_append, List.length_singleton]; omega
    by_cases h5 : k = 5
    · subst h5
      rw [stmC_5]
      split
      · show sz s ≤ _; omega
      · have := hb ⟨s.cs.length, p.dn, p.de⟩ ⟨s.ns, s.ats, s.cs ++ [(n, p.cl)], s.ch⟩ hk
        have e : sz (⟨s.ns, s.ats, s.cs ++ [(n, p.cl)], s.ch⟩ : Bs) = sz s + 1 := by unfold sz; simp only [List.length_append, List.length_singleton]; omega
        omega
    · rw [stmC_n h1 h2 h5]; show sz s ≤ _; omega
  · rw [blkC_nil]; show sz s ≤ _; omega
  · obtain ⟨o1, o2, o3⟩ := okB_cons ho
    rw [blkC_cons, cnt_cons]
    have q1 := hx (dflt x.kind x.name x.attrs p) s o1 o2
    split
    · show sz s ≤ _; omega
    · split
      · show sz (stmC _ _ _).1 ≤ _; omega
      · have q2 := ht (dflt x.kind x.name x.attrs p) (stmC x (dflt x.kind x.name x.attrs p) s).1 o3
        omega
/-! ### What stays accepted -/
def GaP (p : Pl) : Prop := Ga 1 p.dn ∧ Ga 2 p.de
def GaS (s : Bs) : Prop := (∀ a ∈ s.ats, Ga 1 a) ∧ ∀ c ∈ s.ch, Ga 2 c.2
theorem GaP.dflt {p : Pl} (h : GaP p) {k : Int} {n : Nm} {a : List Pr} (he : stE k n a = 0) (hk : k = 3 → n = wNode ∨ n = wEdge) : GaP (dflt k n a p) := by
  unfold nor.dflt
  split
  · rename_i h3
    subst h3
    unfold stE at he
    rw [if_neg (by decide)] at he
    split
    · rename_i hn
      subst hn
      rw [if_neg (fun q => q.elim (fun e => absurd e (by decide)) (fun e => absurd e.2 (by decide)))] at he
      exact ⟨h.1.merge he, h.2⟩
    · rename_i hn
      have hw : n = wEdge := (hk rfl).resolve_left hn
      rw [if_pos (Or.inr ⟨rfl, hw⟩)] at he
      exact ⟨h.1, h.2.merge he⟩
  · exact h
theorem GaS.ment {s : Bs} {p : Pl} (h : GaS s) (hp : GaP p) (n : Nm) : GaS (mentC s n p) := by
  unfold mentC
  split
  · refine ⟨fun a ha => ?_, h.2⟩
    rcases List.mem_append.1 ha with q | q
    · exact h.1 a q
    · rw [List.mem_singleton] at q; subst q; exact hp.1
  · exact h
theorem GaS.refs {p : Pl} (hp : GaP p) : ∀ (l : List Pr) (s : Bs), GaS s → GaS (refsC l s p).1
  | [], _, h => h
  | r :: t, s, h => by
    unfold refsC
    split
    · exact h
    · exact GaS.refs hp t _ (h.ment hp _)
theorem chg_mem (m : List Pr) : ∀ (l : List (List Pr)) (i : Int), ∀ a ∈ chgA l i m, a ∈ l ∨ ∃ b ∈ l, a = mergeL b m
  | [], _, a, h => by cases h
  | b :: t, i, a, h => by
    unfold chgA at h
    rcases List.mem_cons.1 h with e | h
    · split at e
      · exact Or.inr ⟨b, List.mem_cons_self .., e⟩
      · exact Or.inl (e ▸ List.mem_cons_self ..)
    · rcases chg_mem m t (i - 1) a h with q | ⟨c, hc, e⟩
      · exact Or.inl (List.mem_cons_of_mem _ q)
      · exact Or.inr ⟨c, List.mem_cons_of_mem _ hc, e⟩
theorem GaS.chg {s : Bs} (h : GaS s) (i : Int) {m : List Pr} (hm : firC 1 m = 0) : GaS ⟨s.ns, chgA s.ats i m, s.cs, s.ch⟩ :=
  ⟨fun a ha => by
    rcases chg_mem m s.ats i a ha with q | ⟨b, hb, rfl⟩
    · exact h.1 a q
    · exact (h.1 b hb).merge hm, h.2⟩
theorem stE_1 {n : Nm} {a : List Pr} (h : stE 1 n a = 0) : firC 1 a = 0 := by
  unfold stE at h; rw [if_neg (by decide), if_neg (fun q => q.elim (fun e => absurd e (by decide)) (fun e => absurd e.1 (by decide)))] at h; exact h
theorem stE_2 {n : Nm} {a : List Pr} (h : stE 2 n a = 0) : firC 2 a = 0 := by
  unfold stE at h; rw [if_neg (by decide), if_pos (Or.inl rfl)] at h; exact h
theorem sta_kind3 {s : St} (h : okS s) (hk : s.kind = 3) : s.name = wNode ∨ s.name = wEdge := by
  obtain ⟨⟨lv, h⟩, -⟩ := h
  unfold staE at h
  split at h
  · rename_i hne; exact absurd h hne
  rename_i hf
  have hf0 : fldE s = 0 := by simpa using hf
  unfold fldE at hf0
  split at hf0
  · exact absurd hf0 (by decide)
  split at hf0
  · exact absurd hf0 (by decide)
  split at hf0
  · exact absurd hf0 (by decide)
  rename_i q
  by_cases h1 : s.name = wNode
  · exact Or.inl h1
  · by_cases h2 : s.name = wEdge
    · exact Or.inr h2
    · exact absurd (Or.inl ⟨hk, h1, h2⟩) q
theorem GaS.chain {s : Bs} (h : GaS s) {r a : List Pr} {p : Pl} (hp : GaP p) (ha : firC 2 a = 0) : GaS ⟨s.ns, s.ats, s.cs, s.ch ++ [(r, mergeL p.de a)]⟩ :=
  ⟨h.1, fun c hc => by
    rcases List.mem_append.1 hc with q | q
    · exact h.2 c q
    · rw [List.mem_singleton] at q; subst q; exact hp.2.merge ha⟩
theorem blk_Ga : (∀ x : St, ∀ (p : Pl) (s : Bs), okS x → okB x.body → stE x.kind x.name x.attrs = 0 → GaP p → GaS s → GaS (stmC x p s).1) ∧
    ∀ l : List St, ∀ (p : Pl) (s : Bs), okB l → GaP p → GaS s → GaS (blkC l p s).1 := by
  refine st_ind (fun k n r a b hb p s ho hk he hp hs => ?_) (fun p s _ _ hs => ?_) (fun x t hx ht p s ho hp hs => ?_)
  · simp only [St.body, St.kind, St.name, St.attrs] at hk he
    by_cases h1 : k = 1
    · subst h1
      rw [stmC_1]
      split
      · exact hs
      · exact (hs.ment hp n).chg _ (stE_1 he)
    by_cases h2 : k = 2
    · subst h2
      rw [stmC_2]
      split
      · exact GaS.refs hp r s hs
      · exact (GaS.refs hp r s hs).chain hp (stE_2 he)
    by_cases h5 : k = 5
    · subst h5
      rw [stmC_5]
      split
      · exact hs
      · exact hb _ _ hk ⟨hp.1, hp.2⟩ ⟨hs.1, hs.2⟩
    · rw [stmC_n h1 h2 h5]; exact hs
  · rw [blkC_nil]; exact hs
  · obtain ⟨o1, o2, o3⟩ := okB_cons ho
    rw [blkC_cons]
    split
    · exact hs
    · rename_i he
      have he' : stE x.kind x.name x.attrs = 0 := by simpa using he
      have hp' := hp.dflt he' (sta_kind3 o1)
      have q := hx _ s o1 o2 he' hp' hs
      split
      · exact q
      · exact ht _ _ o3 hp' q
theorem firC_drop' {k : Int} {l : List Pr} {i : Nat} (h : i < l.length) : firC k (l.drop i) = if checkL k l[i] ≠ 0 then checkL k l[i] else firC k (l.drop (i + 1)) := by
  rw [List.drop_eq_getElem_cons h, firC]
theorem blkC_drop {l : List St} {i : Nat} (hi : i < l.length) (p : Pl) (s : Bs) : blkC (l.drop i) p s = if stE l[i].kind l[i].name l[i].attrs ≠ 0 then (s, stE l[i].kind l[i].name l[i].attrs) else if (stmC l[i] (dflt l[i].kind l[i].name l[i].attrs p) s).2 ≠ 0 then ((stmC l[i] (dflt l[i].kind l[i].name l[i].attrs p) s).1, (stmC l[i] (dflt l[i].kind l[i].name l[i].attrs p) s).2) else blkC (l.drop (i + 1)) (dflt l[i].kind l[i].name l[i].attrs p) (stmC l[i] (dflt l[i].kind l[i].name l[i].attrs p) s).1 := by
  rw [List.drop_eq_getElem_cons hi, blkC_cons]
end Go.Proofs.YtcdoicgbjoikkaaGreatDoor.nor
