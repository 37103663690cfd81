/-
  Numbers and texts in the graph that the landed code of layer 12 makes are small. No function of the program is named here; no condition.
  The finished builder's graph in memory, as a graph by value (layer 12). No condition.
  What Build of the landed code of layer 12 returns: the plain graph, or the plain error. Conditions: a tree in memory whose statements have at most 40 refs each, at most 2000000000000 statements; the library's variable MaxLen holds a number.
-/
import Derived.Test.YtcdoicgbjoikkaaGreatDoorMpi
import Derived.Test.YtcdoicgbjoikkaaGreatDoorMpj
import Derived.Test.YtcdoicgbjoikkaaGreatDoorMga
import Derived.Test.YtcdoicgbjoikkaaGreatDoorMth
import Derived.Test.YtcdoicgbjoikkaaGreatDoorMgf
namespace Go.Proofs.YtcdoicgbjoikkaaGreatDoor.nor
open lex tre att

def Sml (n : Int) : Prop := -1 ≤ n ∧ n ≤ 2000000
/-- Names are short, places are small. -/
def WfS (s : Bs) : Prop := (∀ x ∈ s.ns, Sml x.2) ∧ ∀ x ∈ s.cs, x.1.length ≤ 16 ∧ Sml x.2
theorem WfS.ment {s : Bs} (h : WfS s) (n : Nm) {p : Pl} (hp : Sml p.cl) : WfS (mentC s n p) := by
  unfold mentC
  split
  · refine ⟨fun x hx => ?_, h.2⟩
    rcases List.mem_append.1 hx with q | q
    · exact h.1 x q
    · rw [List.mem_singleton] at q; subst q; exact hp
  · exact h
theorem WfS.refs {p : Pl} (hp : Sml p.cl) : ∀ (l : List Pr) (s : Bs), WfS s → WfS (refsC l s p).1
  | [], _, h => h
  | r :: t, s, h => by
    unfold refsC
    split
    · exact h
    · exact WfS.refs hp t _ (h.ment _ hp)
theorem okS_clu {s : St} (h : okS s) (h5 : s.kind = 5) : s.name.length ≤ 16 := by
  obtain ⟨⟨lv, h⟩, -⟩ := h
  unfold staE at h
  split at h
  · rename_i hne; exact absurd h hne
  split at h
  · exact absurd h (by decide)
  split at h
  · exact absurd h (by decide)
  rename_i hn
  cases hq : isNm s.name
  · exact absurd ⟨by omega, by omega, hq⟩ hn
  · exact isNm_16 hq
theorem dflt_cl (k : Int) (n : Nm) (a : List Pr) (p : Pl) : (dflt k n a p).cl = p.cl := by
  unfold dflt
  repeat' split
  all_goals rfl
theorem blk_WfS : (∀ x : St, ∀ (p : Pl) (s : Bs), okS x → okB x.body → sz s + 42 * (1 + cnt x.body) ≤ 100000 → Sml p.cl → WfS s → WfS (stmC x p s).1) ∧
    ∀ l : List St, ∀ (p : Pl) (s : Bs), okB l → sz s + 42 * cnt l ≤ 100000 → Sml p.cl → WfS s → WfS (blkC l p s).1 := by
  refine st_ind (fun k n r a b hb p s ho hk hz hp hs => ?_) (fun p s _ _ _ hs => ?_) (fun x t hx ht p s ho hz hp hs => ?_)
  · simp only [St.body] at hk hz
    by_cases h1 : k = 1
    · subst h1
      rw [stmC_1]
      split
      · exact hs
      · have := hs.ment n hp
        exact ⟨this.1, this.2⟩
    by_cases h2 : k = 2
    · subst h2
      rw [stmC_2]
      have := WfS.refs hp r s hs
      split
      · exact this
      · exact ⟨this.1, this.2⟩
    by_cases h5 : k = 5
    · subst h5
      rw [stmC_5]
      split
      · exact hs
      · have hn : n.length ≤ 16 := okS_clu ho rfl
        refine hb _ _ hk ?_ ?_ ⟨hs.1, fun x hx => ?_⟩
        · unfold sz at hz ⊢
          simp only [List.length_append, List.length_singleton]; omega
        · unfold sz at hz
          unfold Sml
          simp only
          omega
        · rcases List.mem_append.1 hx with q | q
          · exact hs.2 x q
          · rw [List.mem_singleton] at q; subst q; exact ⟨hn, hp⟩
    · rw [stmC_n h1 h2 h5]; exact hs
  · rw [blkC_nil]; exact hs
  · obtain ⟨o1, o2, o3⟩ := okB_cons ho
    rw [cnt_cons] at hz
    rw [blkC_cons]
    have hp' : Sml (dflt x.kind x.name x.attrs p).cl := by rw [dflt_cl]; exact hp
    split
    · exact hs
    · have q := hx (dflt x.kind x.name x.attrs p) s o1 o2 (by omega) hp' hs
      have q2 := blk_sz.1 x (dflt x.kind x.name x.attrs p) s o1 o2
      split
      · exact q
      · exact ht _ _ o3 (by omega) hp' q
/-- A label that was accepted. -/
theorem label_short {k : Int} (hk : k = 1 ∨ k = 2) {l : List Pr} (h : ∀ a ∈ l, checkL k a = 0) : (getL l wLabel).1.length ≤ 32 := by
  induction l with
  | nil => exact Nat.zero_le _
  | cons a t ih =>
    rw [getL_cons]
    split
    · exact ih fun q hq => h q (List.mem_cons_of_mem _ hq)
    · split
      · rename_i e
        have hc := h a (List.mem_cons_self ..)
        unfold checkL at hc
        rw [e] at hc
        refine Nat.le_of_not_lt fun hl => ?_
        rcases hk with rfl | rfl
        · rw [if_neg (by decide), if_neg (by decide), if_pos ⟨by decide, hl⟩] at hc
          exact absurd hc (by decide)
        · rw [if_neg (by decide), if_neg (by decide), if_pos ⟨by decide, hl⟩] at hc
          exact absurd hc (by decide)
      · exact Nat.zero_le _
theorem num_sml {k : Int} {l : List Pr} {c : List UInt8} (h : (knownL k c).form = 2 ∨ (knownL k c).form = 3) : Sml (numL k l c) := by
  obtain ⟨h1, h2, -⟩ := num_ok k l c h
  exact ⟨by omega, by omega⟩
theorem idxA_le (s : List UInt8) : ∀ (l : List (List UInt8)) (i : Int), idxA s l i = -1 ∨ (i ≤ idxA s l i ∧ idxA s l i < i + l.length)
  | [], _ => Or.inl rfl
  | x :: t, i => by
    unfold idxA
    split
    · right; simp only [List.length_cons]; omega
    · rcases idxA_le s t (i + 1) with h | h
      · exact Or.inl h
      · right; simp only [List.length_cons]; omega
theorem side_sml (s : List UInt8) : Sml (sideL s) := by
  unfold sideL Sml
  rcases idxA_le s sides 0 with h | h
  · rw [h]; decide
  · have : sides.length = 4 := rfl
    omega
theorem parts_side : ∀ (l : List (List UInt8)) (out : List (List UInt8 × Int)), (∀ p ∈ out, Sml p.2) → ∀ p ∈ (partsL l out).1, Sml p.2
  | [], _, h => h
  | s :: t, out, h => by
    unfold partsL
    split
    · exact fun p hp => by cases hp
    split
    · exact fun p hp => by cases hp
    split
    · exact fun p hp => by cases hp
    refine parts_side t _ fun p hp => ?_
    rcases List.mem_append.1 hp with q | q
    · exact h p q
    · rw [List.mem_singleton] at q
      subst q
      show Sml (partL s).2.2
      unfold partL
      split
      · exact ⟨by decide, by decide⟩
      · split
        · exact ⟨by decide, by decide⟩
        · split
          · exact ⟨by decide, by decide⟩
          · exact side_sml _
theorem ports_side (s : List UInt8) : ∀ p ∈ (portsL s).1, Sml p.2 := by
  unfold portsL
  split
  · exact fun p hp => by cases hp
  · exact parts_side _ _ fun p hp => by cases hp
/-- What a node's numbers and texts are at most. -/
def WfN (x : gra.Nd) : Prop := x.nm.length ≤ 16 ∧ x.lb.length ≤ 32 ∧ Sml x.w ∧ Sml x.h ∧ Sml x.cl ∧ ∀ p ∈ x.ps, p.1.length ≤ 16 ∧ Sml p.2
theorem nd_wf {s : Bs} (h1 : NmS s) (h2 : WfS s) (h3 : GaS s) : ∀ x ∈ ndC' s, WfN x := fun x hx => by
  unfold ndC' at hx
  obtain ⟨i, hi, e⟩ := List.getElem_of_mem hx
  rw [List.length_zipWith] at hi
  rw [List.getElem_zipWith] at e
  subst e
  have g1 := h1.1 _ (List.getElem_mem (show i < s.ns.length by omega))
  have g2 := h2.1 _ (List.getElem_mem (show i < s.ns.length by omega))
  have g3 := h3.1 _ (List.getElem_mem (show i < s.ats.length by omega))
  refine ⟨g1, ?_, num_sml (k := 1) (l := s.ats[i]) (c := wWidth) (by left; decide), num_sml (k := 1) (l := s.ats[i]) (c := wHeight) (by left; decide), g2, ?_⟩
  · show (if (getL _ wLabel).2 then (getL _ wLabel).1 else _).length ≤ 32
    split
    · exact label_short (Or.inl rfl) g3.1
    · omega
  · rw [fin_ps]
    exact fun p hp => ⟨(ports_small _).2 p hp, ports_side _ p hp⟩
/-- Where ends lead. -/
def WfE (F : EnM) : Prop := ∀ x, Sml (F x).1.1 ∧ Sml (F x).1.2
theorem sml0 : Sml 0 := ⟨by decide, by decide⟩
theorem WfE.zero : WfE em0 := fun _ => ⟨sml0, sml0⟩
theorem WfE.put {F : EnM} (h : WfE F) (k : Pr) {a b : Int} (ha : Sml a) (hb : Sml b) : WfE (putM F k (a, b)) := fun x => by
  unfold putM
  split
  · exact ⟨ha, hb⟩
  · exact h x
theorem WfE.ps {v : Int} (hv : Sml v) (nm : Nm) : ∀ (l : List (Nm × Int)) (i : Nat) (F : EnM), WfE F → i + l.length ≤ 1000000 → WfE (endP v nm l i F)
  | [], _, _, h, _ => h
  | p :: t, i, F, h, hl => by
    unfold endP
    rw [List.length_cons] at hl
    exact WfE.ps hv nm t (i + 1) _ (h.put _ hv ⟨by omega, by omega⟩) (by omega)
theorem WfE.ns : ∀ (l : List gra.Nd) (i : Nat) (F : EnM), WfE F → i + l.length ≤ 1000000 → (∀ x ∈ l, x.ps.length ≤ 8) → WfE (endN l i F)
  | [], _, _, h, _, _ => h
  | n :: t, i, F, h, hl, hp => by
    unfold endN
    rw [List.length_cons] at hl
    have h8 := hp n (List.mem_cons_self ..)
    exact WfE.ns t (i + 1) _ (WfE.ps ⟨by omega, by omega⟩ _ _ _ _ (h.put _ ⟨by omega, by omega⟩ ⟨by decide, by decide⟩) (by omega)) (by omega) fun x hx => hp x (List.mem_cons_of_mem _ hx)
/-- What an edge's numbers and texts are at most. -/
def WfD (e : gra.Ed) : Prop := e.lb.length ≤ 32 ∧ Sml e.fr ∧ Sml e.to ∧ Sml e.fp ∧ Sml e.tp ∧ Sml e.wt ∧ Sml e.ln
theorem edg_wf {F : EnM} (hF : WfE F) {lb : Nm} {wt ln : Int} (h1 : lb.length ≤ 32) (h2 : Sml wt) (h3 : Sml ln) : ∀ (l : List Pr) (es : List gra.Ed), (∀ e ∈ es, WfD e) → ∀ e ∈ (edgC F lb wt ln l es).1, WfD e
  | [], _, h => h
  | [_], _, h => h
  | r :: q :: t, es, h => by
    unfold edgC
    split
    · exact h
    · refine edg_wf hF h1 h2 h3 (q :: t) _ ?_
      split
      · intro e he
        rcases List.mem_append.1 he with z | z
        · exact h e z
        · rw [List.mem_singleton] at z
          subst z
          exact ⟨h1, (hF r).1, (hF q).1, (hF r).2, (hF q).2, h2, h3⟩
      · exact h
theorem add_wf {F : EnM} (hF : WfE F) : ∀ (ch : List (List Pr × List Pr)) (es : List gra.Ed), (∀ c ∈ ch, Ga 2 c.2) → (∀ e ∈ es, WfD e) → ∀ e ∈ (addC F ch es).1, WfD e
  | [], _, _, h => h
  | c :: t, es, hg, h => by
    have hc := edg_wf hF (label_short (Or.inr rfl) (hg c (List.mem_cons_self ..)).1) (num_sml (k := 2) (l := c.2) (c := wWeight) (by right; decide)) (num_sml (k := 2) (l := c.2) (c := wLen) (by right; decide)) c.1 es h
    unfold addC
    split
    · exact hc
    · exact add_wf hF t _ (fun x hx => hg x (List.mem_cons_of_mem _ hx)) hc
end Go.Proofs.YtcdoicgbjoikkaaGreatDoor.nor
namespace Go.Proofs.YtcdoicgbjoikkaaGreatDoor.nor
open Go.RowKit lex tre att

theorem wf_sml {n : Int} (h : Sml n) : (Lit.int .i64 n).wf = true := by
  obtain ⟨h1, h2⟩ := h
  have e1 : IntKind.i64.min = -9223372036854775808 := by decide
  have e2 : IntKind.i64.max = 9223372036854775807 := by decide
  show (decide (IntKind.i64.min ≤ n) && decide (n ≤ IntKind.i64.max)) = true
  rw [e1, e2, Bool.and_eq_true, decide_eq_true_eq, decide_eq_true_eq]
  omega
theorem own_rwM {α β : Type} {c : Nat} {P : World → Addr → β → Prop} {f : α → List Value} {m : α → β} (hf : ∀ x, (f x).length = c) {w : World} {B : Nat} {t : TypeId} {v : Value} {l : List α} (hP : ∀ (b o : Nat) (x : α), x ∈ l → (∀ j, j < c → w.cell? ⟨b, o + j, none⟩ = (f x)[j]?) → P w ⟨b, o, none⟩ (m x))
    (h : w.ownsRow B t c v l.length (l.flatMap f)) : gra.Rw c P w v (l.map m) := by
  by_cases h0 : l.length = 0
  · obtain ⟨ao, cap, rfl, h1, h2⟩ := own_form h
    exact ⟨ao, cap, by rw [List.length_map], by rw [List.length_map]; exact h1, h2, fun hn => by rw [List.length_map] at hn; omega⟩
  · obtain ⟨g, cap, arr, rfl, hB', hk, h1, h2, h3⟩ := own_blk h (by omega)
    refine ⟨_, cap, by rw [List.length_map], by rw [List.length_map]; exact h1, h2, fun _ => ⟨_, rfl, fun i hi => ?_⟩⟩
    rw [List.length_map] at hi
    rw [att.add_at, Nat.zero_add, List.getElem_map]
    refine hP _ _ _ (List.getElem_mem hi) fun j hj => ?_
    have hlt : i * c + j < l.length * c := by
      have : (i + 1) * c ≤ l.length * c := Nat.mul_le_mul_right c hi
      rw [Nat.add_mul] at this
      omega
    rw [blk_cell hk, h3 _ hlt, flat_get f c hf l i j hi hj]
theorem len_max {n k : Nat} (h : n ≤ k) (hk : k ≤ 1000) : n ≤ maxLen := by unfold maxLen; omega
theorem pos_pts {w : World} {v : Value} {l : List att.Pt} (h : Pos w v l) (hl : ∀ p ∈ l, p.1.length ≤ 16 ∧ Sml p.2) : gra.Pts w v l := by
  obtain ⟨ao, cap, rfl, hc, hm, hA⟩ := h
  refine ⟨ao, cap, rfl, hc, hm, fun hn => ?_⟩
  obtain ⟨A, rfl, h2⟩ := hA hn
  refine ⟨A, rfl, fun i hi => ?_⟩
  obtain ⟨a1, a2⟩ := h2 i hi
  obtain ⟨q1, q2⟩ := hl _ (List.getElem_mem hi)
  exact ⟨a1, a2, len_max q1 (by decide), wf_sml q2⟩
theorem frow_nds {w : World} {B : Nat} {v : Value} {L : List (gra.Nd × Value)} (h : Frow w B v L) (hp : ∀ y ∈ L, PosT w y.2 y.1.ps) (hw : ∀ x ∈ L.map (·.1), WfN x) : gra.Nds w v (L.map (·.1)) :=
  own_rwM (f := nfC) (m := fun y => y.1) (fun _ => rfl) (fun b o x hx hc => by
    obtain ⟨w1, w2, w3, w4, w5, w6⟩ := hw _ (List.mem_map_of_mem hx)
    refine ⟨?_, hc 1 (by decide), hc 2 (by decide), hc 3 (by decide), hc 4 (by decide), ⟨x.2, hc 5 (by decide), pos_pts (hp x hx).pos w6⟩, len_max w1 (by decide), len_max w2 (by decide), wf_sml w3, wf_sml w4, wf_sml w5⟩
    have := hc 0 (by decide)
    rwa [Nat.add_zero] at this) h
theorem drow_eds {w : World} {B : Nat} {v : Value} {l : List gra.Ed} (h : Drow w B v l) (hw : ∀ x ∈ l, WfD x) : gra.Eds w v l := by
  have := own_rwM (P := gra.edAt) (f := edC) (m := fun y => y) (fun _ => rfl) (fun b o x hx hc => by
    obtain ⟨w1, w2, w3, w4, w5, w6, w7⟩ := hw _ hx
    refine ⟨?_, hc 1 (by decide), hc 2 (by decide), hc 3 (by decide), hc 4 (by decide), hc 5 (by decide), hc 6 (by decide), len_max w1 (by decide), wf_sml w2, wf_sml w3, wf_sml w4, wf_sml w5, wf_sml w6, wf_sml w7⟩
    have := hc 0 (by decide)
    rwa [Nat.add_zero] at this) h
  rwa [List.map_id'] at this
theorem crow_cls {w : World} {B : Nat} {v : Value} {l : List Cl} (h : Crow w B v l) (hw : ∀ x ∈ l, x.1.length ≤ 16 ∧ Sml x.2) : gra.Cls w v l := by
  have := own_rwM (P := gra.ptAt) (f := clC) (m := fun y => y) (fun _ => rfl) (fun b o x hx hc => by
    obtain ⟨w1, w2⟩ := hw _ hx
    refine ⟨?_, hc 1 (by decide), len_max w1 (by decide), wf_sml w2⟩
    have := hc 0 (by decide)
    rwa [Nat.add_zero] at this) h
  rwa [List.map_id'] at this
/-- The builder's graph. -/
theorem BdF.graph {w0 W : World} {b : Nat} {nm : Nm} {d : Bool} {s : Bs} {L : List (gra.Nd × Value)} {ev : Value} {es : List gra.Ed} {x : BdV} (h : BdF w0 W b nm d s L ev es x) (hn : nm.length ≤ maxLen) (hL : L.map (·.1) = ndC' s) (h1 : ∀ x ∈ ndC' s, WfN x) (h2 : ∀ e ∈ es, WfD e) (h3 : ∀ x ∈ s.cs, x.1.length ≤ 16 ∧ Sml x.2) : gra.GrV W (.agg #[.string (bb nm), .bool d, x.nv, ev, x.cv]) ⟨nm, d, ndC' s, es, s.cs⟩ := by
  refine ⟨x.nv, ev, x.cv, rfl, hn, ?_, drow_eds h.er h2, crow_cls h.cr h3⟩
  have := frow_nds h.fr h.pv (by rw [hL]; exact h1)
  rw [hL] at this
  exact this
end Go.Proofs.YtcdoicgbjoikkaaGreatDoor.nor
namespace Go.Proofs.YtcdoicgbjoikkaaGreatDoor.nor
open Go.RowKit lex tre att

/-- The result's box. -/
def gbx (W : World) (g : Nat) : Prop := blk W g 31 #[.string ⟨#[]⟩, .bool false, .slice none 0 0, .slice none 0 0, .slice none 0 0]
theorem em_grv (w : World) : gra.GrV w (.agg #[.string ⟨#[]⟩, .bool false, .slice none 0 0, .slice none 0 0, .slice none 0 0]) emG := ⟨_, _, _, rfl, Nat.zero_le _, gra.Rw.nil _ _ w, gra.Rw.nil _ _ w, gra.Rw.nil _ _ w⟩
theorem nd_len (s : Bs) (h : s.ns.length = s.ats.length) : (ndC' s).length = s.ns.length := by unfold ndC'; rw [List.length_zipWith, ← h, Nat.min_self]
theorem prsT_nil (w : World) : PrsT w (.slice none 0 0) [] := ⟨Prs.nil w, fun g hg => by cases hg⟩
theorem gbx_set {W : World} {g : Nat} {a0 a1 a2 a3 a4 : Value} (h : blk W g 31 #[a0, a1, a2, a3, a4]) (c0 c1 c2 c3 c4 : Value) : blk (((((W.setCell ⟨g, 0, none⟩ c0).setCell ⟨g, 1, none⟩ c1).setCell ⟨g, 2, none⟩ c2).setCell ⟨g, 3, none⟩ c3).setCell ⟨g, 4, none⟩ c4) g 31 #[c0, c1, c2, c3, c4] := by
  have h0 : blk (W.setCell ⟨g, 0, none⟩ c0) g 31 #[c0, a1, a2, a3, a4] := blk_set h c0
  have h1 : blk ((W.setCell ⟨g, 0, none⟩ c0).setCell ⟨g, 1, none⟩ c1) g 31 #[c0, c1, a2, a3, a4] := blk_set h0 c1
  have h2 : blk (((W.setCell ⟨g, 0, none⟩ c0).setCell ⟨g, 1, none⟩ c1).setCell ⟨g, 2, none⟩ c2) g 31 #[c0, c1, c2, a3, a4] := blk_set h1 c2
  have h3 : blk ((((W.setCell ⟨g, 0, none⟩ c0).setCell ⟨g, 1, none⟩ c1).setCell ⟨g, 2, none⟩ c2).setCell ⟨g, 3, none⟩ c3) g 31 #[c0, c1, c2, c3, a4] := blk_set h2 c3
  exact blk_set h3 c4
theorem below_set5 {B : Nat} {a W : World} {g : Nat} (h : Below B a W) (hg : B ≤ g) (c0 c1 c2 c3 c4 : Value) : Below B a (((((W.setCell ⟨g, 0, none⟩ c0).setCell ⟨g, 1, none⟩ c1).setCell ⟨g, 2, none⟩ c2).setCell ⟨g, 3, none⟩ c3).setCell ⟨g, 4, none⟩ c4) := ((((h.setCell hg _).setCell hg _).setCell hg _).setCell hg _).setCell hg _
/-- The graph's rows alone. -/
structure GrR (W : World) (B : Nat) (s : Bs) (L : List (gra.Nd × Value)) (nv ev cv : Value) (es : List gra.Ed) : Prop where
  fr : Frow W B nv L
  er : Drow W B ev es
  cr : Crow W B cv s.cs
  pv : ∀ y ∈ L, PosT W y.2 y.1.ps
theorem GrR.set {W : World} {B : Nat} {s : Bs} {L : List (gra.Nd × Value)} {nv ev cv : Value} {es : List gra.Ed} {g o : Nat} {arr : Array Value} (h : GrR W B s L nv ev cv es) (hg : blk W g 31 arr) (u : Value) : GrR (W.setCell ⟨g, o, none⟩ u) B s L nv ev cv es :=
  ⟨row_set h.fr hg (by decide) _, row_set h.er hg (by decide) _, row_set h.cr hg (by decide) _, fun y hy => posT_set (h.pv y hy) hg (by decide) _⟩
theorem GrR.set5 {W : World} {B : Nat} {s : Bs} {L : List (gra.Nd × Value)} {nv ev cv : Value} {es : List gra.Ed} {g : Nat} {arr : Array Value} (h : GrR W B s L nv ev cv es) (hg : blk W g 31 arr) (c0 c1 c2 c3 c4 : Value) : GrR (((((W.setCell ⟨g, 0, none⟩ c0).setCell ⟨g, 1, none⟩ c1).setCell ⟨g, 2, none⟩ c2).setCell ⟨g, 3, none⟩ c3).setCell ⟨g, 4, none⟩ c4) B s L nv ev cv es :=
  ((((h.set hg c0).set (blk_set (o := 0) hg c0) c1).set (blk_set (o := 1) (blk_set (o := 0) hg c0) c1) c2).set (blk_set (o := 2) (blk_set (o := 1) (blk_set (o := 0) hg c0) c1) c2) c3).set (blk_set (o := 3) (blk_set (o := 2) (blk_set (o := 1) (blk_set (o := 0) hg c0) c1) c2) c3) c4
theorem GrR.below {W W' : World} {B : Nat} {s : Bs} {L : List (gra.Nd × Value)} {nv ev cv : Value} {es : List gra.Ed} (h : GrR W B s L nv ev cv es) (hb : Below W.heap.size W W') : GrR W' B s L nv ev cv es :=
  ⟨row_below h.fr hb, row_below h.er hb, row_below h.cr hb, fun y hy => posT_keep (h.pv y hy) hb⟩
theorem GrR.graph {W : World} {B : Nat} {s : Bs} {L : List (gra.Nd × Value)} {nv ev cv : Value} {es : List gra.Ed} {nm : Nm} {d : Bool} (h : GrR W B s L nv ev cv es) (hn : nm.length ≤ maxLen) (hL : L.map (·.1) = ndC' s) (h1 : ∀ x ∈ ndC' s, WfN x) (h2 : ∀ e ∈ es, WfD e) (h3 : ∀ x ∈ s.cs, x.1.length ≤ 16 ∧ Sml x.2) : gra.GrV W (.agg #[.string (bb nm), .bool d, nv, ev, cv]) ⟨nm, d, ndC' s, es, s.cs⟩ := by
  refine ⟨nv, ev, cv, rfl, hn, ?_, drow_eds h.er h2, crow_cls h.cr h3⟩
  have := frow_nds h.fr h.pv (by rw [hL]; exact h1)
  rw [hL] at this
  exact this
/-- What Build leaves. -/
def BldOut (G : gra.Gr) (E : Int) (w : World) (e : Ending) (w' : World) : Prop := ∃ gv, e = .returned (.tuple #[gv, .int .i64 E]) ∧ gra.GrV w' gv G ∧ Below w.heap.size w w'
set_option maxRecDepth 100000 in
set_option maxHeartbeats 2000000 in
theorem build_of (v : Value) (T : Tr) (G : gra.Gr) (E : Int) (w : World) (hM : Hid (Mx w)) (h : Hid (TrV w v T)) (hn : cnt T.body ≤ 2000000000000) (hok : Hid (okL T.body)) (hG : Hid (buildC T = (G, E))) :
    Calls Tryz.prog 10 #[v] w (BldOut G E w) := by
  obtain ⟨bv, rfl, hnm, hs⟩ := h.out
  obtain ⟨vo, tc, rfl, -, -, -⟩ := id hs
  obtain ⟨R, hR⟩ : ∃ R, validT T = R := ⟨_, rfl⟩
  have hb1 := al2 w (.cells #[.string (bb T.name), .bool T.dir, .slice vo T.body.length tc] 24) (.cells #[.string ⟨#[]⟩, .bool false, .slice none 0 0, .slice none 0 0, .slice none 0 0] 31)
  have HT1 := Lib.hid (h.out.keep hb1)
  have HS1 := Lib.hid (hs.keep hb1)
  have HB1 := Lib.hid hb1
  have HR := Lib.hid hR
  have HTB : Hid (blk ((w.alloc (.cells #[.string (bb T.name), .bool T.dir, .slice vo T.body.length tc] 24)).alloc (.cells #[.string ⟨#[]⟩, .bool false, .slice none 0 0, .slice none 0 0, .slice none 0 0] 31)) w.heap.size 24 #[.string (bb T.name), .bool T.dir, .slice vo T.body.length tc]) := Lib.hid (by
    have h := al1 (w.alloc (.cells #[.string (bb T.name), .bool T.dir, .slice vo T.body.length tc] 24)) (.cells #[.string ⟨#[]⟩, .bool false, .slice none 0 0, .slice none 0 0, .slice none 0 0] 31)
    unfold att.blk
    rw [h.block _ (by simp)]
    exact blk_new w #[.string (bb T.name), .bool T.dir, .slice vo T.body.length tc] 24)
  have HGB : Hid (gbx ((w.alloc (.cells #[.string (bb T.name), .bool T.dir, .slice vo T.body.length tc] 24)).alloc (.cells #[.string ⟨#[]⟩, .bool false, .slice none 0 0, .slice none 0 0, .slice none 0 0] 31)) (w.heap.size + 1)) := Lib.hid (by
    have h := blk_new (w.alloc (.cells #[.string (bb T.name), .bool T.dir, .slice vo T.body.length tc] 24)) #[.string ⟨#[]⟩, .bool false, .slice none 0 0, .slice none 0 0, .slice none 0 0] 31
    rwa [World.size_alloc] at h)
  have HNM := Lib.hid hnm
  have hb := hG.out
  unfold buildC at hb
  rw [hR] at hb
  have HB := Lib.hid hb
  have HMx := hM
  have x0 : ((w.alloc (.cells #[.string (bb T.name), .bool T.dir, .slice vo T.body.length tc] 24)).alloc (.cells #[.string ⟨#[]⟩, .bool false, .slice none 0 0, .slice none 0 0, .slice none 0 0] 31)).cell? ⟨w.heap.size, 0, none⟩ = some (.string (bb T.name)) := by rw [blk_cell HTB.out]; rfl
  have x1 : ((w.alloc (.cells #[.string (bb T.name), .bool T.dir, .slice vo T.body.length tc] 24)).alloc (.cells #[.string ⟨#[]⟩, .bool false, .slice none 0 0, .slice none 0 0, .slice none 0 0] 31)).cell? ⟨w.heap.size, 1, none⟩ = some (.bool T.dir) := by rw [blk_cell HTB.out]; rfl
  have x2 : ((w.alloc (.cells #[.string (bb T.name), .bool T.dir, .slice vo T.body.length tc] 24)).alloc (.cells #[.string ⟨#[]⟩, .bool false, .slice none 0 0, .slice none 0 0, .slice none 0 0] 31)).cell? ⟨w.heap.size, 2, none⟩ = some (.slice vo T.body.length tc) := by rw [blk_cell HTB.out]; rfl
  clear hb1 hs h hR hb hG hnm hM
  go_enter Tryz.func10, Tryz.ntmps10
  go_wp2_with fail
  generalize (w.alloc (.cells #[.string (bb T.name), .bool T.dir, .slice vo T.body.length tc] 24)).alloc (.cells #[.string ⟨#[]⟩, .bool false, .slice none 0 0, .slice none 0 0, .slice none 0 0] 31) = w1 at *
  clear x0 x1 x2
  refine (valid_of _ T R w1 HT1 hn HR).mono ?_
  rintro e w2 ⟨rfl, hb2⟩
  have HS2 := Lib.hid (HS1.out.keep hb2)
  have HB2 := Lib.hid (below_keep hb2 HB1.out)
  have HTB2 := Lib.hid (blk_below HTB.out hb2)
  have HGB2 := Lib.hid (blk_below HGB.out hb2)
  have g0 : w2.cell? ⟨w.heap.size + 1, 0, none⟩ = some (.string ⟨#[]⟩) := by rw [blk_cell HGB2.out]; rfl
  have g1 : w2.cell? ⟨w.heap.size + 1, 1, none⟩ = some (.bool false) := by rw [blk_cell HGB2.out]; rfl
  have g2 : w2.cell? ⟨w.heap.size + 1, 2, none⟩ = some (.slice none 0 0) := by rw [blk_cell HGB2.out]; rfl
  have g3 : w2.cell? ⟨w.heap.size + 1, 3, none⟩ = some (.slice none 0 0) := by rw [blk_cell HGB2.out]; rfl
  have g4 : w2.cell? ⟨w.heap.size + 1, 4, none⟩ = some (.slice none 0 0) := by rw [blk_cell HGB2.out]; rfl
  have f0 := blk_open HGB2.out 0
  have f1 := blk_open HGB2.out 1
  have f2 := blk_open HGB2.out 2
  have f3 := blk_open HGB2.out 3
  have f4 := blk_open HGB2.out 4
  have HMX2 := mxh HMx HB2.out
  clear hb2 HT1 HS1 HTB HGB
  by_cases hz : R = 0
  case neg =>
    have bR : (R != 0) = true := by rw [bne_iff_ne]; exact hz
    have HE : Hid (G = emG ∧ E = R) := Lib.hid (by have h := HB.out; rw [if_pos hz] at h; exact ⟨(Prod.mk.inj h).1.symm, (Prod.mk.inj h).2.symm⟩)
    clear hz
    go_wp2
    have hgx := gbx_set HGB2.out (.string ⟨#[]⟩) (.bool false) (.slice none 0 0) (.slice none 0 0) (.slice none 0 0)
    have r0 : (((((w2.setCell ⟨w.heap.size + 1, 0, none⟩ (.string ⟨#[]⟩)).setCell ⟨w.heap.size + 1, 1, none⟩ (.bool false)).setCell ⟨w.heap.size + 1, 2, none⟩ (.slice none 0 0)).setCell ⟨w.heap.size + 1, 3, none⟩ (.slice none 0 0)).setCell ⟨w.heap.size + 1, 4, none⟩ (.slice none 0 0)).cell? ⟨w.heap.size + 1, 0, none⟩ = some (.string ⟨#[]⟩) := by rw [blk_cell hgx]; rfl
    have r1 : (((((w2.setCell ⟨w.heap.size + 1, 0, none⟩ (.string ⟨#[]⟩)).setCell ⟨w.heap.size + 1, 1, none⟩ (.bool false)).setCell ⟨w.heap.size + 1, 2, none⟩ (.slice none 0 0)).setCell ⟨w.heap.size + 1, 3, none⟩ (.slice none 0 0)).setCell ⟨w.heap.size + 1, 4, none⟩ (.slice none 0 0)).cell? ⟨w.heap.size + 1, 1, none⟩ = some (.bool false) := by rw [blk_cell hgx]; rfl
    have r2 : (((((w2.setCell ⟨w.heap.size + 1, 0, none⟩ (.string ⟨#[]⟩)).setCell ⟨w.heap.size + 1, 1, none⟩ (.bool false)).setCell ⟨w.heap.size + 1, 2, none⟩ (.slice none 0 0)).setCell ⟨w.heap.size + 1, 3, none⟩ (.slice none 0 0)).setCell ⟨w.heap.size + 1, 4, none⟩ (.slice none 0 0)).cell? ⟨w.heap.size + 1, 2, none⟩ = some (.slice none 0 0) := by rw [blk_cell hgx]; rfl
    have r3 : (((((w2.setCell ⟨w.heap.size + 1, 0, none⟩ (.string ⟨#[]⟩)).setCell ⟨w.heap.size + 1, 1, none⟩ (.bool false)).setCell ⟨w.heap.size + 1, 2, none⟩ (.slice none 0 0)).setCell ⟨w.heap.size + 1, 3, none⟩ (.slice none 0 0)).setCell ⟨w.heap.size + 1, 4, none⟩ (.slice none 0 0)).cell? ⟨w.heap.size + 1, 3, none⟩ = some (.slice none 0 0) := by rw [blk_cell hgx]; rfl
    have r4 : (((((w2.setCell ⟨w.heap.size + 1, 0, none⟩ (.string ⟨#[]⟩)).setCell ⟨w.heap.size + 1, 1, none⟩ (.bool false)).setCell ⟨w.heap.size + 1, 2, none⟩ (.slice none 0 0)).setCell ⟨w.heap.size + 1, 3, none⟩ (.slice none 0 0)).setCell ⟨w.heap.size + 1, 4, none⟩ (.slice none 0 0)).cell? ⟨w.heap.size + 1, 4, none⟩ = some (.slice none 0 0) := by rw [blk_cell hgx]; rfl
    refine bodyPost_ret (v := .tuple #[.agg #[.string ⟨#[]⟩, .bool false, .slice none 0 0, .slice none 0 0, .slice none 0 0], .int .i64 R]) (by simp [results, Tryz.results10, go_sem, r0, r1, r2, r3, r4]) rfl ?_
    obtain ⟨rfl, rfl⟩ := HE.out
    exact ⟨_, rfl, em_grv _, below_set5 HB2.out (by omega) _ _ _ _ _⟩
  subst hz
  have hv0 : validT T = 0 := HR.out
  have HG2 : Hid ((if (blkC T.body pl0 bs0).2 ≠ 0 then (emG, (blkC T.body pl0 bs0).2) else if (addC (endN (ndC' (blkC T.body pl0 bs0).1) 0 em0) (blkC T.body pl0 bs0).1.ch []).2 = false then (emG, 5) else if gra.validE (finC T.name T.dir (blkC T.body pl0 bs0).1) ≠ 0 then (emG, gra.validE (finC T.name T.dir (blkC T.body pl0 bs0).1)) else (finC T.name T.dir (blkC T.body pl0 bs0).1, 0)) = (G, E)) := Lib.hid (by have h := HB.out; rw [if_neg (by simp)] at h; exact h)
  have hoB : okB T.body := okB_of hv0 hok.out
  have hcnt : cnt T.body ≤ 512 := ((valid_iff T).1 hv0).2.1
  have hsz0 : sz bs0 + 42 * cnt T.body ≤ 100000 := by unfold sz bs0; simp only [List.length_nil]; omega
  obtain ⟨S', hS'⟩ : ∃ S', (blkC T.body pl0 bs0).1 = S' := ⟨_, rfl⟩
  obtain ⟨E', hE'⟩ : ∃ E', (blkC T.body pl0 bs0).2 = E' := ⟨_, rfl⟩
  have hBC : blkC T.body pl0 bs0 = (S', E') := by rw [← hS', ← hE']
  have HBC := Lib.hid hBC
  have hga0 : GaS bs0 := ⟨fun a ha => (by cases ha), fun c hc => (by cases hc)⟩
  have hgp0 : GaP pl0 := ⟨Ga.nil 1, Ga.nil 2⟩
  have HGA : Hid (GaS S') := Lib.hid (by rw [← hS']; exact blk_Ga.2 T.body pl0 bs0 hoB hgp0 hga0)
  have HNMS : Hid (NmS S') := Lib.hid (by rw [← hS']; exact blk_NmS.2 T.body pl0 bs0 hoB ⟨fun a ha => (by cases ha), fun c hc => (by cases hc)⟩)
  have HWF : Hid (WfS S') := Lib.hid (by rw [← hS']; exact blk_WfS.2 T.body pl0 bs0 hoB hsz0 ⟨by decide, by decide⟩ ⟨fun a ha => (by cases ha), fun c hc => (by cases hc)⟩)
  have HLEN : Hid (S'.ns.length = S'.ats.length) := Lib.hid (by rw [← hS']; exact blkC_len.2 T.body pl0 bs0 rfl)
  have hszS : sz S' ≤ 100000 := by have := blk_sz.2 T.body pl0 bs0 hoB; rw [hS'] at this; omega
  have hnsl : S'.ns.length ≤ 100000 := by unfold sz at hszS; omega
  have hchl : S'.ch.length ≤ 100000 := by unfold sz at hszS; omega
  rw [hBC] at HG2
  simp only at HG2
  have HOB := Lib.hid hoB
  have HSZ0 := Lib.hid hsz0
  have HGP0 := Lib.hid hgp0
  have HGA0 := Lib.hid hga0
  clear hS' hE' hBC hoB hsz0 hgp0 hga0 hszS hv0 HB HR g0 g1 g2 g3 g4 f0 f1 f2 f3 f4 hcnt
  have y0 : w2.cell? ⟨w.heap.size, 0, none⟩ = some (.string (bb T.name)) := by rw [blk_cell HTB2.out]; rfl
  have y1 : w2.cell? ⟨w.heap.size, 1, none⟩ = some (.bool T.dir) := by rw [blk_cell HTB2.out]; rfl
  have hb3 := al3 w2 (.map #[] 0) (.map #[] 0) (.cells #[.string (bb T.name), .bool T.dir, .slice none 0 0, .slice none 0 0, .slice none 0 0, .slice none 0 0, .map (some w2.heap.size), .map (some (w2.heap.size + 1)), .slice none 0 0] 67)
  have hmm := @run_makeMap Tryz.prog
  have HBD : Hid (BdG w2 (((w2.alloc (.map #[] 0)).alloc (.map #[] 0)).alloc (.cells #[.string (bb T.name), .bool T.dir, .slice none 0 0, .slice none 0 0, .slice none 0 0, .slice none 0 0, .map (some w2.heap.size), .map (some (w2.heap.size + 1)), .slice none 0 0] 67)) (w2.heap.size + 1 + 1) T.name T.dir bs0.g ⟨.slice none 0 0, .slice none 0 0, .slice none 0 0, .slice none 0 0, w2.heap.size, w2.heap.size + 1, [], []⟩) := Lib.hid (by
    refine ⟨by omega, hb3, ?_, World.ownsRow_nil .., World.ownsRow_nil .., World.ownsRow_nil .., World.ownsRow_nil .., rfl, fun i hi => absurd hi (by simp), rfl, fun i hi => absurd hi (by simp), ?_, ?_, Nat.le_refl _, by simp only; omega, by simp only; omega⟩
    · have h := blk_new ((w2.alloc (.map #[] 0)).alloc (.map #[] 0)) #[.string (bb T.name), .bool T.dir, .slice none 0 0, .slice none 0 0, .slice none 0 0, .slice none 0 0, .map (some w2.heap.size), .map (some (w2.heap.size + 1)), .slice none 0 0] 67
      rw [World.size_alloc, World.size_alloc] at h
      exact h
    · refine ⟨.map [], ?_⟩
      have h := ((mAt_made (.int .i64 0) w2).keep (al1 _ (.map #[] 0))).keep (al1 _ (.cells #[.string (bb T.name), .bool T.dir, .slice none 0 0, .slice none 0 0, .slice none 0 0, .slice none 0 0, .map (some w2.heap.size), .map (some (w2.heap.size + 1)), .slice none 0 0] 67))
      exact h
    · refine ⟨.map [], ?_⟩
      have h := (mAt_made (.bool false) (w2.alloc (.map #[] 0))).keep (al1 _ (.cells #[.string (bb T.name), .bool T.dir, .slice none 0 0, .slice none 0 0, .slice none 0 0, .slice none 0 0, .map (some w2.heap.size), .map (some (w2.heap.size + 1)), .slice none 0 0] 67))
      rw [World.size_alloc] at h
      exact h)
  have HB3 := Lib.hid (below_keep hb3 HB2.out)
  have HGB3 := Lib.hid (blk_below HGB2.out hb3)
  have z2 : (((w2.alloc (.map #[] 0)).alloc (.map #[] 0)).alloc (.cells #[.string (bb T.name), .bool T.dir, .slice none 0 0, .slice none 0 0, .slice none 0 0, .slice none 0 0, .map (some w2.heap.size), .map (some (w2.heap.size + 1)), .slice none 0 0] 67)).cell? ⟨w.heap.size, 2, none⟩ = some (.slice vo T.body.length tc) := by rw [blk_cell (blk_below HTB2.out hb3)]; rfl
  have hsw : w.heap.size + 1 < w2.heap.size := heap_lt HGB2.out
  have HB2X := HB2
  clear hb3
  go_wp2_with fail
  clear hmm y0 y1 z2
  generalize ((w2.alloc (.map #[] 0)).alloc (.map #[] 0)).alloc (.cells #[.string (bb T.name), .bool T.dir, .slice none 0 0, .slice none 0 0, .slice none 0 0, .slice none 0 0, .map (some w2.heap.size), .map (some (w2.heap.size + 1)), .slice none 0 0] 67) = w3 at *
  obtain ⟨b, hbq⟩ : ∃ b, w2.heap.size + 1 + 1 = b := ⟨_, rfl⟩
  have hbl : w2.heap.size ≤ b := by omega
  rw [hbq] at HBD
  simp only [hbq]
  clear hbq
  refine (BlkOk.use (Lib.hid (blk_ok T.body)) w2 b T.name T.dir bs0 _ _ pl0 _ _ S' E' w3 HMX2 HBD (Lib.hid (prsT_nil _)) (Lib.hid (prsT_nil _)) HS2 HOB HSZ0 (Lib.hid rfl) HGA0 HGP0 HBC).mono ?_
  rintro e w4 ⟨rfl, hst4, hold4, hx4⟩
  have HOLD4 := Lib.hid hold4
  have HX4 := Lib.hid hx4
  have HB4 := Lib.hid (HB2.out.trans (hold4.mono HB2.out.size))
  have HGB4 := Lib.hid (blk_below HGB2.out hold4)
  clear hst4 hold4 hx4 HBD HB3 HGB3 HB2 HTB2 HS2
  have g0 : w4.cell? ⟨w.heap.size + 1, 0, none⟩ = some (.string ⟨#[]⟩) := by rw [blk_cell HGB4.out]; rfl
  have g1 : w4.cell? ⟨w.heap.size + 1, 1, none⟩ = some (.bool false) := by rw [blk_cell HGB4.out]; rfl
  have g2 : w4.cell? ⟨w.heap.size + 1, 2, none⟩ = some (.slice none 0 0) := by rw [blk_cell HGB4.out]; rfl
  have g3 : w4.cell? ⟨w.heap.size + 1, 3, none⟩ = some (.slice none 0 0) := by rw [blk_cell HGB4.out]; rfl
  have g4 : w4.cell? ⟨w.heap.size + 1, 4, none⟩ = some (.slice none 0 0) := by rw [blk_cell HGB4.out]; rfl
  have f0 := blk_open HGB4.out 0
  have f1 := blk_open HGB4.out 1
  have f2 := blk_open HGB4.out 2
  have f3 := blk_open HGB4.out 3
  have f4 := blk_open HGB4.out 4
  by_cases hz : E' = 0
  case neg =>
    have bR : (E' != 0) = true := by rw [bne_iff_ne]; exact hz
    have HE : Hid (G = emG ∧ E = E') := Lib.hid (by have h := HG2.out; rw [if_pos hz] at h; exact ⟨(Prod.mk.inj h).1.symm, (Prod.mk.inj h).2.symm⟩)
    clear hz
    go_wp2
    have hgx := gbx_set HGB4.out (.string ⟨#[]⟩) (.bool false) (.slice none 0 0) (.slice none 0 0) (.slice none 0 0)
    have r0 : (((((w4.setCell ⟨w.heap.size + 1, 0, none⟩ (.string ⟨#[]⟩)).setCell ⟨w.heap.size + 1, 1, none⟩ (.bool false)).setCell ⟨w.heap.size + 1, 2, none⟩ (.slice none 0 0)).setCell ⟨w.heap.size + 1, 3, none⟩ (.slice none 0 0)).setCell ⟨w.heap.size + 1, 4, none⟩ (.slice none 0 0)).cell? ⟨w.heap.size + 1, 0, none⟩ = some (.string ⟨#[]⟩) := by rw [blk_cell hgx]; rfl
    have r1 : (((((w4.setCell ⟨w.heap.size + 1, 0, none⟩ (.string ⟨#[]⟩)).setCell ⟨w.heap.size + 1, 1, none⟩ (.bool false)).setCell ⟨w.heap.size + 1, 2, none⟩ (.slice none 0 0)).setCell ⟨w.heap.size + 1, 3, none⟩ (.slice none 0 0)).setCell ⟨w.heap.size + 1, 4, none⟩ (.slice none 0 0)).cell? ⟨w.heap.size + 1, 1, none⟩ = some (.bool false) := by rw [blk_cell hgx]; rfl
    have r2 : (((((w4.setCell ⟨w.heap.size + 1, 0, none⟩ (.string ⟨#[]⟩)).setCell ⟨w.heap.size + 1, 1, none⟩ (.bool false)).setCell ⟨w.heap.size + 1, 2, none⟩ (.slice none 0 0)).setCell ⟨w.heap.size + 1, 3, none⟩ (.slice none 0 0)).setCell ⟨w.heap.size + 1, 4, none⟩ (.slice none 0 0)).cell? ⟨w.heap.size + 1, 2, none⟩ = some (.slice none 0 0) := by rw [blk_cell hgx]; rfl
    have r3 : (((((w4.setCell ⟨w.heap.size + 1, 0, none⟩ (.string ⟨#[]⟩)).setCell ⟨w.heap.size + 1, 1, none⟩ (.bool false)).setCell ⟨w.heap.size + 1, 2, none⟩ (.slice none 0 0)).setCell ⟨w.heap.size + 1, 3, none⟩ (.slice none 0 0)).setCell ⟨w.heap.size + 1, 4, none⟩ (.slice none 0 0)).cell? ⟨w.heap.size + 1, 3, none⟩ = some (.slice none 0 0) := by rw [blk_cell hgx]; rfl
    have r4 : (((((w4.setCell ⟨w.heap.size + 1, 0, none⟩ (.string ⟨#[]⟩)).setCell ⟨w.heap.size + 1, 1, none⟩ (.bool false)).setCell ⟨w.heap.size + 1, 2, none⟩ (.slice none 0 0)).setCell ⟨w.heap.size + 1, 3, none⟩ (.slice none 0 0)).setCell ⟨w.heap.size + 1, 4, none⟩ (.slice none 0 0)).cell? ⟨w.heap.size + 1, 4, none⟩ = some (.slice none 0 0) := by rw [blk_cell hgx]; rfl
    refine bodyPost_ret (v := .tuple #[.agg #[.string ⟨#[]⟩, .bool false, .slice none 0 0, .slice none 0 0, .slice none 0 0], .int .i64 E']) (by simp [results, Tryz.results10, go_sem, r0, r1, r2, r3, r4]) rfl ?_
    obtain ⟨rfl, rfl⟩ := HE.out
    exact ⟨_, rfl, em_grv _, below_set5 HB4.out (by omega) _ _ _ _ _⟩
  subst hz
  obtain ⟨x4, hbd4⟩ := HX4.out rfl
  have HF4 := Lib.hid hbd4.fin
  clear hbd4 HX4 g0 g1 g2 g3 g4 f0 f1 f2 f3 f4
  go_wp2_with fail
  refine (setnodes_of w2 b T.name T.dir S' x4 w4 HMX2 HF4 hnsl HLEN HGA).mono ?_
  rintro e w5 ⟨rfl, L, hf5, hL⟩
  have HF5 := Lib.hid hf5
  have HL := Lib.hid hL
  have HB5 := Lib.hid ((below_keep (Below.refl _ _) HB2X.out).trans (hf5.old.mono HB2X.out.size))
  clear hf5 hL HF4
  obtain ⟨RS, hRS⟩ : ∃ RS, addC (endN (ndC' S') 0 em0) S'.ch [] = RS := ⟨_, rfl⟩
  have HRS := Lib.hid hRS
  have hndl : (ndC' S').length ≤ 100000 := by rw [nd_len S' HLEN.out]; exact hnsl
  have hLl : L.length ≤ 100000 := by rw [← List.length_map (f := fun y : gra.Nd × Value => y.1), HL.out]; exact hndl
  have HSH : Hid (ShN (ndC' S')) := Lib.hid (nd_small HNMS.out)
  have HWE : Hid (∀ e ∈ RS.1, WfD e) := Lib.hid (by
    rw [← hRS]
    exact add_wf (WfE.ns _ 0 _ WfE.zero (by omega) fun x hx => (nd_small HNMS.out x hx).2.1) S'.ch [] HGA.out.2 (fun e he => by cases he))
  have HWN : Hid (∀ x ∈ ndC' S', WfN x) := Lib.hid (nd_wf HNMS.out HWF.out HGA.out)
  have hfc : finC T.name T.dir S' = ⟨T.name, T.dir, ndC' S', RS.1, S'.cs⟩ := by unfold finC; rw [hRS]
  have HG3 : Hid ((if RS.2 = false then (emG, 5) else if gra.validE ⟨T.name, T.dir, ndC' S', RS.1, S'.cs⟩ ≠ 0 then (emG, gra.validE ⟨T.name, T.dir, ndC' S', RS.1, S'.cs⟩) else (⟨T.name, T.dir, ndC' S', RS.1, S'.cs⟩, 0)) = (G, E)) := Lib.hid (by have h := HG2.out; rw [if_neg (by simp), hRS, hfc] at h; exact h)
  clear hRS hndl hfc HG2
  go_wp2_with fail
  refine (addedges_of w2 b T.name T.dir S' L x4 (ndC' S') _ RS w5 HF5 HL HSH hLl hchl (Lib.hid rfl) HNMS HGA HRS).mono ?_
  rintro e w6 ⟨rfl, hold6, hx6⟩
  have HB6 := Lib.hid (HB2X.out.trans (hold6.mono HB2X.out.size))
  have HGB6 := Lib.hid (blk_below HGB2.out hold6)
  have HX6 := Lib.hid hx6
  clear hold6 hx6 HF5 HB5
  have g0 : w6.cell? ⟨w.heap.size + 1, 0, none⟩ = some (.string ⟨#[]⟩) := by rw [blk_cell HGB6.out]; rfl
  have g1 : w6.cell? ⟨w.heap.size + 1, 1, none⟩ = some (.bool false) := by rw [blk_cell HGB6.out]; rfl
  have g2 : w6.cell? ⟨w.heap.size + 1, 2, none⟩ = some (.slice none 0 0) := by rw [blk_cell HGB6.out]; rfl
  have g3 : w6.cell? ⟨w.heap.size + 1, 3, none⟩ = some (.slice none 0 0) := by rw [blk_cell HGB6.out]; rfl
  have g4 : w6.cell? ⟨w.heap.size + 1, 4, none⟩ = some (.slice none 0 0) := by rw [blk_cell HGB6.out]; rfl
  have f0 := blk_open HGB6.out 0
  have f1 := blk_open HGB6.out 1
  have f2 := blk_open HGB6.out 2
  have f3 := blk_open HGB6.out 3
  have f4 := blk_open HGB6.out 4
  obtain ⟨es, rb⟩ := RS
  cases rb
  case false =>
    have HE : Hid (G = emG ∧ E = 5) := Lib.hid (by have h := HG3.out; rw [if_pos rfl] at h; exact ⟨(Prod.mk.inj h).1.symm, (Prod.mk.inj h).2.symm⟩)
    go_wp2
    have hgx := gbx_set HGB6.out (.string ⟨#[]⟩) (.bool false) (.slice none 0 0) (.slice none 0 0) (.slice none 0 0)
    have r0 : (((((w6.setCell ⟨w.heap.size + 1, 0, none⟩ (.string ⟨#[]⟩)).setCell ⟨w.heap.size + 1, 1, none⟩ (.bool false)).setCell ⟨w.heap.size + 1, 2, none⟩ (.slice none 0 0)).setCell ⟨w.heap.size + 1, 3, none⟩ (.slice none 0 0)).setCell ⟨w.heap.size + 1, 4, none⟩ (.slice none 0 0)).cell? ⟨w.heap.size + 1, 0, none⟩ = some (.string ⟨#[]⟩) := by rw [blk_cell hgx]; rfl
    have r1 : (((((w6.setCell ⟨w.heap.size + 1, 0, none⟩ (.string ⟨#[]⟩)).setCell ⟨w.heap.size + 1, 1, none⟩ (.bool false)).setCell ⟨w.heap.size + 1, 2, none⟩ (.slice none 0 0)).setCell ⟨w.heap.size + 1, 3, none⟩ (.slice none 0 0)).setCell ⟨w.heap.size + 1, 4, none⟩ (.slice none 0 0)).cell? ⟨w.heap.size + 1, 1, none⟩ = some (.bool false) := by rw [blk_cell hgx]; rfl
    have r2 : (((((w6.setCell ⟨w.heap.size + 1, 0, none⟩ (.string ⟨#[]⟩)).setCell ⟨w.heap.size + 1, 1, none⟩ (.bool false)).setCell ⟨w.heap.size + 1, 2, none⟩ (.slice none 0 0)).setCell ⟨w.heap.size + 1, 3, none⟩ (.slice none 0 0)).setCell ⟨w.heap.size + 1, 4, none⟩ (.slice none 0 0)).cell? ⟨w.heap.size + 1, 2, none⟩ = some (.slice none 0 0) := by rw [blk_cell hgx]; rfl
    have r3 : (((((w6.setCell ⟨w.heap.size + 1, 0, none⟩ (.string ⟨#[]⟩)).setCell ⟨w.heap.size + 1, 1, none⟩ (.bool false)).setCell ⟨w.heap.size + 1, 2, none⟩ (.slice none 0 0)).setCell ⟨w.heap.size + 1, 3, none⟩ (.slice none 0 0)).setCell ⟨w.heap.size + 1, 4, none⟩ (.slice none 0 0)).cell? ⟨w.heap.size + 1, 3, none⟩ = some (.slice none 0 0) := by rw [blk_cell hgx]; rfl
    have r4 : (((((w6.setCell ⟨w.heap.size + 1, 0, none⟩ (.string ⟨#[]⟩)).setCell ⟨w.heap.size + 1, 1, none⟩ (.bool false)).setCell ⟨w.heap.size + 1, 2, none⟩ (.slice none 0 0)).setCell ⟨w.heap.size + 1, 3, none⟩ (.slice none 0 0)).setCell ⟨w.heap.size + 1, 4, none⟩ (.slice none 0 0)).cell? ⟨w.heap.size + 1, 4, none⟩ = some (.slice none 0 0) := by rw [blk_cell hgx]; rfl
    refine bodyPost_ret (v := .tuple #[.agg #[.string ⟨#[]⟩, .bool false, .slice none 0 0, .slice none 0 0, .slice none 0 0], .int .i64 5]) (by simp [results, Tryz.results10, go_sem, r0, r1, r2, r3, r4]) rfl ?_
    obtain ⟨rfl, rfl⟩ := HE.out
    exact ⟨_, rfl, em_grv _, below_set5 HB6.out (by omega) _ _ _ _ _⟩
  obtain ⟨ev, hf6⟩ := HX6.out rfl
  simp only at hf6
  obtain ⟨nv, cv, av, hv, mb, kb', avs, hvs⟩ := x4
  obtain ⟨no, nc, hnv, -, -⟩ := own_form hf6.fr
  obtain ⟨eo, ec, hev, -, -⟩ := own_form hf6.er
  obtain ⟨co, cc, hcv, -, -⟩ := own_form hf6.cr
  simp only at hnv hcv
  subst hnv hev hcv
  have k0 : w6.cell? ⟨b, 0, none⟩ = some (.string (bb T.name)) := by rw [blk_cell hf6.box]; rfl
  have k1 : w6.cell? ⟨b, 1, none⟩ = some (.bool T.dir) := by rw [blk_cell hf6.box]; rfl
  have k2 : w6.cell? ⟨b, 2, none⟩ = some (.slice no L.length nc) := by rw [blk_cell hf6.box]; rfl
  have k3 : w6.cell? ⟨b, 3, none⟩ = some (.slice eo es.length ec) := by rw [blk_cell hf6.box]; rfl
  have k4 : w6.cell? ⟨b, 4, none⟩ = some (.slice co S'.cs.length cc) := by rw [blk_cell hf6.box]; rfl
  have hgr6 : GrR w6 w2.heap.size S' L (.slice no L.length nc) (.slice eo es.length ec) (.slice co S'.cs.length cc) es := ⟨hf6.fr, hf6.er, hf6.cr, hf6.pv⟩
  have HGR6 := Lib.hid hgr6
  have HGV : Hid (gra.GrV w6 (.agg #[.string (bb T.name), .bool T.dir, .slice no L.length nc, .slice eo es.length ec, .slice co S'.cs.length cc]) ⟨T.name, T.dir, ndC' S', es, S'.cs⟩) := Lib.hid (hgr6.graph HNM.out HL.out HWN.out HWE.out HWF.out.2)
  have HBOX6 := Lib.hid hf6.box
  obtain ⟨V, hV⟩ : ∃ V, gra.validE ⟨T.name, T.dir, ndC' S', es, S'.cs⟩ = V := ⟨_, rfl⟩
  have HV := Lib.hid hV
  have HG4 : Hid ((if V ≠ 0 then (emG, V) else (⟨T.name, T.dir, ndC' S', es, S'.cs⟩, 0)) = (G, E)) := Lib.hid (by have h := HG3.out; rw [if_neg (by simp)] at h; rw [← hV]; exact h)
  clear hgr6 hf6 HX6 hV HG3 g0 g1 g2 g3 g4 f0 f1 f2 f3 f4
  go_wp2_with fail
  refine (gra.cvalid_of _ _ V w6 HGV HV).mono ?_
  rintro e w7 ⟨rfl, hb7⟩
  have HB7 := Lib.hid (below_keep hb7 HB6.out)
  have HGB7 := Lib.hid (blk_below HGB6.out hb7)
  have HGR7 := Lib.hid (HGR6.out.below hb7)
  replace k0 := cell_keep hb7 k0
  replace k1 := cell_keep hb7 k1
  replace k2 := cell_keep hb7 k2
  replace k3 := cell_keep hb7 k3
  replace k4 := cell_keep hb7 k4
  clear hb7 HGV HGR6 HB6 HGB6
  have g0 : w7.cell? ⟨w.heap.size + 1, 0, none⟩ = some (.string ⟨#[]⟩) := by rw [blk_cell HGB7.out]; rfl
  have g1 : w7.cell? ⟨w.heap.size + 1, 1, none⟩ = some (.bool false) := by rw [blk_cell HGB7.out]; rfl
  have g2 : w7.cell? ⟨w.heap.size + 1, 2, none⟩ = some (.slice none 0 0) := by rw [blk_cell HGB7.out]; rfl
  have g3 : w7.cell? ⟨w.heap.size + 1, 3, none⟩ = some (.slice none 0 0) := by rw [blk_cell HGB7.out]; rfl
  have g4 : w7.cell? ⟨w.heap.size + 1, 4, none⟩ = some (.slice none 0 0) := by rw [blk_cell HGB7.out]; rfl
  have f0 := blk_open HGB7.out 0
  have f1 := blk_open HGB7.out 1
  have f2 := blk_open HGB7.out 2
  have f3 := blk_open HGB7.out 3
  have f4 := blk_open HGB7.out 4
  by_cases hz : V = 0
  case neg =>
    have bR : (V != 0) = true := by rw [bne_iff_ne]; exact hz
    have HE : Hid (G = emG ∧ E = V) := Lib.hid (by have h := HG4.out; rw [if_pos hz] at h; exact ⟨(Prod.mk.inj h).1.symm, (Prod.mk.inj h).2.symm⟩)
    clear hz k0 k1 k2 k3 k4
    go_wp2
    have hgx := gbx_set HGB7.out (.string ⟨#[]⟩) (.bool false) (.slice none 0 0) (.slice none 0 0) (.slice none 0 0)
    have r0 : (((((w7.setCell ⟨w.heap.size + 1, 0, none⟩ (.string ⟨#[]⟩)).setCell ⟨w.heap.size + 1, 1, none⟩ (.bool false)).setCell ⟨w.heap.size + 1, 2, none⟩ (.slice none 0 0)).setCell ⟨w.heap.size + 1, 3, none⟩ (.slice none 0 0)).setCell ⟨w.heap.size + 1, 4, none⟩ (.slice none 0 0)).cell? ⟨w.heap.size + 1, 0, none⟩ = some (.string ⟨#[]⟩) := by rw [blk_cell hgx]; rfl
    have r1 : (((((w7.setCell ⟨w.heap.size + 1, 0, none⟩ (.string ⟨#[]⟩)).setCell ⟨w.heap.size + 1, 1, none⟩ (.bool false)).setCell ⟨w.heap.size + 1, 2, none⟩ (.slice none 0 0)).setCell ⟨w.heap.size + 1, 3, none⟩ (.slice none 0 0)).setCell ⟨w.heap.size + 1, 4, none⟩ (.slice none 0 0)).cell? ⟨w.heap.size + 1, 1, none⟩ = some (.bool false) := by rw [blk_cell hgx]; rfl
    have r2 : (((((w7.setCell ⟨w.heap.size + 1, 0, none⟩ (.string ⟨#[]⟩)).setCell ⟨w.heap.size + 1, 1, none⟩ (.bool false)).setCell ⟨w.heap.size + 1, 2, none⟩ (.slice none 0 0)).setCell ⟨w.heap.size + 1, 3, none⟩ (.slice none 0 0)).setCell ⟨w.heap.size + 1, 4, none⟩ (.slice none 0 0)).cell? ⟨w.heap.size + 1, 2, none⟩ = some (.slice none 0 0) := by rw [blk_cell hgx]; rfl
    have r3 : (((((w7.setCell ⟨w.heap.size + 1, 0, none⟩ (.string ⟨#[]⟩)).setCell ⟨w.heap.size + 1, 1, none⟩ (.bool false)).setCell ⟨w.heap.size + 1, 2, none⟩ (.slice none 0 0)).setCell ⟨w.heap.size + 1, 3, none⟩ (.slice none 0 0)).setCell ⟨w.heap.size + 1, 4, none⟩ (.slice none 0 0)).cell? ⟨w.heap.size + 1, 3, none⟩ = some (.slice none 0 0) := by rw [blk_cell hgx]; rfl
    have r4 : (((((w7.setCell ⟨w.heap.size + 1, 0, none⟩ (.string ⟨#[]⟩)).setCell ⟨w.heap.size + 1, 1, none⟩ (.bool false)).setCell ⟨w.heap.size + 1, 2, none⟩ (.slice none 0 0)).setCell ⟨w.heap.size + 1, 3, none⟩ (.slice none 0 0)).setCell ⟨w.heap.size + 1, 4, none⟩ (.slice none 0 0)).cell? ⟨w.heap.size + 1, 4, none⟩ = some (.slice none 0 0) := by rw [blk_cell hgx]; rfl
    refine bodyPost_ret (v := .tuple #[.agg #[.string ⟨#[]⟩, .bool false, .slice none 0 0, .slice none 0 0, .slice none 0 0], .int .i64 V]) (by simp [results, Tryz.results10, go_sem, r0, r1, r2, r3, r4]) rfl ?_
    obtain ⟨rfl, rfl⟩ := HE.out
    exact ⟨_, rfl, em_grv _, below_set5 HB7.out (by omega) _ _ _ _ _⟩
  subst hz
  have HE : Hid (G = ⟨T.name, T.dir, ndC' S', es, S'.cs⟩ ∧ E = 0) := Lib.hid (by have h := HG4.out; rw [if_neg (by simp)] at h; exact ⟨(Prod.mk.inj h).1.symm, (Prod.mk.inj h).2.symm⟩)
  go_wp2
  have hgx := gbx_set HGB7.out (.string (bb T.name)) (.bool T.dir) (.slice no L.length nc) (.slice eo es.length ec) (.slice co S'.cs.length cc)
  have hgr := HGR7.out.set5 HGB7.out (.string (bb T.name)) (.bool T.dir) (.slice no L.length nc) (.slice eo es.length ec) (.slice co S'.cs.length cc)
  have r0 : (((((w7.setCell ⟨w.heap.size + 1, 0, none⟩ (.string (bb T.name))).setCell ⟨w.heap.size + 1, 1, none⟩ (.bool T.dir)).setCell ⟨w.heap.size + 1, 2, none⟩ (.slice no L.length nc)).setCell ⟨w.heap.size + 1, 3, none⟩ (.slice eo es.length ec)).setCell ⟨w.heap.size + 1, 4, none⟩ (.slice co S'.cs.length cc)).cell? ⟨w.heap.size + 1, 0, none⟩ = some (.string (bb T.name)) := by rw [blk_cell hgx]; rfl
  have r1 : (((((w7.setCell ⟨w.heap.size + 1, 0, none⟩ (.string (bb T.name))).setCell ⟨w.heap.size + 1, 1, none⟩ (.bool T.dir)).setCell ⟨w.heap.size + 1, 2, none⟩ (.slice no L.length nc)).setCell ⟨w.heap.size + 1, 3, none⟩ (.slice eo es.length ec)).setCell ⟨w.heap.size + 1, 4, none⟩ (.slice co S'.cs.length cc)).cell? ⟨w.heap.size + 1, 1, none⟩ = some (.bool T.dir) := by rw [blk_cell hgx]; rfl
  have r2 : (((((w7.setCell ⟨w.heap.size + 1, 0, none⟩ (.string (bb T.name))).setCell ⟨w.heap.size + 1, 1, none⟩ (.bool T.dir)).setCell ⟨w.heap.size + 1, 2, none⟩ (.slice no L.length nc)).setCell ⟨w.heap.size + 1, 3, none⟩ (.slice eo es.length ec)).setCell ⟨w.heap.size + 1, 4, none⟩ (.slice co S'.cs.length cc)).cell? ⟨w.heap.size + 1, 2, none⟩ = some (.slice no L.length nc) := by rw [blk_cell hgx]; rfl
  have r3 : (((((w7.setCell ⟨w.heap.size + 1, 0, none⟩ (.string (bb T.name))).setCell ⟨w.heap.size + 1, 1, none⟩ (.bool T.dir)).setCell ⟨w.heap.size + 1, 2, none⟩ (.slice no L.length nc)).setCell ⟨w.heap.size + 1, 3, none⟩ (.slice eo es.length ec)).setCell ⟨w.heap.size + 1, 4, none⟩ (.slice co S'.cs.length cc)).cell? ⟨w.heap.size + 1, 3, none⟩ = some (.slice eo es.length ec) := by rw [blk_cell hgx]; rfl
  have r4 : (((((w7.setCell ⟨w.heap.size + 1, 0, none⟩ (.string (bb T.name))).setCell ⟨w.heap.size + 1, 1, none⟩ (.bool T.dir)).setCell ⟨w.heap.size + 1, 2, none⟩ (.slice no L.length nc)).setCell ⟨w.heap.size + 1, 3, none⟩ (.slice eo es.length ec)).setCell ⟨w.heap.size + 1, 4, none⟩ (.slice co S'.cs.length cc)).cell? ⟨w.heap.size + 1, 4, none⟩ = some (.slice co S'.cs.length cc) := by rw [blk_cell hgx]; rfl
  refine bodyPost_ret (v := .tuple #[.agg #[.string (bb T.name), .bool T.dir, .slice no L.length nc, .slice eo es.length ec, .slice co S'.cs.length cc], .int .i64 0]) (by simp [results, Tryz.results10, go_sem, r0, r1, r2, r3, r4]) rfl ?_
  obtain ⟨rfl, rfl⟩ := HE.out
  exact ⟨_, rfl, hgr.graph HNM.out HL.out HWN.out HWE.out HWF.out.2, below_set5 HB7.out (by omega) _ _ _ _ _⟩
end Go.Proofs.YtcdoicgbjoikkaaGreatDoor.nor
