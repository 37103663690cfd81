/-
  Slices of names in memory, as they are read and as a row that a loop appends to; has and the law's same. No condition.
  What Clusters of the reference of layer 7 returns. Condition: a tree of at most 600 statements in memory.
  What Names of the reference of layer 7 returns. Condition: a tree of at most 600 statements in memory, at most 40 refs in each.
  What Equal of the reference of layer 7 returns. Condition: trees in memory.
-/
import Derived.Test.YthcglcnhdgeaeaaDoorTrees
import Derived.Laws.OwnMore
import Derived.Test.YthcglcnhdgeaeaaDoorMTf
import Derived.Deep.QuietTactic
import Derived.Deep.RegionHeld3
import Derived.Deep.CutRange
import Derived.Laws.StructEq
namespace Go.Proofs.YthcglcnhdgeaeaaDoor.tre
open Go.RowKit lex

/-- A list of names as a slice holds it. -/
def Nl (w : World) (v : Value) (l : List (List UInt8)) : Prop := ∃ (ao : Option Addr) (cap : Nat), v = .slice ao l.length cap ∧ l.length ≤ cap ∧ cap ≤ maxLen ∧ (0 < l.length → ∃ A, ao = some A ∧ ∀ i (h : i < l.length), w.cell? (A.add i) = some (.string (bb l[i])))
theorem Nl.keep {w1 w2 : World} {v : Value} {l : List (List UInt8)} (h : Nl w1 v l) (hb : Below w1.heap.size w1 w2) : Nl w2 v l := by
  obtain ⟨ao, cap, rfl, hc, hm, hA⟩ := h
  exact ⟨ao, cap, rfl, hc, hm, fun hn => by obtain ⟨A, rfl, h2⟩ := hA hn; exact ⟨A, rfl, fun i hi => cell_later' hb (h2 i hi)⟩⟩
theorem Nl.get {w : World} {ao : Option Addr} {n cap : Nat} {l : List (List UInt8)} (h : Nl w (.slice ao n cap) l) {i : Nat} (hi : i < l.length) : ∃ A, ao = some A ∧ w.cell? (A.add i) = some (.string (bb l[i])) := by
  obtain ⟨ao', cap', e, _, _, hA⟩ := h
  cases e
  obtain ⟨A, rfl, h2⟩ := hA (by omega)
  exact ⟨A, rfl, h2 i hi⟩
def nmC (l : List (List UInt8)) : List Value := l.map fun x => .string (bb x)
/-- A slice of names that the call owns. -/
def Nrow (w : World) (B : Nat) (v : Value) (l : List (List UInt8)) : Prop := w.ownsRow B 9 1 v l.length (nmC l)
theorem Nrow.nl {w : World} {B : Nat} {v : Value} {l : List (List UInt8)} (h : Nrow w B v l) : Nl w v l := by
  have h0 := h
  rcases h.2 with ⟨rfl, hz⟩ | ⟨g, cap, cur, rfl, hg, hc, hcap, hm, h3⟩
  · obtain rfl : l = [] := List.eq_nil_of_length_eq_zero hz
    exact ⟨none, 0, rfl, Nat.le_refl _, by decide, fun h => absurd h (by simp)⟩
  · refine ⟨some ⟨g, 0, none⟩, cap, rfl, hcap, hm, fun _ => ⟨_, rfl, fun i hi => ?_⟩⟩
    have c := World.ownsRow.cells h0 (g := g) rfl
    exact c i _ (by unfold nmC; rw [List.getElem?_map, List.getElem?_eq_getElem hi]; rfl)
theorem bb_inj {a b : List UInt8} : bb a = bb b ↔ a = b := by
  constructor
  · intro h
    have := congrArg (fun x : ByteArray => x.data.toList) h
    simpa using this
  · intro h; rw [h]
end Go.Proofs.YthcglcnhdgeaeaaDoor.tre
namespace Go.Proofs.YthcglcnhdgeaeaaDoor.tre
open Go.RowKit lex

/-- A list of names that a call leaves. -/
def NlOut (L : List (List UInt8)) (w : World) (e : Ending) (w' : World) : Prop := ∃ v, e = .returned v ∧ Nl w' v L ∧ Below w.heap.size w w'
theorem info_s1 : (Tryd.prog.info? 9).map (fun i => (i.zero, i.size, i.bytes)) = some (some (.string ⟨#[]⟩), 1, 16) := by kernel_rfl
theorem info_str1 : ∃ i, Tryd.prog.info? 9 = some i ∧ i.zero = some (.string ⟨#[]⟩) ∧ i.size = 1 ∧ i.bytes = 16 := by
  have h := info_s1
  cases hq : Tryd.prog.info? 9 with
  | none => rw [hq] at h; cases h
  | some i =>
    rw [hq] at h
    simp only [Option.map_some, Option.some.injEq, Prod.mk.injEq] at h
    exact ⟨i, rfl, h.1, h.2.1, h.2.2⟩
theorem nmC_snoc (l : List (List UInt8)) (x : List UInt8) : nmC (l ++ [x]) = nmC l ++ [.string (bb x)] := by simp [nmC]
theorem cell1_str (w : World) (v : Value) (t : TypeId) : ∀ j u, [v][j]? = some u → (w.alloc (.cells #[v] t)).cell? ((⟨w.heap.size, 0, none⟩ : Addr).add j) = some u := by
  intro j u hj
  match j, hj with
  | 0, hj => simp at hj; subst hj; simp [Addr.add]
  | (j + 1), hj => simp at hj
/-- One name more, out of a slice of one that was just made. -/
theorem app_name {w : World} {ops : Array Oper} {rest : List Oper} {o : Oper} {a : Act} {Q : Exit → Act → World → Prop} (hg : o.guard = none) (p y : Operand) (ho : o.op = .call { callee := .builtin .append, args := #[p, y], argTypes := #[65, 65] })
    (B : Nat) (v : Value) (l : List (List UInt8)) (x : List UInt8) (hs : a.eval p = v) (hx : a.eval y = .slice (some ⟨w.heap.size, 0, none⟩) 1 1) (h : Hid (Nrow w B v l)) (hl : l.length ≤ 1000000) (hB : B ≤ w.heap.size)
    (hK : ∀ v' w', Nrow w' B v' (l ++ [x]) → w.grownBy w' v.ownBlock → wpList Tryd.prog ops Q rest (a.put o.dst v') w') : wpList Tryd.prog ops Q (o :: rest) a (w.alloc (.cells #[.string (bb x)] 9)) := by
  obtain ⟨i0, hi, hz0, hz1, hz2⟩ := info_str1
  refine wpList_append_own _ hg p y 65 ho B 9 i0 (.string ⟨#[]⟩) 1 16 Tryd.underlying65 hi hz0 hz1 hz2 rfl (by decide) v l.length _ hs (World.ownsRow.alloc h.out _) ⟨w.heap.size, 0, none⟩ 1 1 [.string (bb x)] hx rfl (cell1_str _ _ _) (by simp [Value.oneCell']) (by unfold maxLen; omega) (by omega) (by simp; omega) ?_
  intro v' w' hown hgrow _
  refine hK v' w' ?_ ?_
  · unfold Nrow; rw [nmC_snoc, List.length_append]; exact hown
  · refine ⟨hgrow.os, hgrow.tape, hgrow.output, Nat.le_trans (by simp) hgrow.size, fun k hk hne => ?_⟩
    rw [hgrow.block k (by simp; omega) hne, heap_alloc_old w _ hk]
/-- Rows of two kinds lie in two blocks. -/
theorem own_far {w : World} {B1 B2 s1 s2 n1 n2 : Nat} {e1 e2 : TypeId} {v1 v2 : Value} {xs1 xs2 : List Value} (h1 : w.ownsRow B1 e1 s1 v1 n1 xs1) (h2 : w.ownsRow B2 e2 s2 v2 n2 xs2) (he : e1 ≠ e2) : v1.ownBlock = none ∨ v1.ownBlock ≠ v2.ownBlock := by
  rcases h1.2 with ⟨rfl, _⟩ | ⟨g, _, cur, rfl, _, hg, _⟩
  · exact Or.inl rfl
  · refine Or.inr fun e => ?_
    rcases h2.2 with ⟨rfl, _⟩ | ⟨g2, _, cur2, rfl, _, hg2, _⟩
    · cases e
    · have e3 : g = g2 := Option.some.inj e
      rw [← e3, hg] at hg2
      injection hg2 with hg2
      injection hg2 with _ h5 _
      exact he h5
theorem cluL_len (l : List (St × Int)) : (cluL l).length ≤ l.length := by
  induction l with
  | nil => exact Nat.le_refl _
  | cons x t ih =>
    unfold cluL at *
    rw [List.flatMap_cons, List.length_append, List.length_cons]
    have : (if x.1.kind = 5 then [x.1.name] else []).length ≤ 1 := by split <;> simp
    omega
theorem take_pair {l : List (St × Int)} {k : Nat} (h : k < l.length) : l.take (k + 1) = l.take k ++ [l[k]] := by rw [List.take_add_one, List.getElem?_eq_getElem h]; rfl
theorem cluL_snoc (l : List (St × Int)) (x : St × Int) : cluL (l ++ [x]) = cluL l ++ (if x.1.kind = 5 then [x.1.name] else []) := by unfold cluL; rw [List.flatMap_append]; simp
end Go.Proofs.YthcglcnhdgeaeaaDoor.tre
namespace Go.Proofs.YthcglcnhdgeaeaaDoor.tre
open Go.RowKit lex

theorem nms_snoc (l : List (St × Int)) (x : St × Int) : uniq (nmsL (l ++ [x])) = (nmsS x.1).foldl addN (uniq (nmsL l)) := by
  unfold uniq nmsL; rw [List.flatMap_append, List.foldl_append]; simp
theorem addN_len (C : List (List UInt8)) (x : List UInt8) : (addN C x).length ≤ C.length + 1 := by unfold addN; split <;> simp
theorem nms_step {r : List Pr} {j : Nat} {C D : List (List UInt8)} (h : ((r.take j).map (·.1)).foldl addN C = D) (hj : j < r.length) : ((r.take (j + 1)).map (·.1)).foldl addN C = addN D r[j].1 := by
  rw [take_pr hj, List.map_append, List.foldl_append, h]; rfl
end Go.Proofs.YthcglcnhdgeaeaaDoor.tre
namespace Go.Proofs.YthcglcnhdgeaeaaDoor.tre
open Go.RowKit lex

theorem eqL_drop {l m : List St} {k : Nat} (hl : k < l.length) (hm : k < m.length) : eqL (l.drop k) (m.drop k) = (eqS l[k] m[k] && eqL (l.drop (k + 1)) (m.drop (k + 1))) := by
  rw [List.drop_eq_getElem_cons hl, List.drop_eq_getElem_cons hm]; rfl
theorem eqL_self (l : List St) : eqL l l = true := (eq_iff.2 l l).2 rfl
theorem b_drew {W w : World} (h : Below W.heap.size W w) : Below W.heap.size W w.drew := h.drew
theorem b_alloc {W w : World} {o : Obj} (h : Below W.heap.size W w) : Below W.heap.size W (w.alloc o) := below_keep (al1 ..) h
theorem b_set {W w : World} {g : Nat} {o : Nat} {v : Value} (hg : W.heap.size ≤ g) (h : Below W.heap.size W w) : Below W.heap.size W (w.setCell ⟨g, o, none⟩ v) := h.setCell hg _
theorem ks {W w : World} {p0 p1 p2 p3 p4 q0 q1 q2 q3 q4 : Addr} {u0 u1 u2 u3 u4 v0 v1 v2 v3 v4 : Value} (a0 : W.cell? p0 = some u0) (a1 : W.cell? p1 = some u1) (a2 : W.cell? p2 = some u2) (a3 : W.cell? p3 = some u3) (a4 : W.cell? p4 = some u4)
    (b0 : W.cell? q0 = some v0) (b1 : W.cell? q1 = some v1) (b2 : W.cell? q2 = some v2) (b3 : W.cell? q3 = some v3) (b4 : W.cell? q4 = some v4) (h : Below W.heap.size W w) :
    Below W.heap.size W w ∧ w.cell? p0 = some u0 ∧ w.cell? p1 = some u1 ∧ w.cell? p2 = some u2 ∧ w.cell? p3 = some u3 ∧ w.cell? p4 = some u4 ∧ w.cell? q0 = some v0 ∧ w.cell? q1 = some v1 ∧ w.cell? q2 = some v2 ∧ w.cell? q3 = some v3 ∧ w.cell? q4 = some v4 :=
  ⟨h, cell_later' h a0, cell_later' h a1, cell_later' h a2, cell_later' h a3, cell_later' h a4, cell_later' h b0, cell_later' h b1, cell_later' h b2, cell_later' h b3, cell_later' h b4⟩
theorem ne_r {x y : St} {t r : Bool} (h : (eqS x y && t) = r) (hne : x ≠ y) : r = false := by
  rw [← h]
  cases hq : eqS x y
  · rfl
  · exact absurd ((eq_iff.1 x y).1 hq) hne
theorem st_ext {x y : St} (h0 : x.kind = y.kind) (h1 : x.name = y.name) (h2 : x.refs = y.refs) (h3 : x.attrs = y.attrs) (h4 : x.body = y.body) : x = y := by
  cases x; cases y
  simp only [St.kind, St.name, St.refs, St.attrs, St.body] at h0 h1 h2 h3 h4
  subst h0 h1 h2 h3 h4; rfl
theorem guard_att : Tryd.prog.eqGuardType Tryd.prog.depth 28 = false := by kernel_rfl
theorem neq_att (u v : Pr) (dq : Bool) (h : Hid (decide (u ≠ v) = dq)) (w : World) : (binOp .neq 28 (.agg #[.string (bb u.1), .string (bb u.2)]) (.agg #[.string (bb v.1), .string (bb v.2)])).run Tryd.prog w = .ok (.bool dq) w := by
  have hu : Tryd.prog.underlying 28 = some (.struct (Tryd.prog.fieldsOf 28)) := by kernel_rfl
  have hp : Tryd.prog.stoodInHeld 28 = false := by kernel_rfl
  obtain ⟨a, b⟩ := u
  obtain ⟨c, d⟩ := v
  rw [run_neq_struct, run_equalIn_agg w 9999 _ _ _ hu hp, ← h.out]
  by_cases h1 : a = c <;> by_cases h2 : b = d <;> simp [go_sem, Op.eqFields, Program.fieldsOf, Tryd.underlying28, Tryd.underlying9, ByteArray.toList_eq, h1, h2]
end Go.Proofs.YthcglcnhdgeaeaaDoor.tre
