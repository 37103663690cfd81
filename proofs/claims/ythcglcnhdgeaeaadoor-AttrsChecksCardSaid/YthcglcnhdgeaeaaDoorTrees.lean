/-
  Trees in memory: lists of refs, attributes and statements as slices hold them; a tree that comes in. No condition.
-/
import Derived.Test.YthcglcnhdgeaeaaDoorKit
import Derived.Test.YthcglcnhdgeaeaaDoorMTp
import Derived.Deep.Slices
import Derived.OpenShut
namespace Go.Proofs.YthcglcnhdgeaeaaDoor.tre
open Go.ChangeShapes Go.WideShapes Go.ChangeAt Go.RowKit Go.Joins lex

abbrev bb (l : List UInt8) : ByteArray := ⟨l.toArray⟩
/-- A list of pairs of strings (refs, attributes) as a slice holds it. -/
def prAt (w : World) (A : Addr) (i : Nat) (r : Pr) : Prop :=
  w.cell? (A.add (i * 2)) = some (.string (bb r.1)) ∧ w.cell? ⟨(A.add (i * 2)).block, (A.add (i * 2)).off + 1, none⟩ = some (.string (bb r.2)) ∧ r.1.length ≤ maxLen ∧ r.2.length ≤ maxLen
def Prs (w : World) (v : Value) (l : List Pr) : Prop := ∃ (ao : Option Addr) (cap : Nat), v = .slice ao l.length cap ∧ l.length ≤ cap ∧ cap ≤ maxLen ∧ (0 < l.length → ∃ A, ao = some A ∧ ∀ i (h : i < l.length), prAt w A i l[i])
theorem prAt.keep {w1 w2 : World} {A : Addr} {i : Nat} {r : Pr} (h : prAt w1 A i r) (hb : Below w1.heap.size w1 w2) : prAt w2 A i r := ⟨cell_later' hb h.1, cell_later' hb h.2.1, h.2.2⟩
theorem Prs.keep {w1 w2 : World} {v : Value} {l : List Pr} (h : Prs w1 v l) (hb : Below w1.heap.size w1 w2) : Prs w2 v l := by
  obtain ⟨ao, cap, rfl, hc, hm, hA⟩ := h
  exact ⟨ao, cap, rfl, hc, hm, fun hn => by obtain ⟨A, rfl, h2⟩ := hA hn; exact ⟨A, rfl, fun i hi => (h2 i hi).keep hb⟩⟩
mutual
/-- A statement in memory, its five cells from A on. -/
def stAt (w : World) : St → Addr → Prop
  | .mk k n r a b, A => w.cell? A = some (.int .i64 k) ∧ w.cell? ⟨A.block, A.off + 1, none⟩ = some (.string (bb n)) ∧ n.length ≤ maxLen ∧
    (∃ rv, w.cell? ⟨A.block, A.off + 2, none⟩ = some rv ∧ Prs w rv r) ∧ (∃ av, w.cell? ⟨A.block, A.off + 3, none⟩ = some av ∧ Prs w av a) ∧
    ∃ ao cap, w.cell? ⟨A.block, A.off + 4, none⟩ = some (.slice ao b.length cap) ∧ b.length ≤ cap ∧ cap ≤ maxLen ∧ (0 < b.length → ∃ B, ao = some B ∧ stsAt w b B 0)
/-- Statements in memory, the i-th and those that follow. -/
def stsAt (w : World) : List St → Addr → Nat → Prop
  | [], _, _ => True
  | s :: t, A, i => stAt w s (A.add (i * 5)) ∧ stsAt w t A (i + 1)
end
/-- A list of statements as a slice holds it. -/
def Sts (w : World) (v : Value) (l : List St) : Prop := ∃ (ao : Option Addr) (cap : Nat), v = .slice ao l.length cap ∧ l.length ≤ cap ∧ cap ≤ maxLen ∧ (0 < l.length → ∃ A, ao = some A ∧ stsAt w l A 0)
theorem stAt_eq (w : World) (s : St) (A : Addr) : stAt w s A ↔ w.cell? A = some (.int .i64 s.kind) ∧ w.cell? ⟨A.block, A.off + 1, none⟩ = some (.string (bb s.name)) ∧ s.name.length ≤ maxLen ∧
    (∃ rv, w.cell? ⟨A.block, A.off + 2, none⟩ = some rv ∧ Prs w rv s.refs) ∧ (∃ av, w.cell? ⟨A.block, A.off + 3, none⟩ = some av ∧ Prs w av s.attrs) ∧
    ∃ bv, w.cell? ⟨A.block, A.off + 4, none⟩ = some bv ∧ Sts w bv s.body := by
  obtain ⟨k, n, r, a, b⟩ := s
  show (_ ∧ _) ↔ _
  constructor
  · rintro ⟨h1, h2, h3, h4, h5, ao, cap, h6, h7, h8, h9⟩
    exact ⟨h1, h2, h3, h4, h5, _, h6, ao, cap, rfl, h7, h8, h9⟩
  · rintro ⟨h1, h2, h3, h4, h5, bv, h6, ao, cap, rfl, h7, h8, h9⟩
    exact ⟨h1, h2, h3, h4, h5, ao, cap, h6, h7, h8, h9⟩
theorem stsAt_get {w : World} {A : Addr} : ∀ {l : List St} {i : Nat}, stsAt w l A i → ∀ j (h : j < l.length), stAt w l[j] (A.add ((i + j) * 5)) := by
  intro l
  induction l with
  | nil => intro i _ j h; simp at h
  | cons s t ih =>
    intro i h j hj
    cases j with
    | zero => exact h.1
    | succ j =>
      have := ih h.2 j (by simpa using hj)
      rw [show i + 1 + j = i + (j + 1) by omega] at this
      exact this
theorem stsAt_of {w : World} {A : Addr} : ∀ {l : List St} {i : Nat}, (∀ j (h : j < l.length), stAt w l[j] (A.add ((i + j) * 5))) → stsAt w l A i := by
  intro l
  induction l with
  | nil => intro i _; trivial
  | cons s t ih =>
    intro i h
    refine ⟨h 0 (by simp), ih fun j hj => ?_⟩
    have := h (j + 1) (by simpa using hj)
    rw [show i + (j + 1) = i + 1 + j by omega] at this
    exact this
theorem st_keep {w1 w2 : World} (hb : Below w1.heap.size w1 w2) : (∀ s A, stAt w1 s A → stAt w2 s A) ∧ ∀ l A i, stsAt w1 l A i → stsAt w2 l A i := by
  refine st_ind (fun k n r a b hB A h => ?_) (fun _ _ h => h) (fun s t hs ht A i h => ⟨hs _ h.1, ht _ _ h.2⟩)
  obtain ⟨h1, h2, h3, ⟨rv, h4, h4'⟩, ⟨av, h5, h5'⟩, ao, cap, h6, h7, h8, h9⟩ := h
  exact ⟨cell_later' hb h1, cell_later' hb h2, h3, ⟨rv, cell_later' hb h4, h4'.keep hb⟩, ⟨av, cell_later' hb h5, h5'.keep hb⟩, ao, cap, cell_later' hb h6, h7, h8, fun hn => by
    obtain ⟨B, rfl, h10⟩ := h9 hn; exact ⟨B, rfl, hB _ _ h10⟩⟩
theorem Sts.keep {w1 w2 : World} {v : Value} {l : List St} (h : Sts w1 v l) (hb : Below w1.heap.size w1 w2) : Sts w2 v l := by
  obtain ⟨ao, cap, rfl, hc, hm, hA⟩ := h
  exact ⟨ao, cap, rfl, hc, hm, fun hn => by obtain ⟨A, rfl, h2⟩ := hA hn; exact ⟨A, rfl, (st_keep hb).2 _ _ _ h2⟩⟩
theorem Sts.nil (w : World) : Sts w (.slice none 0 0) [] := ⟨none, 0, rfl, Nat.le_refl _, by decide, fun h => absurd h (by simp)⟩
theorem Prs.nil (w : World) : Prs w (.slice none 0 0) [] := ⟨none, 0, rfl, Nat.le_refl _, by decide, fun h => absurd h (by simp)⟩
/-- A tree by value. -/
def TrV (w : World) (v : Value) (T : Tr) : Prop := ∃ bv, v = .agg #[.string (bb T.name), .bool T.dir, bv] ∧ T.name.length ≤ maxLen ∧ Sts w bv T.body
theorem TrV.keep {w1 w2 : World} {v : Value} {T : Tr} (h : TrV w1 v T) (hb : Below w1.heap.size w1 w2) : TrV w2 v T := by
  obtain ⟨bv, rfl, hm, hs⟩ := h; exact ⟨bv, rfl, hm, hs.keep hb⟩

/-! ### A tree that comes in -/
theorem bb_list (s : ByteArray) : bb s.data.toList = s := by cases s; simp
section
variable {H : Type} {enc : TypeId × Value → H} {w : World} {base : Nat} {spare : Nat → Bool} {held : Bool}
theorem trod_struct5 {t : TypeId} {f0 f1 f2 f3 f4 : Field} {fuel : Nat} {cs : List Value} {x : DataW H × List MemPlace} (ht : Tryd.prog.underlying t = some (.struct #[f0, f1, f2, f3, f4])) (h : DataW.trod enc Tryd.prog w base spare held fuel t cs = some x) :
    ∃ y0 y1 y2 y3 y4 n, x.1 = .agg [y0.1, y1.1, y2.1, y3.1, y4.1] ∧ cs.length = Tryd.prog.cellsOf t ∧ DataW.trod enc Tryd.prog w base spare held n f0.type ((cs.drop f0.offset).take (Tryd.prog.cellsOf f0.type)) = some y0 ∧
      DataW.trod enc Tryd.prog w base spare held n f1.type ((cs.drop f1.offset).take (Tryd.prog.cellsOf f1.type)) = some y1 ∧ DataW.trod enc Tryd.prog w base spare held n f2.type ((cs.drop f2.offset).take (Tryd.prog.cellsOf f2.type)) = some y2 ∧
      DataW.trod enc Tryd.prog w base spare held n f3.type ((cs.drop f3.offset).take (Tryd.prog.cellsOf f3.type)) = some y3 ∧ DataW.trod enc Tryd.prog w base spare held n f4.type ((cs.drop f4.offset).take (Tryd.prog.cellsOf f4.type)) = some y4 := by
  obtain ⟨xs, n, _, rfl, hl, hlen, hf⟩ := DataW.trod_struct ht h
  match xs, hlen with
  | [y0, y1, y2, y3, y4], _ => exact ⟨y0, y1, y2, y3, y4, n, by simp, hl, by simpa using hf 0 f0 rfl, by simpa using hf 1 f1 rfl, by simpa using hf 2 f2 rfl, by simpa using hf 3 f3 rfl, by simpa using hf 4 f4 rfl⟩
set_option maxRecDepth 100000 in
theorem open_prs {t e : TypeId} {f0 f1 : Field} {fuel : Nat} {cs : List Value} {x : DataW H × List MemPlace} (ht : Tryd.prog.underlying t = some (.slice e)) (he : Tryd.prog.underlying e = some (.struct #[f0, f1])) (hc : Tryd.prog.cellsOf e = 2)
    (g0 : f0.type = 9 ∧ f0.offset = 0) (g1 : f1.type = 9 ∧ f1.offset = 1) (h : DataW.trod enc Tryd.prog w base spare held fuel t cs = some x) : ∃ v l, cs = [v] ∧ Prs w v l := by
  rcases Deep.open_slice ht h with ⟨rfl, _⟩ | ⟨a, len, cap, m, n, D, Pl, rfl, _, hl, hm, hmm, _, hi⟩
  · exact ⟨_, [], rfl, Prs.nil w⟩
  · have hlm : len ≤ m := by rw [hmm]; split <;> omega
    have hcs : Tryd.prog.cellsOf 9 = 1 := by kernel_rfl
    have key : ∀ i, i < len → ∃ r : Pr, prAt w a i r := by
      intro i hil
      obtain ⟨cs', hc', ht'⟩ := hi i (by omega)
      rw [hc] at hc'
      obtain ⟨_, hcl, hat⟩ := World.cells?_some hc'
      obtain ⟨y0, y1, q, _, _, k0, k1⟩ := trod_struct2 he ht'
      obtain ⟨c0, c1, rfl⟩ : ∃ c0 c1, cs' = [c0, c1] := by
        match cs', hcl with
        | [c0, c1], _ => exact ⟨c0, c1, rfl⟩
      rw [g0.1, g0.2, hcs] at k0
      rw [g1.1, g1.2, hcs] at k1
      obtain ⟨x0, e0, _, z0⟩ := DataW.trod_string Tryd.underlying9 k0
      obtain ⟨x1, e1, _, z1⟩ := DataW.trod_string Tryd.underlying9 k1
      simp at e0 e1
      subst e0 e1
      have j0 := hat 0 (by omega)
      have j1 := hat 1 (by omega)
      rw [add_one_of _ 1 (by omega)] at j1
      refine ⟨(x0.data.toList, x1.data.toList), ?_, ?_, by simpa using z0, by simpa using z1⟩
      · show _ = some (Value.string (bb x0.data.toList)); rw [bb_list]; exact j0
      · show _ = some (Value.string (bb x1.data.toList)); rw [bb_list]; exact j1
    obtain ⟨f, hf⟩ := Deep.choose_lt key
    have hlen : ((List.range len).map f).length = len := by simp
    refine ⟨_, (List.range len).map f, rfl, some a, cap, by rw [hlen], by rw [hlen]; exact hl, hm, fun _ => ⟨a, rfl, fun i hi' => ?_⟩⟩
    rw [hlen] at hi'
    simpa using hf i hi'
end
end Go.Proofs.YthcglcnhdgeaeaaDoor.tre
