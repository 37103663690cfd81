/-
  Graphs in memory (layer 11): lists of ports, nodes, edges and clusters as slices hold them; a graph that comes in. No condition.
-/
import Derived.Test.YtjeacpohanadnaaKit
import Derived.Test.YtjeacpohanadnaaGraPlain
import Derived.Deep.Slices
import Derived.OpenShut
namespace Go.Proofs.Ytjeacpohanadnaa.gra
open Go.ChangeShapes Go.WideShapes Go.ChangeAt Go.RowKit Go.Joins lex

abbrev bb (l : List UInt8) : ByteArray := ⟨l.toArray⟩
theorem bb_list (s : ByteArray) : bb s.data.toList = s := by cases s; simp
/-- A list as a slice holds it: elements of c cells each. -/
def Rw {α : Type} (c : Nat) (P : World → Addr → α → Prop) (w : World) (v : Value) (l : List α) : Prop :=
  ∃ (ao : Option Addr) (cap : Nat), v = .slice ao l.length cap ∧ l.length ≤ cap ∧ cap ≤ maxLen ∧ (0 < l.length → ∃ A, ao = some A ∧ ∀ i (h : i < l.length), P w (A.add (i * c)) l[i])
theorem Rw.nil {α : Type} (c : Nat) (P : World → Addr → α → Prop) (w : World) : Rw c P w (.slice none 0 0) [] := ⟨none, 0, rfl, Nat.le_refl _, by decide, fun h => absurd h (by simp)⟩
theorem Rw.keep {α : Type} {c : Nat} {P : World → Addr → α → Prop} (hP : ∀ {w1 w2 : World} {A : Addr} {x : α}, P w1 A x → Below w1.heap.size w1 w2 → P w2 A x) {w1 w2 : World} {v : Value} {l : List α} (h : Rw c P w1 v l) (hb : Below w1.heap.size w1 w2) : Rw c P w2 v l := by
  obtain ⟨ao, cap, rfl, hc, hm, hA⟩ := h
  exact ⟨ao, cap, rfl, hc, hm, fun hn => by obtain ⟨A, rfl, h2⟩ := hA hn; exact ⟨A, rfl, fun i hi => hP (h2 i hi) hb⟩⟩
/-- A string and an int: a port, a cluster. -/
def ptAt (w : World) (A : Addr) (r : Pt) : Prop :=
  w.cell? A = some (.string (bb r.1)) ∧ w.cell? ⟨A.block, A.off + 1, none⟩ = some (.int .i64 r.2) ∧ r.1.length ≤ maxLen ∧ (Lit.int .i64 r.2).wf = true
theorem ptAt.keep {w1 w2 : World} {A : Addr} {r : Pt} (h : ptAt w1 A r) (hb : Below w1.heap.size w1 w2) : ptAt w2 A r := ⟨cell_later' hb h.1, cell_later' hb h.2.1, h.2.2⟩
abbrev Pts := Rw 2 ptAt
theorem Pts.keep {w1 w2 : World} {v : Value} {l : List Pt} (h : Pts w1 v l) (hb : Below w1.heap.size w1 w2) : Pts w2 v l := Rw.keep (P := ptAt) (fun h hb => ptAt.keep h hb) h hb
/-- A node, its six cells from A on. -/
def ndAt (w : World) (A : Addr) (x : Nd) : Prop :=
  w.cell? A = some (.string (bb x.nm)) ∧ w.cell? ⟨A.block, A.off + 1, none⟩ = some (.string (bb x.lb)) ∧ w.cell? ⟨A.block, A.off + 2, none⟩ = some (.int .i64 x.w) ∧ w.cell? ⟨A.block, A.off + 3, none⟩ = some (.int .i64 x.h) ∧
  w.cell? ⟨A.block, A.off + 4, none⟩ = some (.int .i64 x.cl) ∧ (∃ pv, w.cell? ⟨A.block, A.off + 5, none⟩ = some pv ∧ Pts w pv x.ps) ∧ x.nm.length ≤ maxLen ∧ x.lb.length ≤ maxLen ∧
  (Lit.int .i64 x.w).wf = true ∧ (Lit.int .i64 x.h).wf = true ∧ (Lit.int .i64 x.cl).wf = true
theorem ndAt.keep {w1 w2 : World} {A : Addr} {x : Nd} (h : ndAt w1 A x) (hb : Below w1.heap.size w1 w2) : ndAt w2 A x := by
  obtain ⟨h0, h1, h2, h3, h4, ⟨pv, h5, h6⟩, h7⟩ := h
  exact ⟨cell_later' hb h0, cell_later' hb h1, cell_later' hb h2, cell_later' hb h3, cell_later' hb h4, ⟨pv, cell_later' hb h5, h6.keep hb⟩, h7⟩
abbrev Nds := Rw 6 ndAt
theorem Nds.keep {w1 w2 : World} {v : Value} {l : List Nd} (h : Nds w1 v l) (hb : Below w1.heap.size w1 w2) : Nds w2 v l := Rw.keep (P := ndAt) (fun h hb => ndAt.keep h hb) h hb
/-- An edge, its seven cells from A on. -/
def edAt (w : World) (A : Addr) (x : Ed) : Prop :=
  w.cell? A = some (.int .i64 x.fr) ∧ w.cell? ⟨A.block, A.off + 1, none⟩ = some (.int .i64 x.to) ∧ w.cell? ⟨A.block, A.off + 2, none⟩ = some (.int .i64 x.fp) ∧ w.cell? ⟨A.block, A.off + 3, none⟩ = some (.int .i64 x.tp) ∧
  w.cell? ⟨A.block, A.off + 4, none⟩ = some (.string (bb x.lb)) ∧ w.cell? ⟨A.block, A.off + 5, none⟩ = some (.int .i64 x.wt) ∧ w.cell? ⟨A.block, A.off + 6, none⟩ = some (.int .i64 x.ln) ∧ x.lb.length ≤ maxLen ∧
  (Lit.int .i64 x.fr).wf = true ∧ (Lit.int .i64 x.to).wf = true ∧ (Lit.int .i64 x.fp).wf = true ∧ (Lit.int .i64 x.tp).wf = true ∧ (Lit.int .i64 x.wt).wf = true ∧ (Lit.int .i64 x.ln).wf = true
theorem edAt.keep {w1 w2 : World} {A : Addr} {x : Ed} (h : edAt w1 A x) (hb : Below w1.heap.size w1 w2) : edAt w2 A x := by
  obtain ⟨h0, h1, h2, h3, h4, h5, h6, h7⟩ := h
  exact ⟨cell_later' hb h0, cell_later' hb h1, cell_later' hb h2, cell_later' hb h3, cell_later' hb h4, cell_later' hb h5, cell_later' hb h6, h7⟩
abbrev Eds := Rw 7 edAt
theorem Eds.keep {w1 w2 : World} {v : Value} {l : List Ed} (h : Eds w1 v l) (hb : Below w1.heap.size w1 w2) : Eds w2 v l := Rw.keep (P := edAt) (fun h hb => edAt.keep h hb) h hb
abbrev Cls := Rw 2 ptAt
theorem Cls.keep {w1 w2 : World} {v : Value} {l : List Cl} (h : Cls w1 v l) (hb : Below w1.heap.size w1 w2) : Cls w2 v l := Pts.keep h hb
/-- A graph by value. -/
def GrV (w : World) (v : Value) (g : Gr) : Prop :=
  ∃ nv ev cv, v = .agg #[.string (bb g.nm), .bool g.dir, nv, ev, cv] ∧ g.nm.length ≤ maxLen ∧ Nds w nv g.ns ∧ Eds w ev g.es ∧ Cls w cv g.cs
theorem GrV.keep {w1 w2 : World} {v : Value} {g : Gr} (h : GrV w1 v g) (hb : Below w1.heap.size w1 w2) : GrV w2 v g := by
  obtain ⟨nv, ev, cv, rfl, hm, h1, h2, h3⟩ := h; exact ⟨nv, ev, cv, rfl, hm, h1.keep hb, h2.keep hb, h3.keep hb⟩

/-! ### A graph that comes in -/
instance : Inhabited Nd := ⟨⟨[], [], 0, 0, 0, []⟩⟩
instance : Inhabited Ed := ⟨⟨0, 0, 0, 0, [], 0, 0⟩⟩
section
variable {H : Type} {enc : TypeId × Value → H} {w : World} {base : Nat} {spare : Nat → Bool} {held : Bool}
theorem trod_fields {t : TypeId} {fs : Array Field} {fuel : Nat} {cs : List Value} {x : DataW H × List MemPlace} (ht : Try.prog.underlying t = some (.struct fs)) (h : DataW.trod enc Try.prog w base spare held fuel t cs = some x) :
    cs.length = Try.prog.cellsOf t ∧ ∃ n, ∀ (i : Nat) (f : Field), fs[i]? = some f → ∃ y, DataW.trod enc Try.prog w base spare held n f.type ((cs.drop f.offset).take (Try.prog.cellsOf f.type)) = some y := by
  obtain ⟨xs, n, _, rfl, hl, hlen, hf⟩ := DataW.trod_struct ht h
  refine ⟨hl, n, fun i f hi => ?_⟩
  have hil : i < xs.length := by
    rw [hlen]
    rcases Nat.lt_or_ge i fs.size with h | h
    · exact h
    · rw [Array.getElem?_eq_none h] at hi; exact nomatch hi
  exact ⟨xs[i], by have := hf i f hi; rw [List.getElem?_eq_getElem hil] at this; simpa using this⟩
/-- A list that comes in, element by element. -/
theorem open_rw {α : Type} [Inhabited α] {c : Nat} {P : World → Addr → α → Prop} {t e : TypeId} {fuel : Nat} {cs : List Value} {x : DataW H × List MemPlace} (ht : Try.prog.underlying t = some (.slice e)) (hc : Try.prog.cellsOf e = c)
    (hel : ∀ (A : Addr) (n : Nat) (cs : List Value) (y : DataW H × List MemPlace), cs.length = c → (∀ i, i < c → w.cell? (A.add i) = cs[i]?) → DataW.trod enc Try.prog w base spare held n e cs = some y → ∃ a, P w A a)
    (h : DataW.trod enc Try.prog w base spare held fuel t cs = some x) : ∃ v l, cs = [v] ∧ Rw c P w v l := by
  rcases Deep.open_slice ht h with ⟨rfl, _⟩ | ⟨a, len, cap, m, n, D, Pl, rfl, _, hl, hm, hmm, _, hi⟩
  · exact ⟨_, [], rfl, Rw.nil c P w⟩
  · have hlm : len ≤ m := by rw [hmm]; split <;> omega
    have key : ∀ i, i < len → ∃ r : α, P w (a.add (i * c)) r := by
      intro i hil
      obtain ⟨cs', hc', ht'⟩ := hi i (by omega)
      rw [hc] at hc'
      obtain ⟨_, hcl, hat⟩ := World.cells?_some hc'
      exact hel _ _ _ _ hcl hat ht'
    obtain ⟨f, hf⟩ := Deep.choose_lt key
    have hlen : ((List.range len).map f).length = len := by simp
    refine ⟨_, (List.range len).map f, rfl, some a, cap, by rw [hlen], by rw [hlen]; exact hl, hm, fun _ => ⟨a, rfl, fun i hi' => ?_⟩⟩
    rw [hlen] at hi'
    simpa using hf i hi'
set_option maxRecDepth 100000 in
theorem open_ports {fuel : Nat} {cs : List Value} {x : DataW H × List MemPlace} (h : DataW.trod enc Try.prog w base spare held fuel 46 cs = some x) : ∃ v l, cs = [v] ∧ Pts w v l := by
  refine open_rw Try.underlying46 (by kernel_rfl) (fun A n cs y hl hat ht => ?_) h
  obtain ⟨_, q, hf⟩ := trod_fields Try.underlying77 ht
  obtain ⟨c0, c1, rfl⟩ : ∃ c0 c1, cs = [c0, c1] := by
    match cs, hl with
    | [c0, c1], _ => exact ⟨c0, c1, rfl⟩
  have hci : Try.prog.cellsOf 3 = 1 := by kernel_rfl
  have hcs : Try.prog.cellsOf 9 = 1 := by kernel_rfl
  obtain ⟨y0, k0⟩ := hf 0 _ rfl
  obtain ⟨y1, k1⟩ := hf 1 _ rfl
  simp [hci, hcs] at k0 k1
  obtain ⟨x0, e0, _, z0⟩ := DataW.trod_string Try.underlying9 k0
  obtain ⟨x1, e1, _, z1⟩ := DataW.trod_int Try.underlying3 k1
  simp at e0 e1
  subst e0 e1
  have j0 := hat 0 (by omega)
  have j1 := hat 1 (by omega)
  rw [add_one_of _ 1 (by omega)] at j1
  exact ⟨(x0.data.toList, x1), by show _ = some (Value.string (bb x0.data.toList)); rw [bb_list]; exact j0, j1, by simpa using z0, z1⟩
set_option maxRecDepth 100000 in
theorem open_clusters {fuel : Nat} {cs : List Value} {x : DataW H × List MemPlace} (h : DataW.trod enc Try.prog w base spare held fuel 24 cs = some x) : ∃ v l, cs = [v] ∧ Cls w v l := by
  refine open_rw Try.underlying24 (by kernel_rfl) (fun A n cs y hl hat ht => ?_) h
  obtain ⟨_, q, hf⟩ := trod_fields Try.underlying50 ht
  obtain ⟨c0, c1, rfl⟩ : ∃ c0 c1, cs = [c0, c1] := by
    match cs, hl with
    | [c0, c1], _ => exact ⟨c0, c1, rfl⟩
  have hci : Try.prog.cellsOf 3 = 1 := by kernel_rfl
  have hcs : Try.prog.cellsOf 9 = 1 := by kernel_rfl
  obtain ⟨y0, k0⟩ := hf 0 _ rfl
  obtain ⟨y1, k1⟩ := hf 1 _ rfl
  simp [hci, hcs] at k0 k1
  obtain ⟨x0, e0, _, z0⟩ := DataW.trod_string Try.underlying9 k0
  obtain ⟨x1, e1, _, z1⟩ := DataW.trod_int Try.underlying3 k1
  simp at e0 e1
  subst e0 e1
  have j0 := hat 0 (by omega)
  have j1 := hat 1 (by omega)
  rw [add_one_of _ 1 (by omega)] at j1
  exact ⟨(x0.data.toList, x1), by show _ = some (Value.string (bb x0.data.toList)); rw [bb_list]; exact j0, j1, by simpa using z0, z1⟩
set_option maxRecDepth 100000 in
theorem open_nodes {fuel : Nat} {cs : List Value} {x : DataW H × List MemPlace} (h : DataW.trod enc Try.prog w base spare held fuel 22 cs = some x) : ∃ v l, cs = [v] ∧ Nds w v l := by
  refine open_rw Try.underlying22 (by kernel_rfl) (fun A n cs y hl hat ht => ?_) h
  obtain ⟨_, q, hf⟩ := trod_fields Try.underlying48 ht
  obtain ⟨c0, c1, c2, c3, c4, c5, rfl⟩ : ∃ c0 c1 c2 c3 c4 c5, cs = [c0, c1, c2, c3, c4, c5] := by
    match cs, hl with
    | [c0, c1, c2, c3, c4, c5], _ => exact ⟨c0, c1, c2, c3, c4, c5, rfl⟩
  have hci : Try.prog.cellsOf 3 = 1 := by kernel_rfl
  have hcs : Try.prog.cellsOf 9 = 1 := by kernel_rfl
  have hcp : Try.prog.cellsOf 46 = 1 := by kernel_rfl
  obtain ⟨y0, k0⟩ := hf 0 _ rfl
  obtain ⟨y1, k1⟩ := hf 1 _ rfl
  obtain ⟨y2, k2⟩ := hf 2 _ rfl
  obtain ⟨y3, k3⟩ := hf 3 _ rfl
  obtain ⟨y4, k4⟩ := hf 4 _ rfl
  obtain ⟨y5, k5⟩ := hf 5 _ rfl
  simp [hci, hcs, hcp] at k0 k1 k2 k3 k4 k5
  obtain ⟨x0, e0, _, z0⟩ := DataW.trod_string Try.underlying9 k0
  obtain ⟨x1, e1, _, z1⟩ := DataW.trod_string Try.underlying9 k1
  obtain ⟨x2, e2, _, z2⟩ := DataW.trod_int Try.underlying3 k2
  obtain ⟨x3, e3, _, z3⟩ := DataW.trod_int Try.underlying3 k3
  obtain ⟨x4, e4, _, z4⟩ := DataW.trod_int Try.underlying3 k4
  obtain ⟨pv, ps, e5, hp⟩ := open_ports k5
  simp at e0 e1 e2 e3 e4 e5
  subst e0 e1 e2 e3 e4 e5
  have j0 := hat 0 (by omega)
  have j1 := hat 1 (by omega)
  have j2 := hat 2 (by omega)
  have j3 := hat 3 (by omega)
  have j4 := hat 4 (by omega)
  have j5 := hat 5 (by omega)
  rw [add_one_of _ 1 (by omega)] at j1
  rw [add_one_of _ 2 (by omega)] at j2
  rw [add_one_of _ 3 (by omega)] at j3
  rw [add_one_of _ 4 (by omega)] at j4
  rw [add_one_of _ 5 (by omega)] at j5
  exact ⟨⟨x0.data.toList, x1.data.toList, x2, x3, x4, ps⟩, by show _ = some (Value.string (bb x0.data.toList)); rw [bb_list]; exact j0, by show _ = some (Value.string (bb x1.data.toList)); rw [bb_list]; exact j1, j2, j3, j4, ⟨_, j5, hp⟩, by simpa using z0, by simpa using z1, z2, z3, z4⟩
set_option maxRecDepth 100000 in
theorem open_edges {fuel : Nat} {cs : List Value} {x : DataW H × List MemPlace} (h : DataW.trod enc Try.prog w base spare held fuel 23 cs = some x) : ∃ v l, cs = [v] ∧ Eds w v l := by
  refine open_rw Try.underlying23 (by kernel_rfl) (fun A n cs y hl hat ht => ?_) h
  obtain ⟨_, q, hf⟩ := trod_fields Try.underlying56 ht
  obtain ⟨c0, c1, c2, c3, c4, c5, c6, rfl⟩ : ∃ c0 c1 c2 c3 c4 c5 c6, cs = [c0, c1, c2, c3, c4, c5, c6] := by
    match cs, hl with
    | [c0, c1, c2, c3, c4, c5, c6], _ => exact ⟨c0, c1, c2, c3, c4, c5, c6, rfl⟩
  have hci : Try.prog.cellsOf 3 = 1 := by kernel_rfl
  have hcs : Try.prog.cellsOf 9 = 1 := by kernel_rfl
  obtain ⟨y0, k0⟩ := hf 0 _ rfl
  obtain ⟨y1, k1⟩ := hf 1 _ rfl
  obtain ⟨y2, k2⟩ := hf 2 _ rfl
  obtain ⟨y3, k3⟩ := hf 3 _ rfl
  obtain ⟨y4, k4⟩ := hf 4 _ rfl
  obtain ⟨y5, k5⟩ := hf 5 _ rfl
  obtain ⟨y6, k6⟩ := hf 6 _ rfl
  simp [hci, hcs] at k0 k1 k2 k3 k4 k5 k6
  obtain ⟨x0, e0, _, z0⟩ := DataW.trod_int Try.underlying3 k0
  obtain ⟨x1, e1, _, z1⟩ := DataW.trod_int Try.underlying3 k1
  obtain ⟨x2, e2, _, z2⟩ := DataW.trod_int Try.underlying3 k2
  obtain ⟨x3, e3, _, z3⟩ := DataW.trod_int Try.underlying3 k3
  obtain ⟨x4, e4, _, z4⟩ := DataW.trod_string Try.underlying9 k4
  obtain ⟨x5, e5, _, z5⟩ := DataW.trod_int Try.underlying3 k5
  obtain ⟨x6, e6, _, z6⟩ := DataW.trod_int Try.underlying3 k6
  simp at e0 e1 e2 e3 e4 e5 e6
  subst e0 e1 e2 e3 e4 e5 e6
  have j0 := hat 0 (by omega)
  have j1 := hat 1 (by omega)
  have j2 := hat 2 (by omega)
  have j3 := hat 3 (by omega)
  have j4 := hat 4 (by omega)
  have j5 := hat 5 (by omega)
  have j6 := hat 6 (by omega)
  rw [add_one_of _ 1 (by omega)] at j1
  rw [add_one_of _ 2 (by omega)] at j2
  rw [add_one_of _ 3 (by omega)] at j3
  rw [add_one_of _ 4 (by omega)] at j4
  rw [add_one_of _ 5 (by omega)] at j5
  rw [add_one_of _ 6 (by omega)] at j6
  exact ⟨⟨x0, x1, x2, x3, x4.data.toList, x5, x6⟩, j0, j1, j2, j3, by show _ = some (Value.string (bb x4.data.toList)); rw [bb_list]; exact j4, j5, j6, by simpa using z4, z0, z1, z2, z3, z5, z6⟩
set_option maxRecDepth 100000 in
theorem open_graph {r : Reach} {b0 : Nat} {v : Value} {d : DataW H} {p : List MemPlace} (hv : Value.okWide Try.prog w r b0 26 v) (h : DataW.Trod enc Try.prog w base spare held 26 v d p) : ∃ g, GrV w v g := by
  obtain ⟨cs, rfl, hsz⟩ := okWide_struct Try.underlying26 hv
  obtain ⟨fuel, hf⟩ := h
  obtain ⟨_, q, hk⟩ := trod_fields Try.underlying26 hf
  have hc5 : Try.prog.cellsOf 26 = 5 := by kernel_rfl
  obtain ⟨c0, c1, c2, c3, c4, rfl⟩ : ∃ c0 c1 c2 c3 c4, cs = #[c0, c1, c2, c3, c4] := by
    have hl : cs.toList.length = 5 := by simpa using hsz.trans hc5
    match h : cs.toList, hl with
    | [c0, c1, c2, c3, c4], _ => exact ⟨c0, c1, c2, c3, c4, by rw [← Array.toArray_toList (xs := cs), h]⟩
  have hcb : Try.prog.cellsOf 4 = 1 := by kernel_rfl
  have hcs : Try.prog.cellsOf 9 = 1 := by kernel_rfl
  have hcn : Try.prog.cellsOf 22 = 1 := by kernel_rfl
  have hce : Try.prog.cellsOf 23 = 1 := by kernel_rfl
  have hcc : Try.prog.cellsOf 24 = 1 := by kernel_rfl
  obtain ⟨y0, k0⟩ := hk 0 _ rfl
  obtain ⟨y1, k1⟩ := hk 1 _ rfl
  obtain ⟨y2, k2⟩ := hk 2 _ rfl
  obtain ⟨y3, k3⟩ := hk 3 _ rfl
  obtain ⟨y4, k4⟩ := hk 4 _ rfl
  simp [Value.cells, hcb, hcs, hcn, hce, hcc] at k0 k1 k2 k3 k4
  obtain ⟨x0, e0, _, z0⟩ := DataW.trod_string Try.underlying9 k0
  obtain ⟨x1, e1, _⟩ := DataW.trod_bool Try.underlying4 k1
  obtain ⟨nv, ns, e2, hn⟩ := open_nodes k2
  obtain ⟨ev, es, e3, he⟩ := open_edges k3
  obtain ⟨cv, cls, e4, hc⟩ := open_clusters k4
  simp at e0 e1 e2 e3 e4
  subst e0 e1 e2 e3 e4
  exact ⟨⟨x0.data.toList, x1, ns, es, cls⟩, _, _, _, by show _ = Value.agg #[.string (bb x0.data.toList), _, _, _, _]; rw [bb_list], by show x0.data.toList.length ≤ maxLen; simpa using z0, hn, he, hc⟩
end
end Go.Proofs.Ytjeacpohanadnaa.gra
