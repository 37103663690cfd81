/-
  What fields of the reference of layer 7 returns. Condition: the lists lie in memory.
  What attributes of the reference of layer 7 returns. Condition: the lists lie in memory.
  What statement of the reference of layer 7 returns. Condition: the lists lie in memory.
  What Valid and Count of the reference of layer 7 return. Condition: a tree of at most 600 statements in memory.
-/
import Derived.Test.YthcglcnhdgeaeaaDoorMTw
import Derived.Deep.QuietTactic
namespace Go.Proofs.YthcglcnhdgeaeaaDoor.tre
open Go.RowKit lex

/-- A statement by value. -/
abbrev stV (s : St) (rv av bv : Value) : Value := .agg #[.int .i64 s.kind, .string (bb s.name), rv, av, bv]
/-- A statement in a block of its own. -/
def at5 (w : World) (b : Nat) (k : Int) (x : ByteArray) (rv av bv : Value) : Prop := w.cell? ⟨b, 0, none⟩ = some (.int .i64 k) ∧ w.cell? ⟨b, 1, none⟩ = some (.string x) ∧ w.cell? ⟨b, 2, none⟩ = some rv ∧ w.cell? ⟨b, 3, none⟩ = some av ∧ w.cell? ⟨b, 4, none⟩ = some bv
theorem at5_new (w : World) (k : Int) (x : ByteArray) (rv av bv : Value) (t : TypeId) : at5 (w.alloc (.cells #[.int .i64 k, .string x, rv, av, bv] t)) w.heap.size k x rv av bv := by
  refine ⟨?_, ?_, ?_, ?_, ?_⟩ <;> go_simp
theorem at5_keep {w1 w2 : World} {b : Nat} {k : Int} {x : ByteArray} {rv av bv : Value} (h : at5 w1 b k x rv av bv) (h2 : Below w1.heap.size w1 w2) : at5 w2 b k x rv av bv :=
  ⟨cell_keep h2 h.1, cell_keep h2 h.2.1, cell_keep h2 h.2.2.1, cell_keep h2 h.2.2.2.1, cell_keep h2 h.2.2.2.2⟩
end Go.Proofs.YthcglcnhdgeaeaaDoor.tre
namespace Go.Proofs.YthcglcnhdgeaeaaDoor.tre
open Go.RowKit lex

/-- The cells of the k-th pair of a slice. -/
theorem Prs.get {w : World} {ao : Option Addr} {n cap : Nat} {l : List Pr} (h : Prs w (.slice ao n cap) l) {k : Nat} (hk : k < l.length) : ∃ A, ao = some A ∧ prAt w A k l[k] := by
  obtain ⟨ao', cap', e, _, _, hA⟩ := h
  cases e
  obtain ⟨A, rfl, h2⟩ := hA (by omega)
  exact ⟨A, rfl, h2 k hk⟩
theorem below_drewT (w : World) : ∀ n, Below w.heap.size w (w.drewN n)
  | 0 => Below.refl _ _
  | n + 1 => (below_drewT w n).drew
theorem attL_nil (k : Int) (d : List Pr) : attL k d [] = 0 := by rw [attL]
theorem attL_cons (k : Int) (d : List Pr) (a : Pr) (t : List Pr) : attL k d (a :: t) = if k ≠ 4 ∧ isNm a.1 = false then 5 else if d.any (fun x => decide (x.1 = a.1)) = true then 6 else if 32 < a.2.length then 2 else if a.2.all isPl = false then 7 else attL k (d ++ [a]) t := by rw [attL]
theorem drop_pr {l : List Pr} {k : Nat} (h : k < l.length) : l.drop k = l[k] :: l.drop (k + 1) := List.drop_eq_getElem_cons h
theorem take_pr {l : List Pr} {k : Nat} (h : k < l.length) : l.take (k + 1) = l.take k ++ [l[k]] := by rw [List.take_add_one, List.getElem?_eq_getElem h]; rfl
theorem at2_str (w : World) (x y : ByteArray) (t : TypeId) : (w.alloc (.cells #[.string x, .string y] t)).cell? ⟨w.heap.size, 0, none⟩ = some (.string x) ∧ (w.alloc (.cells #[.string x, .string y] t)).cell? ⟨w.heap.size, 1, none⟩ = some (.string y) := by
  constructor <;> go_simp
end Go.Proofs.YthcglcnhdgeaeaaDoor.tre
namespace Go.Proofs.YthcglcnhdgeaeaaDoor.tre
open Go.RowKit lex

/-- A statement with its level in a block of its own. -/
def at6 (w : World) (b : Nat) (k : Int) (x : ByteArray) (rv av bv : Value) (lv : Int) : Prop := at5 w b k x rv av bv ∧ w.cell? ⟨b, 5, none⟩ = some (.int .i64 lv)
theorem at6_new (w : World) (k : Int) (x : ByteArray) (rv av bv : Value) (lv : Int) (t : TypeId) : at6 (w.alloc (.cells #[.int .i64 k, .string x, rv, av, bv, .int .i64 lv] t)) w.heap.size k x rv av bv lv := by
  refine ⟨⟨?_, ?_, ?_, ?_, ?_⟩, ?_⟩ <;> go_simp
theorem at6_keep {w1 w2 : World} {b : Nat} {k : Int} {x : ByteArray} {rv av bv : Value} {lv : Int} (h : at6 w1 b k x rv av bv lv) (h2 : Below w1.heap.size w1 w2) : at6 w2 b k x rv av bv lv := ⟨at5_keep h.1 h2, cell_keep h2 h.2⟩
theorem all_next {l : List Pr} {k : Nat} (h : k < l.length) (h1 : (l.take k).all refB = true) (h2 : refB l[k] = true) : (l.take (k + 1)).all refB = true := by rw [take_pr h, List.all_append, h1]; simp [h2]
theorem all_bad {l : List Pr} {k : Nat} (h : k < l.length) (h2 : refB l[k] = false) : l.all refB = false := by rw [List.all_eq_false]; exact ⟨l[k], List.getElem_mem h, by rw [h2]; simp⟩
end Go.Proofs.YthcglcnhdgeaeaaDoor.tre
namespace Go.Proofs.YthcglcnhdgeaeaaDoor.tre
open Go.RowKit lex

theorem fin_len {F : List FV} {l : List St} {lv : Int} (h : F.map (fun f => (f.s, f.lv)) = preL l lv) : F.length = cnt l := by
  have := congrArg List.length h
  rw [List.length_map] at this
  rw [this]; exact pre_len.2 _ _ _
theorem firstE_drop {L : List (St × Int)} {k : Nat} (h : k < L.length) : firstE (L.drop k) = if staE L[k].1 L[k].2 ≠ 0 then staE L[k].1 L[k].2 else firstE (L.drop (k + 1)) := by
  rw [List.drop_eq_getElem_cons h, firstE]
theorem fin_get {F : List FV} {L : List (St × Int)} (h : F.map (fun f => (f.s, f.lv)) = L) {k : Nat} (hk : k < F.length) : ∃ hk2 : k < L.length, L[k] = (F[k].s, F[k].lv) := by
  subst h
  exact ⟨by rw [List.length_map]; exact hk, by rw [List.getElem_map]⟩
/-- A tree in a block of its own. -/
def at3 (w : World) (b : Nat) (x : ByteArray) (d : Bool) (bv : Value) : Prop := w.cell? ⟨b, 0, none⟩ = some (.string x) ∧ w.cell? ⟨b, 1, none⟩ = some (.bool d) ∧ w.cell? ⟨b, 2, none⟩ = some bv
theorem at3_new (w : World) (x : ByteArray) (d : Bool) (bv : Value) (t : TypeId) : at3 (w.alloc (.cells #[.string x, .bool d, bv] t)) w.heap.size x d bv := by
  refine ⟨?_, ?_, ?_⟩ <;> go_simp
theorem at3_keep {w1 w2 : World} {b : Nat} {x : ByteArray} {d : Bool} {bv : Value} (h : at3 w1 b x d bv) (h2 : Below w1.heap.size w1 w2) : at3 w2 b x d bv := ⟨cell_keep h2 h.1, cell_keep h2 h.2.1, cell_keep h2 h.2.2⟩
end Go.Proofs.YthcglcnhdgeaeaaDoor.tre
