/-
  The parser's memory: blocks known whole, rows that a call makes, what holds in every world that agrees on their blocks. No function of the program is named here; no condition.
  The landed parser's reader in memory, and its small methods: peek, skip, here, sees, accept, expect, end, name, value. Condition: tokens of a source (texts of at most 16384 bytes, numbers that an int holds).
  The landed parser's small methods: peek, here, skip, sees, accept, expect, end, name. Condition: the reader lies in memory.
  The landed parser's methods accept, expect, end, name, value. Condition: tokens of a source.
-/
import Derived.Test.YtgccheiemnpaoaaGreatDoorMTl
import Derived.Deep.AppendLies
import Derived.Test.YtgccheiemnpaoaaGreatDoorMPo
import Derived.Test.YtgccheiemnpaoaaGreatDoorMNc
namespace Go.Proofs.YtgccheiemnpaoaaGreatDoor.par
open Go.RowKit lex tre

/-- Block g holds these cells and may be written. -/
def blk (W : World) (g : Nat) (t : TypeId) (arr : Array Value) : Prop := W.heap[g]? = some (.cells arr t (0, 0))
theorem blk_cell {W : World} {g o : Nat} {t : TypeId} {arr : Array Value} (h : blk W g t arr) : W.cell? ⟨g, o, none⟩ = arr[o]? := by
  unfold blk at h; simp [World.cell?, h]
theorem blk_free {W : World} {g o : Nat} {t : TypeId} {arr : Array Value} (h : blk W g t arr) : W.frozen? ⟨g, o, none⟩ = false := by
  unfold blk at h; simp [World.frozen?, h]
theorem blk_lt {W : World} {g : Nat} {t : TypeId} {arr : Array Value} (h : blk W g t arr) : g < W.heap.size := by
  rcases Nat.lt_or_ge g W.heap.size with q | q
  · exact q
  · unfold blk at h; rw [Array.getElem?_eq_none (by omega)] at h; cases h
theorem blk_set {W : World} {g o : Nat} {t : TypeId} {arr : Array Value} (h : blk W g t arr) (u : Value) : blk (W.setCell ⟨g, o, none⟩ u) g t (arr.setIfInBounds o u) := by
  unfold blk at h ⊢
  unfold World.setCell
  rw [Array.getElem?_modify, if_pos rfl, h]
  rfl
theorem blk_new (w : World) (c : Array Value) (t : TypeId) : blk (w.alloc (.cells c t)) w.heap.size t c := heap_alloc_new w _
theorem flat_len {X : Type} (f : X → List Value) (k : Nat) (hk : ∀ x, (f x).length = k) (l : List X) : (l.flatMap f).length = l.length * k := by
  induction l with
  | nil => simp
  | cons x t ih => rw [List.flatMap_cons, List.length_append, ih, hk, List.length_cons, Nat.add_mul]; omega
theorem flat_get {X : Type} (f : X → List Value) (k : Nat) (hk : ∀ x, (f x).length = k) : ∀ (l : List X) (i j : Nat) (h : i < l.length), j < k → (l.flatMap f)[i * k + j]? = (f l[i])[j]? := by
  intro l
  induction l with
  | nil => intro i j h; simp at h
  | cons x t ih =>
    intro i j h hj
    rw [List.flatMap_cons]
    cases i with
    | zero => rw [Nat.zero_mul, Nat.zero_add, List.getElem?_append_left (by rw [hk]; exact hj)]; rfl
    | succ i =>
      rw [List.getElem?_append_right (by rw [hk, Nat.add_mul]; omega), hk, show (i + 1) * k + j - k = i * k + j by rw [Nat.add_mul]; omega]
      exact ih i j (by simpa using h) hj
/-- What a row that was made holds, place by place. -/
theorem own_blk {w : World} {B s n : Nat} {t : TypeId} {v : Value} {xs : List Value} (h : w.ownsRow B t s v n xs) (hn : 0 < n) : ∃ g cap arr, v = .slice (some ⟨g, 0, none⟩) n cap ∧ B ≤ g ∧ blk w g t arr ∧ n ≤ cap ∧ cap ≤ maxLen ∧ ∀ j, j < n * s → arr[j]? = xs[j]? := by
  rcases h.2 with ⟨_, rfl⟩ | ⟨g, cap, cur, rfl, hB, hk, h1, h2, h3, h4⟩
  · omega
  · refine ⟨g, cap, cur, rfl, hB, hk, h1, h2, fun j hj => ?_⟩
    rw [← h4, List.getElem?_take_of_lt hj, Array.getElem?_toList]
theorem info_clr : (Tryz.prog.info? 51).map (fun i => (i.zero, i.size, i.bytes)) = some (some (.agg #[.string ⟨#[]⟩, .string ⟨#[]⟩]), 2, 32) := by kernel_rfl
theorem info_of_clr : ∃ i, Tryz.prog.info? 51 = some i ∧ i.zero = some (.agg #[.string ⟨#[]⟩, .string ⟨#[]⟩]) ∧ i.size = 2 ∧ i.bytes = 32 := by
  have h := info_clr
  cases hq : Tryz.prog.info? 51 with
  | none => rw [hq] at h; cases h
  | some i =>
    rw [hq] at h
    simp only [Option.map_some, Option.some.injEq, Prod.mk.injEq] at h
    exact ⟨i, rfl, h.1, h.2.1, h.2.2⟩
theorem info_cla : (Tryz.prog.info? 63).map (fun i => (i.zero, i.size, i.bytes)) = some (some (.agg #[.string ⟨#[]⟩, .string ⟨#[]⟩]), 2, 32) := by kernel_rfl
theorem info_of_cla : ∃ i, Tryz.prog.info? 63 = some i ∧ i.zero = some (.agg #[.string ⟨#[]⟩, .string ⟨#[]⟩]) ∧ i.size = 2 ∧ i.bytes = 32 := by
  have h := info_cla
  cases hq : Tryz.prog.info? 63 with
  | none => rw [hq] at h; cases h
  | some i =>
    rw [hq] at h
    simp only [Option.map_some, Option.some.injEq, Prod.mk.injEq] at h
    exact ⟨i, rfl, h.1, h.2.1, h.2.2⟩
theorem info_cls : (Tryz.prog.info? 44).map (fun i => (i.zero, i.size, i.bytes)) = some (some (.agg #[.int .i64 0, .string ⟨#[]⟩, .slice none 0 0, .slice none 0 0, .slice none 0 0]), 5, 96) := by kernel_rfl
theorem info_of_cls : ∃ i, Tryz.prog.info? 44 = some i ∧ i.zero = some (.agg #[.int .i64 0, .string ⟨#[]⟩, .slice none 0 0, .slice none 0 0, .slice none 0 0]) ∧ i.size = 5 ∧ i.bytes = 96 := by
  have h := info_cls
  cases hq : Tryz.prog.info? 44 with
  | none => rw [hq] at h; cases h
  | some i =>
    rw [hq] at h
    simp only [Option.map_some, Option.some.injEq, Prod.mk.injEq] at h
    exact ⟨i, rfl, h.1, h.2.1, h.2.2⟩
/-- A statement by its cells, what hangs on it as values. -/
structure Sv where
  s : St
  rv : Value
  av : Value
  bv : Value
def svC (x : Sv) : List Value := [.int .i64 x.s.kind, .string (bb x.s.name), x.rv, x.av, x.bv]
def svOk (w : World) (x : Sv) : Prop := x.s.name.length ≤ maxLen ∧ Prs w x.rv x.s.refs ∧ Prs w x.av x.s.attrs ∧ Sts w x.bv x.s.body
/-- Two worlds agree on the blocks from lo to hi. -/
def agree (lo hi : Nat) (w W : World) : Prop := ∀ q, lo ≤ q → q < hi → W.heap[q]? = w.heap[q]?
def selfP (lo : Nat) (w : World) (v : Value) (l : List Pr) : Prop := ∀ W, agree lo w.heap.size w W → Prs W v l
def selfL (lo : Nat) (w : World) (v : Value) (l : List St) : Prop := ∀ W, agree lo w.heap.size w W → Sts W v l
theorem agree.self (lo hi : Nat) (w : World) : agree lo hi w w := fun _ _ _ => rfl
/-- All old blocks but R stay, and what lies outside of memory. -/
structure Pk (R : Nat) (w w' : World) : Prop where
  os : w'.os = w.os
  tape : w'.tape = w.tape
  output : w'.output = w.output
  size : w.heap.size ≤ w'.heap.size
  block : ∀ q, q ≠ R → q < w.heap.size → w'.heap[q]? = w.heap[q]?
theorem Pk.refl (R : Nat) (w : World) : Pk R w w := ⟨rfl, rfl, rfl, Nat.le_refl _, fun _ _ _ => rfl⟩
theorem Pk.trans {R : Nat} {a b c : World} (h : Pk R a b) (k : Pk R b c) : Pk R a c :=
  ⟨k.os.trans h.os, k.tape.trans h.tape, k.output.trans h.output, Nat.le_trans h.size k.size, fun q h1 h2 => (k.block q h1 (Nat.lt_of_lt_of_le h2 h.size)).trans (h.block q h1 h2)⟩
theorem Pk.below {R : Nat} {a b : World} (h : Below a.heap.size a b) : Pk R a b := ⟨h.os, h.tape, h.output, h.size, fun q _ h2 => h.block q h2⟩
theorem Pk.belowR {R : Nat} {a b : World} (h : Below R a b) (hs : ∀ q, R < q → q < a.heap.size → b.heap[q]? = a.heap[q]?) : Pk R a b := ⟨h.os, h.tape, h.output, h.size, fun q h1 h2 => by
  rcases Nat.lt_or_ge q R with k | k
  · exact h.block q k
  · exact hs q (by omega) h2⟩
theorem Pk.set (R : Nat) (a : World) (o : Nat) (u : Value) : Pk R a (a.setCell ⟨R, o, none⟩ u) := ⟨rfl, rfl, rfl, by simp [World.setCell], fun q h1 _ => Below.heap_setCell _ _ _ _ h1⟩
theorem Pk.alloc {R : Nat} {a b : World} (h : Pk R a b) (o : Obj) : Pk R a (b.alloc o) := h.trans (Pk.below (al1 b o))
theorem Pk.drew {R : Nat} {a b : World} (h : Pk R a b) : Pk R a b.drew := h.trans ⟨rfl, rfl, rfl, Nat.le_refl _, fun _ _ _ => rfl⟩
theorem Pk.grown {R : Nat} {a b c : World} {row : Option Nat} (h : Pk R a b) (hg : b.grownBy c row) (hr : ∀ q, row = some q → a.heap.size ≤ q) : Pk R a c :=
  ⟨hg.os.trans h.os, hg.tape.trans h.tape, hg.output.trans h.output, Nat.le_trans h.size hg.size, fun q h1 h2 => (hg.block q (Nat.lt_of_lt_of_le h2 h.size) (fun e => by have := hr q e.symm; omega)).trans (h.block q h1 h2)⟩
/-- A store into a block that the call made. -/
theorem Pk.store {R : Nat} {a b : World} (h : Pk R a b) {g o : Nat} (hg : a.heap.size ≤ g) (u : Value) : Pk R a (b.setCell ⟨g, o, none⟩ u) :=
  ⟨h.os, h.tape, h.output, by simpa [World.setCell] using h.size, fun q h1 h2 => by rw [Below.heap_setCell _ _ _ _ (show q ≠ g by omega)]; exact h.block q h1 h2⟩
theorem Pk.cell {R : Nat} {a b : World} (h : Pk R a b) {g o : Nat} {v : Value} (hg : g ≠ R) (k : a.cell? ⟨g, o, none⟩ = some v) : b.cell? ⟨g, o, none⟩ = some v := by
  rw [World.cell?_of_block (w := a) (h.block g hg (World.block_lt_of_cell? a _ k))]; exact k
theorem Pk.blk {R : Nat} {a b : World} (h : Pk R a b) {g : Nat} {t : TypeId} {arr : Array Value} (hg : g ≠ R) (k : blk a g t arr) : blk b g t arr := by
  have := h.block g hg (blk_lt k)
  unfold par.blk at k ⊢; rw [this]; exact k
theorem Pk.own {R : Nat} {a b : World} (h : Pk R a b) {B s n : Nat} {t : TypeId} {v : Value} {xs : List Value} (hB : R < B) (k : a.ownsRow B t s v n xs) : b.ownsRow B t s v n xs := by
  obtain ⟨h1, h2⟩ := k
  refine ⟨h1, h2.imp id ?_⟩
  rintro ⟨g, cap, cur, rfl, hg, hc, h3⟩
  have hlt : g < a.heap.size := by
    rcases Nat.lt_or_ge g a.heap.size with h | h
    · exact h
    · rw [Array.getElem?_eq_none (by omega)] at hc; cases hc
  exact ⟨g, cap, cur, rfl, hg, by rw [h.block g (by omega) hlt]; exact hc, h3⟩
theorem agree_later {R lo lo' : Nat} {w w' W : World} (h : agree lo' w'.heap.size w' W) (hb : Pk R w w') (hz : R < lo) (hl : lo' ≤ lo) : agree lo w.heap.size w W := fun q h1 h2 => by
  rw [h q (by omega) (Nat.lt_of_lt_of_le h2 hb.size)]; exact hb.block q (by omega) h2
theorem selfP.later {R lo lo' : Nat} {w w' : World} {v : Value} {l : List Pr} (h : selfP lo w v l) (hb : Pk R w w') (hz : R < lo) (hl : lo' ≤ lo) : selfP lo' w' v l := fun W hW => h W (agree_later hW hb hz hl)
theorem selfL.later {R lo lo' : Nat} {w w' : World} {v : Value} {l : List St} (h : selfL lo w v l) (hb : Pk R w w') (hz : R < lo) (hl : lo' ≤ lo) : selfL lo' w' v l := fun W hW => h W (agree_later hW hb hz hl)
theorem selfP.nil (lo : Nat) (w : World) : selfP lo w (.slice none 0 0) [] := fun W _ => Prs.nil W
theorem selfL.nil (lo : Nat) (w : World) : selfL lo w (.slice none 0 0) [] := fun W _ => Sts.nil W
theorem selfP.form {lo : Nat} {w : World} {v : Value} {l : List Pr} (h : selfP lo w v l) : ∃ ao cap, v = .slice ao l.length cap := by
  obtain ⟨ao, cap, e, _⟩ := h w (agree.self _ _ _); exact ⟨ao, cap, e⟩
theorem selfL.form {lo : Nat} {w : World} {v : Value} {l : List St} (h : selfL lo w v l) : ∃ ao cap, v = .slice ao l.length cap := by
  obtain ⟨ao, cap, e, _⟩ := h w (agree.self _ _ _); exact ⟨ao, cap, e⟩
theorem own_form {w : World} {B s n : Nat} {t : TypeId} {v : Value} {xs : List Value} (h : w.ownsRow B t s v n xs) : ∃ ao cap, v = .slice ao n cap ∧ n ≤ cap ∧ cap ≤ maxLen := by
  rcases h.2 with ⟨rfl, rfl⟩ | ⟨g, cap, cur, rfl, _, _, h1, h2, _⟩
  · exact ⟨_, 0, rfl, Nat.le_refl _, by decide⟩
  · exact ⟨_, cap, rfl, h1, h2⟩
theorem own_selfP {w : World} {B lo : Nat} {t : TypeId} {v : Value} {l : List Pr} (h : w.ownsRow B t 2 v l.length (l.flatMap prC)) (hB : lo ≤ B) (hl : ∀ r ∈ l, r.1.length ≤ maxLen ∧ r.2.length ≤ maxLen) : selfP lo w v l := by
  intro W hW
  by_cases h0 : l.length = 0
  · obtain ⟨ao, cap, rfl, h1, h2⟩ := own_form h
    exact ⟨ao, cap, rfl, h1, h2, fun hn => by omega⟩
  · obtain ⟨g, cap, arr, rfl, hB', hk, h1, h2, h3⟩ := own_blk h (by omega)
    have hkW : blk W g t arr := by unfold blk at hk ⊢; rw [hW g (by omega) (blk_lt hk)]; exact hk
    refine ⟨_, cap, rfl, h1, h2, fun _ => ⟨_, rfl, fun i hi => ?_⟩⟩
    have e0 := flat_get prC 2 (fun _ => rfl) l i 0 hi (by decide)
    have e1 := flat_get prC 2 (fun _ => rfl) l i 1 hi (by decide)
    obtain ⟨p2, p3⟩ := hl l[i] (List.getElem_mem hi)
    refine ⟨?_, ?_, p2, p3⟩
    · rw [add_at, Nat.zero_add, blk_cell hkW, ← Nat.add_zero (i * 2), h3 _ (by omega)]; exact e0
    · rw [add_at]
      show W.cell? ⟨g, 0 + i * 2 + 1, none⟩ = _
      rw [Nat.zero_add, blk_cell hkW, h3 _ (by omega)]; exact e1
/-- An element of the row that is being made: what hangs on it lies in an interval that the row does not lie in. -/
def elS (lo0 : Nat) (w : World) (ob : Option Nat) (x : Sv) : Prop := ∃ lo hi, lo0 ≤ lo ∧ hi ≤ w.heap.size ∧ (∀ q, ob = some q → ¬ (lo ≤ q ∧ q < hi)) ∧ ∀ W, agree lo hi w W → svOk W x
theorem elS.later {R lo0 : Nat} {w w' : World} {ob : Option Nat} {x : Sv} (h : elS lo0 w ob x) (hb : Pk R w w') (hR : R < lo0) : elS lo0 w' ob x := by
  obtain ⟨lo, hi, h1, h2, h3, h4⟩ := h
  refine ⟨lo, hi, h1, Nat.le_trans h2 hb.size, h3, fun W hW => h4 W (fun q q1 q2 => ?_)⟩
  rw [hW q q1 q2]; exact hb.block q (by omega) (by omega)
theorem elS.app {lo0 : Nat} {w w' : World} {ob : Option Nat} {g : Nat} {x : Sv} (h : elS lo0 w ob x) (hg : w.grownBy w' ob) (hat : ob = some g ∨ w.heap.size ≤ g) (hsz : w.heap.size ≤ w'.heap.size) : elS lo0 w' (some g) x := by
  obtain ⟨lo, hi, h1, h2, h3, h4⟩ := h
  refine ⟨lo, hi, h1, Nat.le_trans h2 hsz, fun q hq e => ?_, fun W hW => h4 W (fun q q1 q2 => ?_)⟩
  · have hq := Option.some.inj hq
    rcases hat with hat | hat
    · exact h3 g hat (by omega)
    · omega
  · rw [hW q q1 q2]
    exact hg.block q (by omega) (fun e => h3 q e.symm ⟨q1, q2⟩)
theorem svC_len (x : Sv) : (svC x).length = 5 := rfl
/-- The row that was made, as a list of statements. -/
theorem row_selfL {w : World} {B lo0 : Nat} {v : Value} {D : List Sv} {ob : Option Nat} (h : w.ownsRow B 44 5 v D.length (D.flatMap svC)) (hB : lo0 ≤ B) (hD : ∀ x ∈ D, elS lo0 w ob x) : selfL lo0 w v (D.map Sv.s) := by
  intro W hW
  by_cases h0 : D.length = 0
  · obtain ⟨ao, cap, rfl, h1, h2⟩ := own_form h
    exact ⟨ao, cap, by rw [List.length_map], by rw [List.length_map]; exact h1, h2, fun hn => by rw [List.length_map] at hn; omega⟩
  · obtain ⟨g, cap, arr, rfl, hBg, hk, h1, h2, h3⟩ := own_blk h (by omega)
    have hkW : blk W g 44 arr := by unfold blk at hk ⊢; rw [hW g (by omega) (blk_lt hk)]; exact hk
    refine ⟨_, cap, by rw [List.length_map], by rw [List.length_map]; exact h1, h2, fun _ => ⟨_, rfl, stsAt_of fun j hj => ?_⟩⟩
    have hj' : j < D.length := by simpa using hj
    obtain ⟨lo, hi, q1, q2, _, q4⟩ := hD D[j] (List.getElem_mem hj')
    obtain ⟨hn, hr, ha, hb⟩ := q4 W (fun q e1 e2 => hW q (by omega) (by omega))
    have hc : ∀ i, i < 5 → arr[j * 5 + i]? = (svC D[j])[i]? := fun i hi' => by rw [h3 _ (by omega)]; exact flat_get svC 5 svC_len D j i hj' hi'
    have hs : (D.map Sv.s)[j] = D[j].s := by rw [List.getElem_map]
    rw [hs, Nat.zero_add, add_at, Nat.zero_add]
    refine (stAt_eq _ _ _).2 ⟨?_, ?_, hn, ⟨_, ?_, hr⟩, ⟨_, ?_, ha⟩, _, ?_, hb⟩
    · rw [blk_cell hkW, ← Nat.add_zero (j * 5), hc 0 (by omega)]; rfl
    · show W.cell? ⟨g, j * 5 + 1, none⟩ = _; rw [blk_cell hkW, hc 1 (by omega)]; rfl
    · show W.cell? ⟨g, j * 5 + 2, none⟩ = _; rw [blk_cell hkW, hc 2 (by omega)]; rfl
    · show W.cell? ⟨g, j * 5 + 3, none⟩ = _; rw [blk_cell hkW, hc 3 (by omega)]; rfl
    · show W.cell? ⟨g, j * 5 + 4, none⟩ = _; rw [blk_cell hkW, hc 4 (by omega)]; rfl
/-- One pair more in a row of pairs: refs, attributes. -/
theorem app_pr {w : World} {ops : Array Oper} {rest : List Oper} {o : Oper} {a : Act} {Q : Exit → Act → World → Prop} {T E : TypeId} (hT : Tryz.prog.underlying T = some (.slice E)) (hE : ∃ i, Tryz.prog.info? E = some i ∧ i.zero = some (.agg #[.string ⟨#[]⟩, .string ⟨#[]⟩]) ∧ i.size = 2 ∧ i.bytes = 32)
    (hg : o.guard = none) (p y : Operand) (ho : o.op = .call { callee := .builtin .append, args := #[p, y], argTypes := #[T, T] })
    (B : Nat) (v : Value) (l : List Pr) (x : Pr) (H : Nat) (hH : w.heap.size = H) (hs : a.eval p = v) (hx : a.eval y = .slice (some ⟨H, 0, none⟩) 1 1) (h : Hid (w.ownsRow B E 2 v l.length (l.flatMap prC))) (hl : l.length ≤ 1000000) (hB : B ≤ w.heap.size)
    (hK : ∀ ao cap w', w'.ownsRow B E 2 (.slice ao (l.length + 1) cap) (l ++ [x]).length ((l ++ [x]).flatMap prC) → w.grownBy w' v.ownBlock → wpList Tryz.prog ops Q rest (a.put o.dst (.slice ao (l.length + 1) cap)) w') : wpList Tryz.prog ops Q (o :: rest) a (w.alloc (.cells #[.string (bb x.1), .string (bb x.2)] E)) := by
  subst hH
  obtain ⟨i0, hi, hz0, hz1, hz2⟩ := hE
  refine wpList_append_own _ hg p y T ho B E i0 _ 2 32 hT hi hz0 hz1 hz2 rfl (by decide) v l.length _ hs (World.ownsRow.alloc h.out _) ⟨w.heap.size, 0, none⟩ 1 1 [.string (bb x.1), .string (bb x.2)] hx rfl ?_ (by simp [Value.oneCell']) (by unfold maxLen; omega) (by omega) (by simp; omega) ?_
  · intro j u hj
    rw [add_at, Nat.zero_add, blk_cell (blk_new w #[.string (bb x.1), .string (bb x.2)] E), ← hj]
    simp
  · intro v' w' hown hgrow _
    obtain ⟨ao, cap, rfl, _, _⟩ := own_form hown
    refine hK ao cap w' ?_ ?_
    · rw [List.length_append, List.flatMap_append]; exact hown
    · refine ⟨hgrow.os, hgrow.tape, hgrow.output, Nat.le_trans (by simp) hgrow.size, fun k hk hne => ?_⟩
      rw [hgrow.block k (by simp; omega) hne, heap_alloc_old w _ hk]
/-- One statement more in a row of statements. -/
theorem app_st {w : World} {ops : Array Oper} {rest : List Oper} {o : Oper} {a : Act} {Q : Exit → Act → World → Prop} (hg : o.guard = none) (p y : Operand) (ho : o.op = .call { callee := .builtin .append, args := #[p, y], argTypes := #[22, 22] })
    (B : Nat) (v : Value) (D : List Sv) (x : Sv) (k : Int) (n : ByteArray) (rv av bv : Value) (ex : svC x = [.int .i64 k, .string n, rv, av, bv]) (H : Nat) (hH : w.heap.size = H) (hs : a.eval p = v) (hx : a.eval y = .slice (some ⟨H, 0, none⟩) 1 1) (h : Hid (w.ownsRow B 44 5 v D.length (D.flatMap svC))) (hl : D.length ≤ 1000000) (hB : B ≤ w.heap.size)
    (h1 : rv.oneCell' = true ∧ av.oneCell' = true ∧ bv.oneCell' = true)
    (hK : ∀ g cap w', w'.ownsRow B 44 5 (.slice (some ⟨g, 0, none⟩) (D.length + 1) cap) (D ++ [x]).length ((D ++ [x]).flatMap svC) → w.grownBy w' v.ownBlock → (v.ownBlock = some g ∨ w.heap.size ≤ g) → wpList Tryz.prog ops Q rest (a.put o.dst (.slice (some ⟨g, 0, none⟩) (D.length + 1) cap)) w') : wpList Tryz.prog ops Q (o :: rest) a (w.alloc (.cells #[.int .i64 k, .string n, rv, av, bv] 44)) := by
  subst hH
  obtain ⟨i0, hi, hz0, hz1, hz2⟩ := info_of_cls
  refine wpList_append_lies _ hg p y 22 ho B 44 i0 _ 5 96 Tryz.underlying22 hi hz0 hz1 hz2 rfl (by decide) v D.length _ hs (World.ownsRow.alloc h.out _) ⟨w.heap.size, 0, none⟩ 1 1 [.int .i64 k, .string n, rv, av, bv] hx rfl ?_ (by simp [Value.oneCell']; exact h1) (by decide) (by unfold maxLen; omega) (by omega) (by simp; omega) (w.heap.size + 1) (by simp) ?_
  · intro j u hj
    rw [add_at, Nat.zero_add, blk_cell (blk_new w #[.int .i64 k, .string n, rv, av, bv] 44), ← hj]
    simp
  · intro g cap w' hown hgrow hat _
    refine hK g cap w' ?_ ?_ (hat.imp id (fun e => by omega))
    · rw [List.length_append, List.flatMap_append, List.flatMap_cons, List.flatMap_nil, List.append_nil, ex]; exact hown
    · refine ⟨hgrow.os, hgrow.tape, hgrow.output, Nat.le_trans (by simp) hgrow.size, fun k hk hne => ?_⟩
      rw [hgrow.block k (by simp; omega) hne, heap_alloc_old w _ hk]
end Go.Proofs.YtgccheiemnpaoaaGreatDoor.par
namespace Go.Proofs.YtgccheiemnpaoaaGreatDoor.par
open Go.RowKit lex tre prt

/-- What a source's tokens are like. -/
def TokL (L : List Tok) : Prop := L.length ≤ 16384 ∧ ∀ t ∈ L, t.text.length ≤ 16384 ∧ -9223372036854775808 ≤ t.num ∧ t.num ≤ 9223372036854775807 ∧ (t.kind = 2 → isKw t.text = true) ∧ (t.kind = 5 → isMk t.text = true)
def lastLn (p : List Tok) : Int := match p.getLast? with
  | some t => t.line
  | none => 1
/-- The reader in block R: the tokens that are left, its arrow, its level; all tokens are L. -/
def Rd (L : List Tok) (R : Nat) (w : World) (l : List Tok) (A : ByteArray) (lev : Int) : Prop :=
  ∃ ao cap ln, blk w R 70 #[.slice ao l.length cap, .int .i64 ln, .string A, .int .i64 lev] ∧ (∀ W, agree 0 R w W → Tl W (.slice ao l.length cap) l ∧ Tab W) ∧ ∃ p, L = p ++ l ∧ lastLn p = ln
/-- What is panicked with. -/
def pan (n e : Int) : List PanicEntry := [{ v := .iface 54 (.agg #[.int .i64 n, .int .i64 e]), recovered := false }]
theorem Rd.lt {L : List Tok} {R : Nat} {w : World} {l : List Tok} {A : ByteArray} {lev : Int} (h : Rd L R w l A lev) : R < w.heap.size := by
  obtain ⟨_, _, _, h, _⟩ := h; exact blk_lt h
theorem Rd.keep {L : List Tok} {R : Nat} {w w' : World} {l : List Tok} {A : ByteArray} {lev : Int} (h : Rd L R w l A lev) (hb : ∀ q, q ≤ R → w'.heap[q]? = w.heap[q]?) : Rd L R w' l A lev := by
  obtain ⟨ao, cap, ln, h1, h2, h3⟩ := h
  exact ⟨ao, cap, ln, by unfold blk at h1 ⊢; rw [hb R (Nat.le_refl _)]; exact h1, fun W hW => h2 W (fun q _ q2 => by rw [hW q (Nat.zero_le _) q2, hb q (Nat.le_of_lt q2)]), h3⟩
theorem Rd.below {L : List Tok} {R : Nat} {w w' : World} {l : List Tok} {A : ByteArray} {lev : Int} (h : Rd L R w l A lev) (hb : Below w.heap.size w w') : Rd L R w' l A lev := by
  have := h.lt
  exact h.keep (fun q hq => hb.block q (by omega))
theorem Rd.alloc {L : List Tok} {R : Nat} {w : World} {l : List Tok} {A : ByteArray} {lev : Int} (h : Rd L R w l A lev) (o : Obj) : Rd L R (w.alloc o) l A lev := h.below (al1 w o)
theorem Rd.drew {L : List Tok} {R : Nat} {w : World} {l : List Tok} {A : ByteArray} {lev : Int} (h : Rd L R w l A lev) : Rd L R w.drew l A lev := h
theorem Rd.store {L : List Tok} {R : Nat} {w : World} {l : List Tok} {A : ByteArray} {lev : Int} (h : Rd L R w l A lev) {g o : Nat} (hg : R < g) (u : Value) : Rd L R (w.setCell ⟨g, o, none⟩ u) l A lev :=
  h.keep (fun q hq => Below.heap_setCell _ _ _ _ (show q ≠ g by omega))
theorem Rd.grown {L : List Tok} {R : Nat} {w w' : World} {l : List Tok} {A : ByteArray} {lev : Int} {row : Option Nat} (h : Rd L R w l A lev) (hg : w.grownBy w' row) (hr : ∀ q, row = some q → R < q) : Rd L R w' l A lev := by
  have := h.lt
  exact h.keep (fun q hq => hg.block q (by omega) (fun e => by have := hr q e.symm; omega))
/-- Another arrow, another level. -/
theorem Rd.arr {L : List Tok} {R : Nat} {w : World} {l : List Tok} {A : ByteArray} {lev : Int} (h : Rd L R w l A lev) (A' : ByteArray) : Rd L R (w.setCell ⟨R, 2, none⟩ (.string A')) l A' lev := by
  obtain ⟨ao, cap, ln, h1, h2, h3⟩ := h
  refine ⟨ao, cap, ln, by have := blk_set (o := 2) h1 (.string A'); simpa using this, fun W hW => h2 W (fun q q1 q2 => ?_), h3⟩
  rw [hW q q1 q2]; exact Below.heap_setCell _ _ _ _ (show q ≠ R by omega)
theorem Rd.lvl {L : List Tok} {R : Nat} {w : World} {l : List Tok} {A : ByteArray} {lev : Int} (h : Rd L R w l A lev) (lev' : Int) : Rd L R (w.setCell ⟨R, 3, none⟩ (.int .i64 lev')) l A lev' := by
  obtain ⟨ao, cap, ln, h1, h2, h3⟩ := h
  refine ⟨ao, cap, ln, by have := blk_set (o := 3) h1 (.int .i64 lev'); simpa using this, fun W hW => h2 W (fun q q1 q2 => ?_), h3⟩
  rw [hW q q1 q2]; exact Below.heap_setCell _ _ _ _ (show q ≠ R by omega)
/-- The cells of the reader. -/
theorem Rd.cells {L : List Tok} {R : Nat} {w : World} {l : List Tok} {A : ByteArray} {lev : Int} (h : Rd L R w l A lev) : w.cell? ⟨R, 2, none⟩ = some (.string A) ∧ w.cell? ⟨R, 3, none⟩ = some (.int .i64 lev) ∧ w.frozen? ⟨R, 2, none⟩ = false ∧ w.frozen? ⟨R, 3, none⟩ = false := by
  obtain ⟨ao, cap, ln, h1, _⟩ := h
  exact ⟨by rw [blk_cell h1]; rfl, by rw [blk_cell h1]; rfl, blk_free h1, blk_free h1⟩
theorem lineOf_nil (p : List Tok) : lineOf (p ++ []) [] = lastLn p := by
  rw [List.append_nil]; rfl
theorem Rd.tab {L : List Tok} {R : Nat} {w : World} {l : List Tok} {A : ByteArray} {lev : Int} (h : Rd L R w l A lev) : Tab w := by
  obtain ⟨_, _, _, _, h2, _⟩ := h; exact (h2 w (agree.self _ _ _)).2
theorem Rd.suf {L : List Tok} {R : Nat} {w : World} {l : List Tok} {A : ByteArray} {lev : Int} (h : Rd L R w l A lev) : l <:+ L := by
  obtain ⟨_, _, _, _, _, p, e, _⟩ := h; exact ⟨p, e.symm⟩
theorem Rd.tok {L : List Tok} {R : Nat} {w : World} {l : List Tok} {A : ByteArray} {lev : Int} (h : Rd L R w l A lev) (hL : TokL L) {t : Tok} (ht : t ∈ l) : t.text.length ≤ 16384 ∧ -9223372036854775808 ≤ t.num ∧ t.num ≤ 9223372036854775807 ∧ (t.kind = 2 → isKw t.text = true) ∧ (t.kind = 5 → isMk t.text = true) := hL.2 t (h.suf.mem ht)
/-- What peek hands over. -/
def topT (ln : Int) : List Tok → Tok
  | [] => ⟨0, [], 0, ln⟩
  | t :: _ => t
theorem top_line {L p l : List Tok} {ln : Int} (h : L = p ++ l) (hl : lastLn p = ln) : (topT ln l).line = lineOf L l := by
  subst h
  cases l with
  | nil => rw [lineOf_nil]; exact hl.symm
  | cons t r => rfl
/-- Facts of a reader in which a walk reads. -/
theorem Rd.open {L : List Tok} {R : Nat} {w : World} {l : List Tok} {A : ByteArray} {lev : Int} (h : Rd L R w l A lev) : ∃ ao cap ln, w.cell? ⟨R, 0, none⟩ = some (.slice ao l.length cap) ∧ w.cell? ⟨R, 1, none⟩ = some (.int .i64 ln) ∧ w.frozen? ⟨R, 0, none⟩ = false ∧ w.frozen? ⟨R, 1, none⟩ = false ∧
    (topT ln l).line = lineOf L l ∧ l.length ≤ cap ∧ ∀ t r, l = t :: r → ∃ A0, ao = some A0 ∧ w.cell? A0 = some (.int .i64 t.kind) ∧ w.cell? ⟨A0.block, A0.off + 1, none⟩ = some (.string (bb t.text)) ∧ w.cell? ⟨A0.block, A0.off + 2, none⟩ = some (.int .i64 t.num) ∧ w.cell? ⟨A0.block, A0.off + 3, none⟩ = some (.int .i64 t.line) ∧ A0.block ≠ R := by
  obtain ⟨ao, cap, ln, h1, h2, p, h3, h4⟩ := h
  refine ⟨ao, cap, ln, by rw [blk_cell h1]; rfl, by rw [blk_cell h1]; rfl, blk_free h1, blk_free h1, top_line h3 h4, ?_, ?_⟩
  · obtain ⟨ao', cap', e, hc, _⟩ := (h2 w (agree.self _ _ _)).1
    cases e; exact hc
  rintro t r rfl
  obtain ⟨A0, rfl, _, c0, c1, c2, c3⟩ := (h2 w (agree.self _ _ _)).1.at' (i := 0) (by simp)
  have e0 : A0.add (0 * 4) = A0 := by unfold Addr.add; rfl
  rw [e0] at c0 c1 c2 c3
  refine ⟨A0, rfl, c0, c1, c2, c3, fun hb => ?_⟩
  have hT := (h2 { w with heap := w.heap.setIfInBounds R (.cells #[] 0 (0, 0)) } (fun q _ hq => by
    show (w.heap.setIfInBounds R _)[q]? = _
    rw [Array.getElem?_setIfInBounds, if_neg (by omega)])).1.at' (i := 0) (by simp)
  obtain ⟨A1, eA, _, d0, _⟩ := hT
  cases eA
  rw [e0] at d0
  have hlt := blk_lt h1
  unfold World.cell? at d0
  simp only [hb, Array.getElem?_setIfInBounds, if_pos hlt, if_true] at d0
  split at d0 <;> simp at d0
end Go.Proofs.YtgccheiemnpaoaaGreatDoor.par
namespace Go.Proofs.YtgccheiemnpaoaaGreatDoor.par
open Go.RowKit lex tre prt

abbrev tokV (t : Tok) : Value := .agg #[.int .i64 t.kind, .string (bb t.text), .int .i64 t.num, .int .i64 t.line]
/-- The token that peek hands over. -/
def topL (L l : List Tok) : Tok := match l with
  | [] => ⟨0, [], 0, lineOf L []⟩
  | t :: _ => t
theorem topL_line (L l : List Tok) : (topL L l).line = lineOf L l := by cases l <;> rfl
theorem peek_nil (L : List Tok) (R : Nat) (A : ByteArray) (lev : Int) (w : World) (h : Hid (Rd L R w [] A lev)) :
    Calls Tryz.prog 47 #[.pointer (some ⟨R, 0, none⟩)] w fun e w' => e = .returned (tokV (topL L [])) ∧ Below w.heap.size w w' := by
  obtain ⟨ao, cap, ln, c0, c1, f0, f1, e1, _, _⟩ := h.out.open
  have hR := h.out.lt
  have hne : R ≠ w.heap.size := by omega
  rw [show (topT ln []).line = ln from rfl] at e1
  go_enter Tryz.func47, Tryz.ntmps47
  go_wp2
  refine bodyPost_ret (v := tokV (topL L [])) (by simp [results, Tryz.results47, go_sem, topL]) rfl ?_
  exact ⟨rfl, al1 w _⟩
theorem peek_cons (L : List Tok) (R : Nat) (t : Tok) (r : List Tok) (A : ByteArray) (lev : Int) (w : World) (h : Hid (Rd L R w (t :: r) A lev)) :
    Calls Tryz.prog 47 #[.pointer (some ⟨R, 0, none⟩)] w fun e w' => e = .returned (tokV t) ∧ Below w.heap.size w w' := by
  obtain ⟨ao, cap, ln, c0, c1, f0, f1, e1, hcap, hc⟩ := h.out.open
  obtain ⟨A0, rfl, a0, a1, a2, a3, hb⟩ := hc t r rfl
  have hR := h.out.lt
  have hne : R ≠ w.heap.size := by omega
  have hA := World.block_lt_of_cell? w _ a0
  have hA2 : A0.block ≠ w.heap.size := by omega
  have z1 : (0 : Int) < ((t :: r).length : Int) := by simp
  have z2 : ((((t :: r).length : Nat) : Int) == 0) = false := by rw [beq_eq_false_iff_ne]; omega
  obtain ⟨k, n, m, j⟩ := t
  have eA : A0.add 0 = A0 := by unfold Addr.add; rfl
  generalize (Tok.mk k n m j :: r).length = len at c0 z1 z2
  clear hc e1
  go_enter Tryz.func47, Tryz.ntmps47
  go_wp2
  refine bodyPost_ret (v := tokV ⟨k, n, m, j⟩) (by simp [results, Tryz.results47, go_sem]) rfl ?_
  exact ⟨rfl, al1 w _⟩
theorem Tl_tail {W : World} {A0 : Addr} {cap cap' : Nat} {ao' : Addr} {t : Tok} {r : List Tok} (h : Tl W (.slice (some A0) (t :: r).length cap) (t :: r)) (hh : (cap = 1 ∧ cap' = 0) ∨ (ao' = ⟨A0.block, A0.off + 4, none⟩ ∧ cap' = cap - 1)) : Tl W (.slice (some ao') r.length cap') r := by
  have hc : (t :: r).length ≤ cap := by obtain ⟨ao, cap, e, h1, _⟩ := h; cases e; exact h1
  rw [List.length_cons] at hc
  refine ⟨some ao', cap', rfl, by omega, fun hn => ⟨ao', rfl, fun i hi => ?_⟩⟩
  rcases hh with ⟨h1, _⟩ | ⟨rfl, _⟩
  · omega
  obtain ⟨A1, eA, _, h0⟩ := h.at' (i := 0) (by simp)
  obtain ⟨A2, eA2, _, c0, c1, c2, c3⟩ := h.at' (i := i + 1) (by simp; omega)
  cases eA; cases eA2
  have hs := spot_none h0.1
  rw [show A0.add (0 * 4) = A0 by unfold Addr.add; rfl] at hs
  obtain ⟨b, o, q⟩ := A0
  simp only [Addr.mk.injEq, true_and] at hs
  subst hs
  rw [add_at] at c0 c1 c2 c3 ⊢
  have e1 : o + (i + 1) * 4 = o + 4 + i * 4 := by omega
  rw [tokAt_succ] at c0 c1 c2 c3
  rw [e1] at c0 c1 c2 c3
  exact ⟨c0, c1, c2, c3⟩
theorem lastLn_snoc (p : List Tok) (t : Tok) : lastLn (p ++ [t]) = t.line := by unfold lastLn; simp
theorem Rd.skip {L : List Tok} {R : Nat} {w : World} {t : Tok} {r : List Tok} {A : ByteArray} {lev : Int} (h : Rd L R w (t :: r) A lev) {A0 ao' : Addr} {cap cap' : Nat} (c0 : w.cell? ⟨R, 0, none⟩ = some (.slice (some A0) (t :: r).length cap)) (hh : (cap = 1 ∧ cap' = 0) ∨ (ao' = ⟨A0.block, A0.off + 4, none⟩ ∧ cap' = cap - 1)) :
    Rd L R ((w.setCell ⟨R, 1, none⟩ (.int .i64 t.line)).setCell ⟨R, 0, none⟩ (.slice (some ao') r.length cap')) r A lev := by
  obtain ⟨ao, cp, ln, h1, h2, p, h3, h4⟩ := h
  have e : w.cell? ⟨R, 0, none⟩ = some (.slice ao (t :: r).length cp) := by rw [blk_cell h1]; rfl
  rw [c0] at e
  cases e
  refine ⟨_, cap', t.line, ?_, fun W hW => ⟨Tl_tail (h2 W (fun q q1 q2 => ?_)).1 hh, (h2 W (fun q q1 q2 => ?_)).2⟩, p ++ [t], by rw [h3]; simp, lastLn_snoc p t⟩
  · have := blk_set (o := 0) (blk_set (o := 1) h1 (.int .i64 t.line)) (.slice (some ao') r.length cap')
    simpa using this
  all_goals rw [hW q q1 q2, Below.heap_setCell _ _ _ _ (show q ≠ R by omega), Below.heap_setCell _ _ _ _ (show q ≠ R by omega)]
theorem skip_cons (L : List Tok) (R : Nat) (t : Tok) (r : List Tok) (A : ByteArray) (lev : Int) (w : World) (HR : Hid (Rd L R w (t :: r) A lev)) :
    Calls Tryz.prog 46 #[.pointer (some ⟨R, 0, none⟩)] w fun e w' => e = .returned (.tuple #[]) ∧ Rd L R w' r A lev ∧ Pk R w w' := by
  obtain ⟨ao, cap, ln, c0, c1, f0, f1, e1, hcap, hc⟩ := HR.out.open
  obtain ⟨A0, rfl, a0, a1, a2, a3, hb⟩ := hc t r rfl
  have hR := HR.out.lt
  have hl : (t :: r).length = r.length + 1 := rfl
  have C0 := Lib.hid c0
  rw [hl] at c0 hcap
  have z1 : (0 : Int) < ((r.length + 1 : Nat) : Int) := by omega
  have eA : A0.add 0 = A0 := by unfold Addr.add; rfl
  have z3 : (1 : Int) ≤ ((r.length + 1 : Nat) : Int) := by omega
  have z4 : ((r.length + 1 : Nat) : Int) ≤ (cap : Int) := by omega
  clear hc e1 hl
  go_enter Tryz.func46, Tryz.ntmps46
  go_wp2
  · go_end0
    exact ⟨rfl, Rd.skip HR.out C0.out (Or.inl ⟨h, rfl⟩), (Pk.set R w 1 _).trans (Pk.set R _ 0 _)⟩
  · go_end0
    exact ⟨rfl, Rd.skip HR.out C0.out (Or.inr ⟨rfl, rfl⟩), (Pk.set R w 1 _).trans (Pk.set R _ 0 _)⟩
theorem peek_of (L : List Tok) (R : Nat) (l : List Tok) (A : ByteArray) (lev : Int) (k m ln : Int) (n : List UInt8) (w : World) (h : Hid (Rd L R w l A lev)) (hT : Hid (topL L l = ⟨k, n, m, ln⟩)) :
    Calls Tryz.prog 47 #[.pointer (some ⟨R, 0, none⟩)] w fun e w' => e = .returned (.agg #[.int .i64 k, .string (bb n), .int .i64 m, .int .i64 ln]) ∧ Below w.heap.size w w' := by
  have := hT.out
  cases l with
  | nil => have q := peek_nil L R A lev w h; rw [this] at q; exact q
  | cons t r => have q := peek_cons L R t r A lev w h; rw [show t = ⟨k, n, m, ln⟩ from this] at q; exact q
theorem topL_ex (L l : List Tok) : ∃ k m n, topL L l = ⟨k, n, m, lineOf L l⟩ := by
  have := topL_line L l
  cases hq : topL L l with
  | mk a b c d => rw [hq] at this; exact ⟨a, c, b, by rw [← this]⟩
set_option maxRecDepth 100000 in
theorem here_of (L : List Tok) (R : Nat) (l : List Tok) (A : ByteArray) (lev e0 ln : Int) (w : World) (h : Hid (Rd L R w l A lev)) (hln : Hid (lineOf L l = ln)) :
    Calls Tryz.prog 37 #[.pointer (some ⟨R, 0, none⟩), .int .i64 e0] w fun e w' => e = .returned (.agg #[.int .i64 ln, .int .i64 e0]) ∧ Below w.heap.size w w' := by
  obtain ⟨k, m, n, hT⟩ := topL_ex L l
  rw [hln.out] at hT
  have HT := Lib.hid hT
  obtain ⟨N, hN⟩ : ∃ N, bb n = N := ⟨_, rfl⟩
  have HP := Lib.hid (peek_of L R l A lev k m ln n _ (Lib.hid (h.out.alloc (.cells #[.int .i64 0, .int .i64 0] 54))) HT)
  rw [hN] at HP
  have hfd : ∀ W, (Instr.field 81 (.agg #[.int .i64 k, .string N, .int .i64 m, .int .i64 ln]) 3).run Tryz.prog W = .ok (.int .i64 ln) W := fun W => by kernel_rfl
  clear hT hN
  go_enter Tryz.func37, Tryz.ntmps37
  go_wp2_with fail
  refine HP.out.mono ?_
  rintro e w1 ⟨rfl, hb⟩
  have HB := Lib.hid (below_keep hb (al1 w _))
  have hk := blk_new w #[.int .i64 0, .int .i64 0] 54
  have hk1 : blk w1 w.heap.size 54 #[.int .i64 0, .int .i64 0] := by unfold blk at hk ⊢; rw [hb.block _ (by simp)]; exact hk
  have b0 : w1.cell? ⟨w.heap.size, 0, none⟩ = some (.int .i64 0) := by rw [blk_cell hk1]; rfl
  have b1 : w1.cell? ⟨w.heap.size, 1, none⟩ = some (.int .i64 0) := by rw [blk_cell hk1]; rfl
  have g0 : w1.frozen? ⟨w.heap.size, 0, none⟩ = false := blk_free hk1
  have g1 : w1.frozen? ⟨w.heap.size, 1, none⟩ = false := blk_free hk1
  clear hk hk1 hb
  go_wp2
  refine bodyPost_ret (v := .agg #[.int .i64 ln, .int .i64 e0]) (by simp [results, Tryz.results37, go_sem, b0, b1]) rfl ?_
  exact ⟨rfl, (HB.out.setCell (p := ⟨w.heap.size, 0, none⟩) (Nat.le_refl _) _).setCell (p := ⟨w.heap.size, 1, none⟩) (Nat.le_refl _) _⟩
/-- Whether the next token is a keyword or mark of this text. -/
def seesL (c : List UInt8) : List Tok → Bool
  | [] => false
  | t :: _ => (decide (t.kind = 2) || decide (t.kind = 5)) && decide (t.text = c)
theorem sees_top (L l : List Tok) {k m ln : Int} {n : List UInt8} (c : List UInt8) (h : topL L l = ⟨k, n, m, ln⟩) : seesL c l = ((decide (k = 2) || decide (k = 5)) && decide (n = c)) := by
  cases l with
  | nil => cases h; rfl
  | cons t r => rw [show t = ⟨k, n, m, ln⟩ from h]; rfl
theorem bb_eq (n c : List UInt8) : ((bb n).toList == (bb c).toList) = decide (n = c) := by
  rw [ByteArray.toList_eq, ByteArray.toList_eq, Bool.eq_iff_iff]; simp
set_option maxRecDepth 100000 in
theorem sees_of (L : List Tok) (R : Nat) (l : List Tok) (A : ByteArray) (lev : Int) (c : List UInt8) (b : Bool) (w : World) (h : Hid (Rd L R w l A lev)) (hb : Hid (seesL c l = b)) :
    Calls Tryz.prog 45 #[.pointer (some ⟨R, 0, none⟩), .string (bb c)] w fun e w' => e = .returned (.bool b) ∧ Below w.heap.size w w' := by
  obtain ⟨k, m, n, hT⟩ := topL_ex L l
  obtain ⟨ln, hln⟩ : ∃ ln, lineOf L l = ln := ⟨_, rfl⟩
  rw [hln] at hT
  have HT := Lib.hid hT
  have hs := sees_top L l c hT
  rw [hb.out] at hs
  have hbb := bb_eq n c
  obtain ⟨N, hN⟩ : ∃ N, bb n = N := ⟨_, rfl⟩
  obtain ⟨C, hC⟩ : ∃ C, bb c = C := ⟨_, rfl⟩
  have HP := Lib.hid (peek_of L R l A lev k m ln n _ h HT)
  rw [hN] at HP hbb
  rw [hC] at hbb ⊢
  generalize decide (n = c) = q at hs hbb
  clear hT hN hC hln
  have HS := Lib.hid hs
  go_enter Tryz.func45, Tryz.ntmps45
  go_wp2_with fail
  refine HP.out.mono ?_
  rintro e w1 ⟨rfl, hb1⟩
  have HB := Lib.hid (below_keep (al1 w1 (.cells #[.int .i64 k, .string N, .int .i64 m, .int .i64 ln] 81)) hb1)
  clear hb1 hs
  by_cases k2 : k = 2
  · subst k2
    go_wp2
    go_ret
    exact ⟨ret_bool (by rw [HS.out]; simp), HB.out⟩
  · have b2 : (k == 2) = false := by rw [beq_eq_false_iff_ne]; exact k2
    have d2 : decide (k = 2) = false := decide_eq_false k2
    by_cases k5 : k = 5
    · subst k5
      go_wp2
      go_ret
      exact ⟨ret_bool (by rw [HS.out]; simp), HB.out⟩
    · have b5 : (k == 5) = false := by rw [beq_eq_false_iff_ne]; exact k5
      have d5 : decide (k = 5) = false := decide_eq_false k5
      go_wp2
      go_ret
      exact ⟨ret_bool (by rw [HS.out, d2, d5]; simp), HB.out⟩
end Go.Proofs.YtgccheiemnpaoaaGreatDoor.par
namespace Go.Proofs.YtgccheiemnpaoaaGreatDoor.par
open Go.RowKit lex tre prt

/-- What a method of the reader leaves that reads as x says: a value and the reader behind it, or a panic. -/
def Out {α : Type} (L : List Tok) (R : Nat) (A : ByteArray) (lev : Int) (V : α → World → World → Value → Prop) (w : World) (x : Rz α) (e : Ending) (w' : World) : Prop :=
  Pk R w w' ∧ match x with
    | .ok a l' => ∃ v, e = .returned v ∧ V a w w' v ∧ Rd L R w' l' A lev
    | .er c l' => e = .panicked (pan (lineOf L l') c)
theorem Out.er {α : Type} {L : List Tok} {R : Nat} {A : ByteArray} {lev : Int} {V : α → World → World → Value → Prop} {w w' : World} {l : List Tok} {c ln : Int} (hp : Pk R w w') (hl : lineOf L l = ln) :
    Out L R A lev V w (.er c l) (.panicked [{ v := .iface 54 (.agg #[.int .i64 ln, .int .i64 c]), recovered := false }]) w' := ⟨hp, by subst hl; rfl⟩
theorem Out.pn {α : Type} {L : List Tok} {R : Nat} {A : ByteArray} {lev : Int} {V : α → World → World → Value → Prop} {w w' : World} {l : List Tok} {c : Int} {x : Rz α} (hx : .er c l = x) (hp : Pk R w w') : Out L R A lev V w x (.panicked (pan (lineOf L l) c)) w' := by subst hx; exact ⟨hp, rfl⟩
theorem Out.ok {α : Type} {L : List Tok} {R : Nat} {A : ByteArray} {lev : Int} {V : α → World → World → Value → Prop} {w w' : World} {l : List Tok} {a : α} {v : Value} {x : Rz α} (hx : .ok a l = x) (hp : Pk R w w') (hv : V a w w' v) (hr : Rd L R w' l A lev) : Out L R A lev V w x (.returned v) w' := by subst hx; exact ⟨hp, v, rfl, hv, hr⟩
def VU (_ : Unit) (_ _ : World) (v : Value) : Prop := v = .tuple #[]
def VS (a : List UInt8) (_ _ : World) (v : Value) : Prop := v = .string (bb a) ∧ a.length ≤ 16384
theorem sees_true {c : List UInt8} {l : List Tok} (h : seesL c l = true) : ∃ t r, l = t :: r := by
  cases l with
  | nil => cases h
  | cons t r => exact ⟨t, r, rfl⟩
theorem sees_mk {L l : List Tok} (hL : TokL L) (hs : l <:+ L) {c : List UInt8} (hk : isKw c = false) : seesL c l = isT 5 c l := by
  cases l with
  | nil => rfl
  | cons t r =>
    have := (hL.2 t (hs.mem (by simp))).2.2.2.1
    show ((decide (t.kind = 2) || decide (t.kind = 5)) && decide (t.text = c)) = (decide (t.kind = 5) && decide (t.text = c))
    by_cases h2 : t.kind = 2
    · have h3 : t.text ≠ c := fun e => by rw [← e, this h2] at hk; cases hk
      rw [decide_eq_false h3]; simp
    · rw [decide_eq_false h2]; simp
theorem sees_kw {L l : List Tok} (hL : TokL L) (hs : l <:+ L) {c : List UInt8} (hk : isMk c = false) : seesL c l = isT 2 c l := by
  cases l with
  | nil => rfl
  | cons t r =>
    have := (hL.2 t (hs.mem (by simp))).2.2.2.2
    show ((decide (t.kind = 2) || decide (t.kind = 5)) && decide (t.text = c)) = (decide (t.kind = 2) && decide (t.text = c))
    by_cases h2 : t.kind = 5
    · have h3 : t.text ≠ c := fun e => by rw [← e, this h2] at hk; cases hk
      rw [decide_eq_false h3]; simp
    · rw [decide_eq_false h2]; simp
set_option maxRecDepth 100000 in
theorem accept_of (L : List Tok) (R : Nat) (l l' : List Tok) (A : ByteArray) (lev : Int) (c : List UInt8) (b : Bool) (w : World) (h : Hid (Rd L R w l A lev)) (hb : Hid (seesL c l = b)) (hl : Hid ((if b then l.tail else l) = l')) :
    Calls Tryz.prog 33 #[.pointer (some ⟨R, 0, none⟩), .string (bb c)] w fun e w' => e = .returned (.bool b) ∧ Rd L R w' l' A lev ∧ Pk R w w' := by
  have HP := Lib.hid (sees_of L R l A lev c b w h hb)
  obtain ⟨C, hC⟩ : ∃ C, bb c = C := ⟨_, rfl⟩
  rw [hC] at HP ⊢
  clear hC
  cases b with
  | false =>
    go_enter Tryz.func33, Tryz.ntmps33
    go_wp2_with fail
    refine HP.out.mono ?_
    rintro e w1 ⟨rfl, hb1⟩
    have HB := Lib.hid hb1
    clear hb1
    go_wp2
    go_ret
    exact ⟨rfl, by have := hl.out; simp at this; subst this; exact h.out.below HB.out, Pk.below HB.out⟩
  | true =>
    obtain ⟨t, r, rfl⟩ := sees_true hb.out
    obtain rfl : r = l' := by have := hl.out; simpa using this
    clear hl
    go_enter Tryz.func33, Tryz.ntmps33
    go_wp2_with fail
    refine HP.out.mono ?_
    rintro e w1 ⟨rfl, hb1⟩
    have HB := Lib.hid hb1
    clear hb1
    go_wp2_with fail
    refine (skip_cons L R t r A lev _ (Lib.hid (h.out.below HB.out))).mono ?_
    rintro e w2 ⟨rfl, hr, hp⟩
    have H2 := Lib.hid (And.intro hr ((Pk.below HB.out).trans hp))
    clear hr hp
    go_wp2
    go_ret
    exact ⟨rfl, H2.out.1, H2.out.2⟩
set_option maxRecDepth 100000 in
theorem expect_of (L : List Tok) (R : Nat) (l : List Tok) (A : ByteArray) (lev : Int) (c : List UInt8) (x : Rz Unit) (w : World) (h : Hid (Rd L R w l A lev)) (hx : Hid ((if seesL c l then .ok () l.tail else .er 4 l) = x)) :
    Calls Tryz.prog 34 #[.pointer (some ⟨R, 0, none⟩), .string (bb c)] w (Out L R A lev VU w x) := by
  cases hs : seesL c l with
  | true =>
    have HP := Lib.hid (accept_of L R l l.tail A lev c true w h (Lib.hid hs) (Lib.hid (by simp)))
    obtain ⟨C, hC⟩ : ∃ C, bb c = C := ⟨_, rfl⟩
    rw [hC] at HP ⊢
    obtain rfl : .ok () l.tail = x := by have := hx.out; rw [hs] at this; simpa using this
    clear hC hs hx
    go_enter Tryz.func34, Tryz.ntmps34
    go_wp2_with fail
    refine HP.out.mono ?_
    rintro e w1 ⟨rfl, hr, hp⟩
    have H2 := Lib.hid (And.intro hr hp)
    clear hr hp
    go_wp2
    go_end0
    exact ⟨H2.out.2, _, rfl, rfl, H2.out.1⟩
  | false =>
    have HP := Lib.hid (accept_of L R l l A lev c false w h (Lib.hid hs) (Lib.hid (by simp)))
    obtain ⟨C, hC⟩ : ∃ C, bb c = C := ⟨_, rfl⟩
    rw [hC] at HP ⊢
    obtain rfl : .er 4 l = x := by have := hx.out; rw [hs] at this; simpa using this
    obtain ⟨ln, hln⟩ : ∃ ln, lineOf L l = ln := ⟨_, rfl⟩
    have HL := Lib.hid hln
    clear hC hs hx hln
    go_enter Tryz.func34, Tryz.ntmps34
    go_wp2_with fail
    refine HP.out.mono ?_
    rintro e w1 ⟨rfl, hr, hp⟩
    have H2 := Lib.hid (And.intro hr hp)
    clear hr hp
    go_wp2_with fail
    refine (here_of L R l A lev 4 ln _ (Lib.hid H2.out.1) HL).mono ?_
    rintro e w2 ⟨rfl, hb⟩
    have H3 := Lib.hid (H2.out.2.trans (Pk.below hb))
    clear hb
    go_wp2
    exact ⟨rfl, Out.er H3.out HL.out⟩
theorem expect_mk (L : List Tok) (hL : Hid (TokL L)) (R : Nat) (l : List Tok) (A : ByteArray) (lev : Int) (c : List UInt8) (C : ByteArray) (x : Rz Unit) (w : World) (hC : bb c = C) (h : Hid (Rd L R w l A lev)) (hk : isKw c = false) (hx : Hid (wantM c l = x)) :
    Calls Tryz.prog 34 #[.pointer (some ⟨R, 0, none⟩), .string C] w (Out L R A lev VU w x) := by
  subst hC
  refine expect_of L R l A lev c x w h (Lib.hid ?_)
  rw [sees_mk hL.out h.out.suf hk, ← hx.out]; rfl
theorem accept_mk (L : List Tok) (hL : Hid (TokL L)) (R : Nat) (l l' : List Tok) (A : ByteArray) (lev : Int) (c : List UInt8) (C : ByteArray) (b : Bool) (w : World) (hC : bb c = C) (h : Hid (Rd L R w l A lev)) (hk : isKw c = false) (hb : Hid (isT 5 c l = b)) (hl : Hid ((if b then l.tail else l) = l')) :
    Calls Tryz.prog 33 #[.pointer (some ⟨R, 0, none⟩), .string C] w fun e w' => e = .returned (.bool b) ∧ Rd L R w' l' A lev ∧ Pk R w w' := by
  subst hC
  exact accept_of L R l l' A lev c b w h (Lib.hid (by rw [sees_mk hL.out h.out.suf hk]; exact hb.out)) hl
theorem accept_kw (L : List Tok) (hL : Hid (TokL L)) (R : Nat) (l l' : List Tok) (A : ByteArray) (lev : Int) (c : List UInt8) (C : ByteArray) (b : Bool) (w : World) (hC : bb c = C) (h : Hid (Rd L R w l A lev)) (hk : isMk c = false) (hb : Hid (isT 2 c l = b)) (hl : Hid ((if b then l.tail else l) = l')) :
    Calls Tryz.prog 33 #[.pointer (some ⟨R, 0, none⟩), .string C] w fun e w' => e = .returned (.bool b) ∧ Rd L R w' l' A lev ∧ Pk R w w' := by
  subst hC
  exact accept_of L R l l' A lev c b w h (Lib.hid (by rw [sees_kw hL.out h.out.suf hk]; exact hb.out)) hl
theorem sees_mk_of (L : List Tok) (hL : Hid (TokL L)) (R : Nat) (l : List Tok) (A : ByteArray) (lev : Int) (c : List UInt8) (C : ByteArray) (b : Bool) (w : World) (hC : bb c = C) (h : Hid (Rd L R w l A lev)) (hk : isKw c = false) (hb : Hid (isT 5 c l = b)) :
    Calls Tryz.prog 45 #[.pointer (some ⟨R, 0, none⟩), .string C] w fun e w' => e = .returned (.bool b) ∧ Below w.heap.size w w' := by
  subst hC
  exact sees_of L R l A lev c b w h (Lib.hid (by rw [sees_mk hL.out h.out.suf hk]; exact hb.out))
set_option maxRecDepth 100000 in
theorem end_of (L : List Tok) (R : Nat) (l : List Tok) (A : ByteArray) (lev : Int) (x : Rz Unit) (w : World) (h : Hid (Rd L R w l A lev)) (hx : Hid ((if l.isEmpty then .ok () l else .er 4 l) = x)) :
    Calls Tryz.prog 23 #[.pointer (some ⟨R, 0, none⟩)] w (Out L R A lev VU w x) := by
  obtain ⟨ao, cap, ln, c0, c1, f0, f1, e1, _, _⟩ := h.out.open
  obtain ⟨lq, hln⟩ : ∃ ln, lineOf L l = ln := ⟨_, rfl⟩
  have HL := Lib.hid hln
  cases l with
  | nil =>
    obtain rfl : .ok () [] = x := hx.out
    have d : ¬ (0 : Int) < (([] : List Tok).length : Int) := by simp
    clear hln e1 hx
    go_enter Tryz.func23, Tryz.ntmps23
    go_wp2
    go_end0
    exact ⟨Pk.refl _ _, _, rfl, rfl, h.out⟩
  | cons t r =>
    obtain rfl : .er 4 (t :: r) = x := hx.out
    have d : (0 : Int) < ((t :: r).length : Int) := by simp
    generalize (t :: r).length = len at c0 d
    clear hln e1 hx
    go_enter Tryz.func23, Tryz.ntmps23
    go_wp2_with fail
    refine (here_of L R (t :: r) A lev 4 lq _ h HL).mono ?_
    rintro e w2 ⟨rfl, hb⟩
    have H3 := Lib.hid (Pk.below (R := R) hb)
    clear hb
    go_wp2
    exact ⟨rfl, Out.er H3.out HL.out⟩
end Go.Proofs.YtgccheiemnpaoaaGreatDoor.par
