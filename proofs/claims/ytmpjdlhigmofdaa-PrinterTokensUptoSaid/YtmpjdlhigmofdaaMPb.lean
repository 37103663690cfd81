/-
  The printer's writer in memory, and what the methods of its builder do to it. Conditions: texts of at most 2^41 bytes.
  What value, list, refs and after of the reference of layer 8 return. Conditions: short values; attributes and references as valid statements have them.
-/
import Derived.Test.YtmpjdlhigmofdaaMLa
import Derived.Test.YtmpjdlhigmofdaaTrees
import Derived.Test.YtmpjdlhigmofdaaMPa
import Derived.Lib.UnsafeStr
import Derived.Lib.AppendStr
import Derived.Lib.OthersKept
import Derived.Lib.Builder
import Derived.Laws.Externs
import Derived.Test.YtmpjdlhigmofdaaRefLex2
import Derived.Test.YtmpjdlhigmofdaaRefParse
import Derived.Test.YtmpjdlhigmofdaaTreAtt
import Derived.Lib.QuietBelow
namespace Go.Proofs.Ytmpjdlhigmofdaa.prt
open Go.RowKit lex tre

/-- A builder that lies at the beginning of block b (a variable of type T, with the cells r behind it): its bytes; p is what its first cell holds. -/
def BdP (T : TypeId) (r : List Value) (w : World) (b : Nat) (p : Value) (acc : List UInt8) : Prop :=
  ∃ v, w.heap[b]? = some (.cells (p :: v :: r).toArray T (0, 0)) ∧ Byt w b v acc
def Bd (T : TypeId) (r : List Value) (w : World) (b : Nat) (acc : List UInt8) : Prop := BdP T r w b (.pointer none) acc ∨ BdP T r w b (.pointer (some ⟨b, 0, none⟩)) acc
/-- The printer's writer in block b: its text, its level, its arrow. -/
abbrev Wr (w : World) (b : Nat) (acc : List UInt8) (lev : Int) (arr : ByteArray) : Prop := Bd 57 [.int .i64 lev, .string arr] w b acc
/-- A type whose variables begin with a builder and have n cells more. -/
structure BT (T : TypeId) (n : Nat) : Prop where
  ne : T ≠ 5
  lies : liesAt Try.prog Try.prog.depth T ((n + 2) / Try.prog.cellsOf T) 0 55 1 = true
theorem bt_writer : BT 57 2 := ⟨by decide, by kernel_rfl⟩
theorem bt_builder : BT 55 0 := ⟨by decide, by kernel_rfl⟩
/-- What a method of the writer may change: its own block, rows of bytes, blocks from its own on. -/
def Fr (b : Nat) (w w' : World) : Prop := Below b w w' ∧ Lib.OthersKept 5 (some b) w w'
theorem Fr.refl (b : Nat) (w : World) : Fr b w w := ⟨Below.refl _ _, Lib.OthersKept.refl _ _ _⟩
theorem Fr.trans {b : Nat} {u v w : World} (h : Fr b u v) (k : Fr b v w) : Fr b u w := ⟨h.1.trans k.1, h.2.trans k.2⟩
theorem Fr.drew {b : Nat} {u w : World} (h : Fr b u w) : Fr b u w.drew := ⟨h.1.drew, h.2.drew⟩
theorem Fr.of {b : Nat} {w w' : World} (h : Below w.heap.size w w') (hb : b ≤ w.heap.size) : Fr b w w' :=
  ⟨h.mono hb, fun k o hk _ _ => by rw [h.block k (Array.getElem?_eq_some_iff.1 hk).1]; exact hk⟩
theorem Fr.alloc {b : Nat} {u w : World} (h : Fr b u w) (hb : b ≤ w.heap.size) (o : Obj) : Fr b u (w.alloc o) := ⟨h.1.alloc hb o, h.2.alloc o⟩
/-- A block that is no row of bytes stays. -/
theorem Fr.heap {b k : Nat} {w w' : World} {c : Array Value} {t : TypeId} {fz : Nat × Nat} (h : Fr b w w') (hk : w.heap[k]? = some (.cells c t fz)) (ht : t ≠ 5) (hb : k ≠ b) : w'.heap[k]? = some (.cells c t fz) :=
  h.2 k _ hk (fun e => hb (Option.some.inj e)) (fun c' fz' e => by cases e; exact ht rfl)
section
variable {T : TypeId} {r : List Value}
theorem BdP.lt {w : World} {b : Nat} {p : Value} {acc : List UInt8} (h : BdP T r w b p acc) : b < w.heap.size := by
  obtain ⟨v, hb, _⟩ := h; exact (Array.getElem?_eq_some_iff.1 hb).1
theorem Bd.lt {w : World} {b : Nat} {acc : List UInt8} (h : Bd T r w b acc) : b < w.heap.size := h.elim BdP.lt BdP.lt
theorem BdP.keep {w w' : World} {b : Nat} {p : Value} {acc : List UInt8} (h : BdP T r w b p acc) (hb : Below w.heap.size w w') : BdP T r w' b p acc := by
  have hl := h.lt
  obtain ⟨v, h1, h2⟩ := h
  exact ⟨v, by rw [hb.block b hl]; exact h1, h2.later hb⟩
theorem Bd.keep {w w' : World} {b : Nat} {acc : List UInt8} (h : Bd T r w b acc) (hb : Below w.heap.size w w') : Bd T r w' b acc := h.imp (·.keep hb) (·.keep hb)
theorem Bd.drew {w : World} {b : Nat} {acc : List UInt8} (h : Bd T r w b acc) : Bd T r w.drew b acc := h
theorem Bd.alloc {w : World} {b : Nat} {acc : List UInt8} (h : Bd T r w b acc) (o : Obj) : Bd T r (w.alloc o) b acc := h.keep (al1 w o)
end
/-- A new writer. -/
theorem wr_new (w : World) (arr : ByteArray) : Wr (w.alloc (.cells #[.pointer none, .slice none 0 0, .int .i64 0, .string arr] 57)) w.heap.size [] 0 arr :=
  Or.inl ⟨_, heap_alloc_new w _, Byt.nil _ _⟩
theorem byt_ne {w : World} {B b : Nat} {v : Value} {l : List UInt8} {c : Array Value} {t : TypeId} (h : Byt w B v l) (hb : w.heap[b]? = some (.cells c t (0, 0))) (ht : t ≠ 5) : v.ownBlock ≠ some b := Lib.ownBlock_ne h hb ht
/-- A new value for a cell of the builder's own block. -/
theorem bd_set {T : TypeId} {w : World} {b : Nat} {v : Value} {acc : List UInt8} {cs : Array Value} (hT : T ≠ 5) (hb : w.heap[b]? = some (.cells cs T (0, 0))) (h : Byt w b v acc) (i : Nat) (x : Value) :
    (w.setCell ⟨b, i, none⟩ x).heap[b]? = some (.cells (cs.setIfInBounds i x) T (0, 0)) ∧ Byt (w.setCell ⟨b, i, none⟩ x) b v acc := by
  refine ⟨?_, World.ownsRow.kept (row := some b) h ⟨rfl, rfl, rfl, by simp [World.setCell], fun k _ hk => Below.heap_setCell _ _ _ _ (fun e => hk (by simp [e]))⟩ (Or.inr (byt_ne h hb hT))⟩
  simp [World.setCell, Array.getElem?_modify, hb]
theorem Fr.set {b : Nat} {u w : World} (h : Fr b u w) (i : Nat) (x : Value) : Fr b u (w.setCell ⟨b, i, none⟩ x) := ⟨h.1.setCell (p := ⟨b, i, none⟩) (Nat.le_refl _) _, h.2.setCell ⟨b, i, none⟩ rfl _⟩
/-- What an append to the writer's row leaves. -/
theorem Fr.grown {b : Nat} {u w w' : World} {v : Value} {l : List UInt8} (h : Fr b u w) (hb : b ≤ w.heap.size) (hv : Byt w b v l) (hg : w.grownBy w' v.ownBlock) : Fr b u w' :=
  ⟨h.1.grown hg hb (fun k hk => (World.ownsRow.lt hv k hk).1), h.2.grown hg (Lib.ownsRowF_kind (World.ownsRowF_of hv))⟩
/-- A string's bytes behind a row. -/
theorem app_text {w : World} {ops : Array Oper} {rest : List Oper} {o : Oper} {a : Act} {Q : Exit → Act → World → Prop} (hg : o.guard = none) (x y : Operand) (ho : o.op = .call { callee := .builtin .append, args := #[x, y], argTypes := #[53, 9] })
    (B : Nat) (v : Value) (l : List UInt8) (s : ByteArray) (hs : a.eval x = v) (hx : a.eval y = .string s) (h : Hid (Byt w B v l)) (hl : l.length + s.size ≤ 2199023255552) (hB : B ≤ w.heap.size)
    (hK : ∀ v' w', Byt w' B v' (l ++ s.data.toList) → w.grownBy w' v.ownBlock → wpList Try.prog ops Q rest (a.put o.dst v') w') : wpList Try.prog ops Q (o :: rest) a w := by
  obtain ⟨i0, hi, hz0, hz1, hz2⟩ := info_byte
  refine Lib.wpList_append_own_string w hg x y 53 9 ho B 5 i0 Try.underlying53 Try.underlying9 hi hz0 hz1 hz2 v l.length _ hs h.out s hx (by unfold maxLen; omega) (by omega) hB ?_
  intro v' w' hown hgrow _
  refine hK v' w' ?_ hgrow
  have e : Lib.byteCells (l ++ s.data.toList) = Lib.byteCells l ++ Lib.strCells s := by unfold Lib.byteCells; rw [List.map_append]; rfl
  unfold Byt
  rw [e, List.length_append, size_list]
  exact hown
/-- One byte behind a row, out of a slice of one that was just made. -/
theorem app_one {w : World} {ops : Array Oper} {rest : List Oper} {o : Oper} {a : Act} {Q : Exit → Act → World → Prop} (hg : o.guard = none) (x y : Operand) (ho : o.op = .call { callee := .builtin .append, args := #[x, y], argTypes := #[53, 53] })
    (B : Nat) (v : Value) (l : List UInt8) (c : UInt8) (b : Int) (hs : a.eval x = v) (hx : a.eval y = .slice (some ⟨w.heap.size, 0, none⟩) 1 1) (h : Hid (Byt w B v l)) (hb : Hid (b = (c.toNat : Int))) (hl : l.length ≤ 2199023255552) (hB : B ≤ w.heap.size)
    (hK : ∀ v' w', Byt w' B v' (l ++ [c]) → w.grownBy w' v.ownBlock → wpList Try.prog ops Q rest (a.put o.dst v') w') : wpList Try.prog ops Q (o :: rest) a (w.alloc (.cells #[.int .u8 b] 5)) := by
  obtain ⟨i0, hi, hz0, hz1, hz2⟩ := info_byte
  refine wpList_append_own _ hg x y 53 ho B 5 i0 (.int .u8 0) 1 1 Try.underlying53 hi hz0 hz1 hz2 rfl (by decide) v l.length _ hs (World.ownsRow.alloc h.out _) ⟨w.heap.size, 0, none⟩ 1 1 [.int .u8 b] hx rfl (cell1_new _ _ _) (by simp [Value.oneCell']) (by unfold maxLen; omega) (by omega) (by simp; omega) ?_
  intro v' w' hown hgrow _
  refine hK v' w' ?_ ?_
  · unfold Byt; rw [byt_snoc, List.length_append, ← hb.out]; exact hown
  · refine ⟨hgrow.os, hgrow.tape, hgrow.output, Nat.le_trans (by simp) hgrow.size, fun k hk hne => ?_⟩
    rw [hgrow.block k (by simp; omega) hne, heap_alloc_old w _ hk]
theorem size_builder : ∃ j, Try.prog.info? 55 = some j ∧ j.size = 2 := by
  have h : (Try.prog.info? 55).map (·.size) = some 2 := by kernel_rfl
  exact Option.map_eq_some_iff.1 h
set_option maxRecDepth 100000 in
set_option maxHeartbeats 2000000 in
theorem cc_used (b : Nat) (w : World) (h0 : w.cell? ⟨b, 0, none⟩ = some (.pointer (some ⟨b, 0, none⟩))) :
    Calls Try.prog 97 #[.pointer (some ⟨b, 0, none⟩)] w fun e w' => e = .returned (.tuple #[]) ∧ w' = w := by
  obtain ⟨j, hj, _⟩ := size_builder
  go_enter Try.func97, Try.ntmps97
  go_wp2
  rw [Lib.run_neq_ptr_same w _ Try.underlying52 hj]
  go_wp2
  go_end0
  exact ⟨rfl, rfl⟩
set_option maxRecDepth 100000 in
set_option maxHeartbeats 2000000 in
theorem cc_fresh {T : TypeId} {n : Nat} (hT : BT T n) (b : Nat) (w : World) (h0 : w.cell? ⟨b, 0, none⟩ = some (.pointer none)) (hsh : w.shape? b = some (T, n + 2)) (hfz : w.frozen? ⟨b, 0, none⟩ = false) :
    Calls Try.prog 97 #[.pointer (some ⟨b, 0, none⟩)] w fun e w' => e = .returned (.tuple #[]) ∧ w' = w.setCell ⟨b, 0, none⟩ (.pointer (some ⟨b, 0, none⟩)) := by
  obtain ⟨j, hj, hjs⟩ := size_builder
  go_enter Try.func97, Try.ntmps97
  go_wp2
  rw [Lib.run_to_unsafe w ⟨b, 0, none⟩ Try.underlying52 Try.underlying124 hj (by rw [hjs]; decide) hsh (Nat.zero_lt_succ _)]
  simp only [Result.andThen]
  rw [Oper.upon_value]
  go_wp2
  rw [run_callFunc_extern Try.func109 (by kernel_rfl) (by kernel_rfl) (by kernel_rfl) (e := Extern.AbiNoEscape.same) (by kernel_rfl)]
  rw [Lib.run_noEscape]
  simp only [Result.andThen]
  rw [Oper.upon_value]
  go_wp2
  rw [Lib.run_from_unsafe w ⟨b, 0, none⟩ Try.underlying124 Try.underlying52 hj hsh hT.lies]
  simp only [Result.andThen]
  rw [Oper.upon_value]
  go_wp2
  go_end0
  exact ⟨rfl, rfl⟩
section
variable {T : TypeId} {r : List Value}
theorem cc_of (hT : BT T r.length) (b : Nat) (acc : List UInt8) (w : World) (h : Hid (Bd T r w b acc)) :
    Calls Try.prog 97 #[.pointer (some ⟨b, 0, none⟩)] w fun e w' => e = .returned (.tuple #[]) ∧ BdP T r w' b (.pointer (some ⟨b, 0, none⟩)) acc ∧ Fr b w w' := by
  rcases h.out with ⟨v, hb, hv⟩ | ⟨v, hb, hv⟩
  · refine (cc_fresh hT b w (by rw [Lib.cell_of_heap hb]; rfl) (by simp [World.shape?, hb]) (Lib.frozen_of_heap hb 0)).mono ?_
    rintro e w' ⟨rfl, rfl⟩
    obtain ⟨h1, h2⟩ := bd_set hT.ne hb hv 0 (.pointer (some ⟨b, 0, none⟩))
    exact ⟨rfl, ⟨v, by rw [h1]; simp, h2⟩, (Fr.refl b w).set _ _⟩
  · refine (cc_used b w (by rw [Lib.cell_of_heap hb]; rfl)).mono ?_
    rintro e w' ⟨rfl, rfl⟩
    exact ⟨rfl, ⟨v, hb, hv⟩, Fr.refl b _⟩
set_option maxRecDepth 100000 in
set_option maxHeartbeats 4000000 in
/-- WriteString. -/
theorem wstr_of (hT : BT T r.length) (b : Nat) (acc : List UInt8) (s : ByteArray) (w : World) (h : Hid (Bd T r w b acc)) (hl : acc.length + s.size ≤ 2199023255552) :
    Calls Try.prog 68 #[.pointer (some ⟨b, 0, none⟩), .string s] w fun e w' => e = .returned (.tuple #[.int .i64 s.size, .nilIface]) ∧ Bd T r w' b (acc ++ s.data.toList) ∧ Fr b w w' := by
  have hne := hT.ne
  go_enter Try.func68, Try.ntmps68
  go_wp2_with (go_at_call 97; refine (cc_of hT b acc _ h).mono ?_)
  rintro e w1 ⟨rfl, h1, hf1⟩
  have hlt := h1.lt
  obtain ⟨v, hb, hv⟩ := h1
  obtain ⟨a0, k0, rfl, -, -⟩ := id hv.len
  have HV := Lib.hid hv
  have c1 : w1.cell? ⟨b, 1, none⟩ = some (.slice a0 acc.length k0) := by rw [Lib.cell_of_heap hb]; rfl
  have HB := Lib.hid hb
  clear hv hb h
  go_wp2_with (at_builtin; refine app_text rfl (.tmp 12) (.tmp 13) rfl b _ acc s rfl rfl HV hl (by omega) ?_)
  intro v2 w2 hv2 hgrow
  have hb2 : w2.heap[b]? = _ := (hgrow.block b hlt (fun e => byt_ne HV.out HB.out hne e.symm)).trans HB.out
  have hf2 := hf1.grown (by omega) HV.out hgrow
  have f1 : w2.frozen? ⟨b, 1, none⟩ = false := Lib.frozen_of_heap hb2 1
  have c2 : w2.cell? ⟨b, 1, none⟩ = some (.slice a0 acc.length k0) := by rw [Lib.cell_of_heap hb2]; rfl
  obtain ⟨ao, N, cap, rfl⟩ : ∃ ao N cap, v2 = .slice ao N cap := by obtain ⟨x, y, e, _, _⟩ := hv2.len; exact ⟨x, _, y, e⟩
  clear hgrow
  go_wp2
  go_ret2
  obtain ⟨h3, h4⟩ := bd_set hne hb2 hv2 1 (.slice ao N cap)
  exact ⟨rfl, Or.inr ⟨_, by rw [h3]; simp, h4⟩, hf2.set _ _⟩
set_option maxRecDepth 100000 in
set_option maxHeartbeats 4000000 in
/-- WriteByte. -/
theorem wbyte_of (hT : BT T r.length) (b : Nat) (acc : List UInt8) (c : UInt8) (x : Int) (w : World) (h : Hid (Bd T r w b acc)) (hl : acc.length ≤ 2199023255552) (hx : Hid (x = (c.toNat : Int))) :
    Calls Try.prog 69 #[.pointer (some ⟨b, 0, none⟩), .int .u8 x] w fun e w' => e = .returned .nilIface ∧ Bd T r w' b (acc ++ [c]) ∧ Fr b w w' := by
  have hne := hT.ne
  go_enter Try.func69, Try.ntmps69
  go_wp2_with (go_at_call 97; refine (cc_of hT b acc _ h).mono ?_)
  rintro e w1 ⟨rfl, h1, hf1⟩
  have hlt := h1.lt
  obtain ⟨v, hb, hv⟩ := h1
  obtain ⟨a0, k0, rfl, -, -⟩ := id hv.len
  have HV := Lib.hid hv
  have c1 : w1.cell? ⟨b, 1, none⟩ = some (.slice a0 acc.length k0) := by rw [Lib.cell_of_heap hb]; rfl
  have HB := Lib.hid hb
  clear hv hb h
  go_wp2_with (at_builtin; refine app_one rfl (.tmp 11) (.tmp 13) rfl b _ acc c x rfl rfl HV hx hl (by omega) ?_)
  intro v2 w2 hv2 hgrow
  have hb2 : w2.heap[b]? = _ := (hgrow.block b hlt (fun e => byt_ne HV.out HB.out hne e.symm)).trans HB.out
  have hf2 := hf1.grown (by omega) HV.out hgrow
  have f1 : w2.frozen? ⟨b, 1, none⟩ = false := Lib.frozen_of_heap hb2 1
  have c2 : w2.cell? ⟨b, 1, none⟩ = some (.slice a0 acc.length k0) := by rw [Lib.cell_of_heap hb2]; rfl
  obtain ⟨ao, N, cap, rfl⟩ : ∃ ao N cap, v2 = .slice ao N cap := by obtain ⟨x, y, e, _, _⟩ := hv2.len; exact ⟨x, _, y, e⟩
  clear hgrow
  go_wp2
  go_ret
  obtain ⟨h3, h4⟩ := bd_set hne hb2 hv2 1 (.slice ao N cap)
  exact ⟨rfl, Or.inr ⟨_, by rw [h3]; simp, h4⟩, hf2.set _ _⟩
set_option maxRecDepth 100000 in
set_option maxHeartbeats 4000000 in
/-- String, where the builder holds a text. -/
theorem wtext_of (b : Nat) (acc : List UInt8) (w : World) (h : Hid (Bd T r w b acc)) (h0 : acc ≠ []) :
    Calls Try.prog 23 #[.pointer (some ⟨b, 0, none⟩)] w fun e w' => e = .returned (.string (ba acc)) ∧ Below b w w' := by
  obtain ⟨p, v, hb, hv⟩ : ∃ p, BdP T r w b p acc := by
    rcases h.out with h | h
    · exact ⟨_, h⟩
    · exact ⟨_, h⟩
  have hl0 : acc.length ≠ 0 := by simpa using h0
  obtain ⟨g, cap, cur, rfl, hbg, hg, hnc, hcm, hcs, htake⟩ : ∃ g cap cur, v = .slice (some ⟨g, 0, none⟩) acc.length cap ∧ b ≤ g ∧ w.heap[g]? = some (.cells cur 5 (0, 0)) ∧ acc.length ≤ cap ∧ cap ≤ maxLen ∧ cur.size = cap * 1 ∧ cur.toList.take (acc.length * 1) = Lib.byteCells acc := by
    rcases hv.2 with ⟨_, hz⟩ | ⟨g, cap, cur, e, r⟩
    · exact absurd hz hl0
    · exact ⟨g, cap, cur, e, r⟩
  have c1 : w.drew.cell? ⟨b, 1, none⟩ = some (.slice (some ⟨g, 0, none⟩) acc.length cap) := by
    have hb' : w.drew.heap[b]? = _ := hb
    rw [Lib.cell_of_heap hb']; rfl
  have hSD : (Builtin.unsafeSliceData_ #[53] 79 #[.slice (some ⟨g, 0, none⟩) acc.length cap]).run Try.prog w.drew = .ok (.pointer (some ⟨g, 0, none⟩)) w.drew :=
    Lib.run_unsafeSliceData_row _ _ _ _ _ _ (by omega)
  have hUS : (Builtin.unsafeString_ #[79, 3] 9 #[.pointer (some ⟨g, 0, none⟩), .int .i64 acc.length]).run Try.prog w.drew = .ok (.string ⟨acc.toArray⟩) (w.drew.freeze ⟨g, 0, none⟩ acc.length) := by
    have hg' : w.drew.heap[g]? = some (.cells cur 5 (0, 0)) := hg
    refine Lib.run_unsafeString_row w.drew 79 3 9 5 Try.underlying79 (by kernel_rfl) g cur.size (by simp [World.shape?, hg']) acc h0 (by omega) (by unfold maxLen at hcm; omega) ?_
    intro j x hx
    exact World.ownsRow.cells hv (g := g) rfl j (.int .u8 x.toNat) (by simp [Lib.byteCells, hx])
  have HG := Lib.hid hbg
  clear hb hv h hbg hg hcs htake hnc hcm hl0 h0
  go_enter Try.func23, Try.ntmps23
  go_wp2
  go_region
  all_goals
    go_wp2
    go_ret
    exact ⟨rfl, Lib.below_freeze (Below.drew (Below.refl b w)) (p := ⟨g, 0, none⟩) HG.out _⟩
end
end Go.Proofs.Ytmpjdlhigmofdaa.prt
namespace Go.Proofs.Ytmpjdlhigmofdaa.prt
open Go.RowKit Go.Sort lex tre

theorem ret_str {a b : ByteArray} (h : a = b) : Ending.returned (.string a) = .returned (.string b) := by rw [h]
theorem ba_eq {a b : ByteArray} (h : a.data.toList = b.data.toList) : a = b := ba_ext h
set_option maxHeartbeats 2000000 in
theorem rvalue_of (s Q : ByteArray) (w : World) (hs : s.size ≤ 32) (hp : Hid (s.data.toList.all isPl = true)) (hq : Hid (valS prL s.data.toList = Q.data.toList)) :
    Calls Try.prog 44 #[.string s] w fun e w' => e = .returned (.string Q) ∧ w = w' := by
  have hm : s.size ≤ maxLen := by unfold maxLen; omega
  have hr := hq.out
  unfold valS at hr
  obtain ⟨n, hn⟩ : ∃ b, isNm s.data.toList = b := ⟨_, rfl⟩
  have HN := Lib.hid hn
  rw [hn] at hr
  clear hn hq
  cases n
  · rw [if_neg Bool.false_ne_true] at hr
    obtain ⟨pn, pe, hpe⟩ : ∃ a b, prL s.data.toList = (a, b) := ⟨_, _, rfl⟩
    have HP : Hid (parseV s.data.toList = .tuple #[.int .i64 pn, .int .i64 pe]) := Lib.hid (by rw [parseV_pr, hpe])
    rw [hpe] at hr
    simp only at hr
    clear hpe
    by_cases h0 : pe = 0
    · rw [if_pos h0] at hr
      subst h0
      have HE : Hid (s = Q) := Lib.hid (ba_eq hr)
      clear hr hp
      go_enter Try.func44, Try.ntmps44
      go_wp2_with (first | (go_at_call 80; refine (rname_of _ _ _ hm HN).mono ?_; rintro e w' ⟨rfl, rfl⟩) | (go_at_call 60; refine (refParse_of _ _ _ (by omega) HP).mono ?_; rintro e w' ⟨rfl, rfl⟩))
      go_ret
      exact ⟨ret_str HE.out, rfl⟩
    · rw [if_neg h0] at hr
      have b0 : (pe == 0) = false := by rw [beq_eq_false_iff_ne]; exact h0
      have HQ : Hid (quoE s.data.toList = (quoL s.data.toList, 0)) := Lib.hid (by unfold quoE; rw [size_list, if_neg (by omega), if_pos hp.out])
      have HE : Hid (ba (quoL s.data.toList) = Q) := Lib.hid (ba_eq (by rw [← hr]))
      clear hr h0 hp
      go_enter Try.func44, Try.ntmps44
      go_wp2_with (first | (go_at_call 80; refine (rname_of _ _ _ hm HN).mono ?_; rintro e w' ⟨rfl, rfl⟩) | (go_at_call 60; refine (refParse_of _ _ _ (by omega) HP).mono ?_; rintro e w' ⟨rfl, rfl⟩) | (go_at_call 81; refine (rquote_of _ _ _ _ hm HQ).mono ?_; rintro e w' ⟨rfl, rfl⟩))
      go_ret
      exact ⟨ret_str HE.out, rfl⟩
  · rw [if_pos rfl] at hr
    have HE : Hid (s = Q) := Lib.hid (ba_eq hr)
    clear hr hp
    go_enter Try.func44, Try.ntmps44
    go_wp2_with (go_at_call 80; refine (rname_of _ _ _ hm HN).mono ?_; rintro e w' ⟨rfl, rfl⟩)
    go_ret
    exact ⟨ret_str HE.out, rfl⟩
theorem take_all {l : List Pr} : l.take l.length = l := List.take_length
set_option maxRecDepth 100000 in
set_option maxHeartbeats 8000000 in
theorem rlist_of (l : List Pr) (v : Value) (Q : ByteArray) (w : World) (h : Hid (Prs w v l)) (hl : l.length ≤ 40) (ho : Hid (attOk l)) (hq : Hid (attS prL l = Q.data.toList)) :
    Calls Try.prog 26 #[v] w fun e w' => e = .returned (.string Q) ∧ Below w.heap.size w w' := by
  have hmx : Try.prog.follows .mixedOrders = true := by kernel_rfl
  obtain ⟨ao, cap, rfl, -, -, -⟩ := id h.out
  rcases Nat.eq_zero_or_pos l.length with h0 | h0
  · obtain rfl : l = [] := List.length_eq_zero_iff.1 h0
    have HE : Hid ((⟨#[]⟩ : ByteArray) = Q) := Lib.hid (ba_eq (by rw [← hq.out]; rfl))
    clear h hl ho hq h0
    go_enter Try.func26, Try.ntmps26
    go_wp2
    go_ret
    exact ⟨ret_str HE.out, Below.refl _ _⟩
  have HQ : Hid (91 :: (attJ l ++ [93]) = Q.data.toList) := Lib.hid (by rw [← attS_join (by intro e; rw [e] at h0; simp at h0)]; exact hq.out)
  have b0 : ((l.length : Int) == 0) = false := by rw [beq_eq_false_iff_ne]; omega
  clear hq h0
  go_enter Try.func26, Try.ntmps26
  go_wp2_with fail
  go_loopw [3, 4] (fun s i wr => ∃ (b : ByteArray) (k : Nat), k ≤ l.length ∧ s = .string b ∧ i = .int .i64 k ∧ b.data.toList = 91 :: attJ (l.take k) ∧ b.size ≤ 4000 ∧ Below w.heap.size w wr) (fun _ i _ => l.length - (intOf i).toNat)
  case atStart => exact ⟨_, 0, Nat.zero_le _, rfl, rfl, rfl, by decide, Below.refl _ _⟩
  case round =>
    obtain ⟨b, k, hk, rfl, rfl, hb, hbs, hB⟩ := hrel
    rename World => wr
    have HBL := Lib.hid hb
    have HBS := Lib.hid hbs
    clear hb b0
    by_cases hlt : k < l.length
    · obtain ⟨A, rfl, p0, p1, z2, z3⟩ := (h.out.keep hB).get hlt
      have hat := ho.out _ (List.getElem_mem hlt)
      have HJ := Lib.hid (attJ_snoc (l.take k) l[k])
      have HJL := Lib.hid (attJ_len (ok_take ho.out (k + 1)))
      have HTK := Lib.hid (take_pr hlt)
      obtain ⟨x, hx⟩ : ∃ x, l[k] = x := ⟨_, rfl⟩
      rw [hx] at p0 p1 z2 z3 hat HJ HTK
      clear hx
      have s16 := nm_le hat.1
      obtain ⟨X, hX⟩ : ∃ Y, bb x.1 = Y := ⟨_, rfl⟩
      obtain ⟨Y, hY⟩ : ∃ Y, bb x.2 = Y := ⟨_, rfl⟩
      obtain ⟨V, hV⟩ : ∃ V, bb (valS prL x.2) = V := ⟨_, rfl⟩
      have d1 : X.data.toList = x.1 := by rw [← hX]
      have d2 : Y.data.toList = x.2 := by rw [← hY]
      have d3 : V.data.toList = valS prL x.2 := by rw [← hV]
      have s1 : X.size ≤ 16 := by rw [← b_size, d1]; exact s16
      have s2 : Y.size ≤ 32 := by rw [← b_size, d2]; exact hat.2.1
      have s3 : V.size ≤ 66 := by rw [← b_size, d3]; exact val_len hat.2.1
      rw [hX] at p0
      rw [hY] at p1
      have HP : Hid (Y.data.toList.all isPl = true) := Lib.hid (by rw [d2]; exact hat.2.2)
      have HV : Hid (valS prL Y.data.toList = V.data.toList) := Lib.hid (by rw [d2, d3])
      have HA : Hid (attB prL x = X.data.toList ++ (61 :: V.data.toList)) := Lib.hid (by rw [d1, d3]; rfl)
      have t0 := fun d os => cell_regrown p0 d os
      have t1 := fun d os => cell_regrown p1 d os
      have cV := fun d os => Calls.regrown_of (w := wr) (d := d) (os := os) ((rvalue_of Y V (grow (redrawn wr d) os) s2 HP HV).mono fun _ _ h => ⟨h.1, by rw [← h.2]; exact Below.refl _ _⟩)
      have z0 : (0 : Int) ≤ (k : Int) := by omega
      have z1 : (k : Int) < (l.length : Int) := by omega
      clear hat s16 hX hY hV d1 d2 d3 z2 z3 p0 p1
      by_cases hk0 : k = 0
      · have HN : Hid (attJ (l.take (k + 1)) = attB prL x) := Lib.hid (by rw [HTK.out, HJ.out, hk0]; rfl)
        have HK : Hid (b.data.toList = [91]) := Lib.hid (by rw [HBL.out, hk0]; rfl)
        have e1 : decide ((0 : Int) < (k : Int)) = false := by simp [hk0]
        have e2 : decide (0 < k) = false := by simp [hk0]
        clear hk0 HJ HTK HBL
        go_wp2_with fail
        refine wp_region_quiet_below hmx (by kernel_rfl) ?_
        repeat (go_big_quiet_step (with_reducible exact cV _ _))
        refine wpQuiet_nil ?_
        intro _ hw'
        obtain ⟨⟨dq, osq⟩, hw''⟩ := hw'
        subst hw''
        have hBz := below_keep (below_regrown wr dq osq) hB
        have hfin : (b ++ X ++ ⟨#[61]⟩ ++ V).data.toList = 91 :: attJ (l.take (k + 1)) := by
          rw [HN.out, HA.out]; simp [HK.out]
        have hsz : (b ++ X ++ ⟨#[61]⟩ ++ V).size ≤ 4000 := by
          have hz := HJL.out
          rw [← b_size, hfin, List.length_cons]
          rw [List.length_take] at hz
          omega
        go_wp2
        go_roundw
        case rel => exact ⟨_, k + 1, by omega, rfl, by go_num, hfin, hsz, hBz⟩
        case measure => simp [intOf]; omega
      · have HN : Hid (attJ (l.take (k + 1)) = attJ (l.take k) ++ ([44, 32] ++ attB prL x)) := Lib.hid (by
          rw [HTK.out, HJ.out, if_neg]
          intro e
          have := List.isEmpty_iff.1 e
          rw [List.take_eq_nil_iff] at this
          rcases this with e | e
          · exact hk0 e
          · rw [e] at hlt; simp at hlt)
        have e1 : decide ((0 : Int) < (k : Int)) = true := by simp; omega
        have e2 : decide (0 < k) = true := by simp; omega
        clear hk0 HJ HTK
        have hbq : (b ++ ⟨#[44, 32]⟩).size ≤ 4002 := by rw [ByteArray.size_append]; show b.size + 2 ≤ _; omega
        go_wp2_with fail
        refine wp_region_quiet_below hmx (by kernel_rfl) ?_
        repeat (go_big_quiet_step (with_reducible exact cV _ _))
        refine wpQuiet_nil ?_
        intro _ hw'
        obtain ⟨⟨dq, osq⟩, hw''⟩ := hw'
        subst hw''
        have hBz := below_keep (below_regrown wr dq osq) hB
        have hfin : (b ++ ⟨#[44, 32]⟩ ++ X ++ ⟨#[61]⟩ ++ V).data.toList = 91 :: attJ (l.take (k + 1)) := by
          rw [HN.out, HA.out]; simp [HBL.out]
        have hsz : (b ++ ⟨#[44, 32]⟩ ++ X ++ ⟨#[61]⟩ ++ V).size ≤ 4000 := by
          have hz := HJL.out
          rw [← b_size, hfin, List.length_cons]
          rw [List.length_take] at hz
          omega
        go_wp2
        go_roundw
        case rel => exact ⟨_, k + 1, by omega, rfl, by go_num, hfin, hsz, hBz⟩
        case measure => simp [intOf]; omega
    · obtain rfl : k = l.length := by omega
      have HE : Hid (b ++ ⟨#[93]⟩ = Q) := Lib.hid (ba_eq (by rw [← HQ.out, ba_add, HBL.out, take_all]; simp))
      go_wp2
      go_ret
      exact ⟨ret_str HE.out, hB⟩
theorem prt_str {p : ByteArray} : (p.toList.isEmpty = true → prtP p.data.toList = []) ∧ (p.toList.isEmpty = false → prtP p.data.toList = 58 :: p.data.toList) := by
  rw [ByteArray.toList_eq]
  constructor
  · intro h; unfold prtP; rw [if_pos h]
  · intro h; unfold prtP; rw [if_neg (by rw [h]; decide)]
set_option maxRecDepth 100000 in
set_option maxHeartbeats 8000000 in
theorem rrefs_of (l : List Pr) (d : Bool) (v : Value) (Q : ByteArray) (w : World) (h : Hid (Prs w v l)) (hl : l.length ≤ 40) (ho : Hid (refOk l)) (hq : Hid (refS d l = Q.data.toList)) :
    Calls Try.prog 76 #[v, .bool d] w fun e w' => e = .returned (.string Q) ∧ Below w.heap.size w w' := by
  obtain ⟨ao, cap, rfl, -, -, -⟩ := id h.out
  go_enter Try.func76, Try.ntmps76
  go_wp2_with fail
  go_loopw [5, 6] (fun s i wr => ∃ (b : ByteArray) (k : Nat), k ≤ l.length ∧ s = .string b ∧ i = .int .i64 k ∧ b.data.toList = refS d (l.take k) ∧ b.size ≤ 2000 ∧ Below w.heap.size w wr) (fun _ i _ => l.length - (intOf i).toNat)
  case atStart => exact ⟨_, 0, Nat.zero_le _, rfl, rfl, rfl, by decide, Below.refl _ _⟩
  case round =>
    obtain ⟨b, k, hk, rfl, rfl, hb, hbs, hB⟩ := hrel
    rename World => wr
    have HBL := Lib.hid hb
    clear hb
    by_cases hlt : k < l.length
    · obtain ⟨A, rfl, p0, p1, z2, z3⟩ := (h.out.keep hB).get hlt
      have hat := ho.out _ (List.getElem_mem hlt)
      have HJ := Lib.hid (refS_snoc d (l.take k) l[k])
      have HJL := Lib.hid (refS_len d (rok_take ho.out (k + 1)))
      have HTK := Lib.hid (take_pr hlt)
      obtain ⟨x, hx⟩ : ∃ x, l[k] = x := ⟨_, rfl⟩
      rw [hx] at p0 p1 z2 z3 hat HJ HTK
      clear hx
      have s16 := nm_le hat.1
      obtain ⟨X, hX⟩ : ∃ Y, bb x.1 = Y := ⟨_, rfl⟩
      obtain ⟨Y, hY⟩ : ∃ Y, bb x.2 = Y := ⟨_, rfl⟩
      have d1 : X.data.toList = x.1 := by rw [← hX]
      have d2 : Y.data.toList = x.2 := by rw [← hY]
      have s1 : X.size ≤ 16 := by rw [← b_size, d1]; exact s16
      have s2 : Y.size ≤ 16 := by
        rw [← b_size, d2]
        rcases hat.2 with e | e
        · rw [e]; simp
        · exact nm_le e
      rw [hX] at p0
      rw [hY] at p1
      have HA : Hid (refX x = X.data.toList ++ prtP Y.data.toList) := Lib.hid (by rw [d1, d2]; rfl)
      have z0 : (0 : Int) ≤ (k : Int) := by omega
      have z1 : (k : Int) < (l.length : Int) := by omega
      clear hat s16 hX hY d1 d2 z2 z3
      obtain ⟨pe, hpe⟩ : ∃ e, Y.toList.isEmpty = e := ⟨_, rfl⟩
      have HPE := Lib.hid hpe
      by_cases hk0 : k = 0
      · have HN : Hid (refS d (l.take (k + 1)) = refX x) := Lib.hid (by rw [HTK.out, HJ.out, hk0]; rfl)
        have HK : Hid (b.data.toList = []) := Lib.hid (by rw [HBL.out, hk0]; rfl)
        have e1 : decide ((0 : Int) < (k : Int)) = false := by simp [hk0]
        have e2 : decide (0 < k) = false := by simp [hk0]
        clear hk0 HJ HTK HBL
        cases pe
        · have hfin : (b ++ X ++ ⟨#[58]⟩ ++ Y).data.toList = refS d (l.take (k + 1)) := by
            rw [HN.out, HA.out, prt_str.2 HPE.out]; simp [HK.out]
          have hsz : (b ++ X ++ ⟨#[58]⟩ ++ Y).size ≤ 2000 := by
            have hz := HJL.out
            rw [← b_size, hfin]
            rw [List.length_take] at hz
            omega
          have HF := Lib.hid hfin
          have HZ := Lib.hid hsz
          clear hfin hsz
          go_wp2_with fail
          go_roundw
          case rel => exact ⟨_, k + 1, by omega, rfl, by go_num, HF.out, HZ.out, hB⟩
          case measure => simp [intOf]; omega
        · have hfin : (b ++ X).data.toList = refS d (l.take (k + 1)) := by
            rw [HN.out, HA.out, prt_str.1 HPE.out]; simp [HK.out]
          have hsz : (b ++ X).size ≤ 2000 := by
            have hz := HJL.out
            rw [← b_size, hfin]
            rw [List.length_take] at hz
            omega
          have HF := Lib.hid hfin
          have HZ := Lib.hid hsz
          clear hfin hsz
          go_wp2_with fail
          go_roundw
          case rel => exact ⟨_, k + 1, by omega, rfl, by go_num, HF.out, HZ.out, hB⟩
          case measure => simp [intOf]; omega
      · have HN : Hid (refS d (l.take (k + 1)) = refS d (l.take k) ++ (arrS d ++ refX x)) := Lib.hid (by
          rw [HTK.out, HJ.out, if_neg]
          intro e
          have := List.isEmpty_iff.1 e
          rw [List.take_eq_nil_iff] at this
          rcases this with e | e
          · exact hk0 e
          · rw [e] at hlt; simp at hlt)
        have e1 : decide ((0 : Int) < (k : Int)) = true := by simp; omega
        have e2 : decide (0 < k) = true := by simp; omega
        clear hk0 HJ HTK
        cases pe
        · have hfin : (b ++ ⟨(arrS d).toArray⟩ ++ X ++ ⟨#[58]⟩ ++ Y).data.toList = refS d (l.take (k + 1)) := by
            rw [HN.out, HA.out, prt_str.2 HPE.out]; simp [HBL.out]
          have hsz : (b ++ ⟨(arrS d).toArray⟩ ++ X ++ ⟨#[58]⟩ ++ Y).size ≤ 2000 := by
            have hz := HJL.out
            rw [← b_size, hfin]
            rw [List.length_take] at hz
            omega
          have HF := Lib.hid hfin
          have HZ := Lib.hid hsz
          clear hfin hsz
          cases d
          all_goals
            go_wp2_with fail
            go_roundw
            case rel => exact ⟨_, k + 1, by omega, rfl, by go_num, HF.out, HZ.out, hB⟩
            case measure => simp [intOf]; omega
        · have hfin : (b ++ ⟨(arrS d).toArray⟩ ++ X).data.toList = refS d (l.take (k + 1)) := by
            rw [HN.out, HA.out, prt_str.1 HPE.out]; simp [HBL.out]
          have hsz : (b ++ ⟨(arrS d).toArray⟩ ++ X).size ≤ 2000 := by
            have hz := HJL.out
            rw [← b_size, hfin]
            rw [List.length_take] at hz
            omega
          have HF := Lib.hid hfin
          have HZ := Lib.hid hsz
          clear hfin hsz
          cases d
          all_goals
            go_wp2_with fail
            go_roundw
            case rel => exact ⟨_, k + 1, by omega, rfl, by go_num, HF.out, HZ.out, hB⟩
            case measure => simp [intOf]; omega
    · obtain rfl : k = l.length := by omega
      have HE : Hid (b = Q) := Lib.hid (ba_eq (by rw [← hq.out, HBL.out, take_all]))
      go_wp2
      go_ret
      exact ⟨ret_str HE.out, hB⟩
set_option maxHeartbeats 2000000 in
theorem rafter_of (l : List Pr) (v : Value) (Q : ByteArray) (w : World) (h : Hid (Prs w v l)) (hl : l.length ≤ 40) (ho : Hid (attOk l)) (hq : Hid (aft prL l = Q.data.toList)) :
    Calls Try.prog 75 #[v] w fun e w' => e = .returned (.string Q) ∧ Below w.heap.size w w' := by
  obtain ⟨ao, cap, rfl, -, -, -⟩ := id h.out
  have hr := hq.out
  unfold aft at hr
  rcases Nat.eq_zero_or_pos l.length with h0 | h0
  · obtain rfl : l = [] := List.length_eq_zero_iff.1 h0
    have HE : Hid ((⟨#[]⟩ : ByteArray) = Q) := Lib.hid (ba_eq (by rw [← hr]; rfl))
    clear h hl ho hq h0 hr
    go_enter Try.func75, Try.ntmps75
    go_wp2
    go_ret
    exact ⟨ret_str HE.out, Below.refl _ _⟩
  · rw [if_neg (by cases l <;> simp at h0 ⊢)] at hr
    obtain ⟨L, hL⟩ : ∃ L, bb (attS prL l) = L := ⟨_, rfl⟩
    have HL : Hid (attS prL l = L.data.toList) := Lib.hid (by rw [← hL])
    have hls : L.size ≤ 4000 := by rw [← b_size, ← HL.out]; have := attS_len ho.out; omega
    have HE : Hid ((⟨#[32]⟩ : ByteArray) ++ L = Q) := Lib.hid (ba_eq (by rw [← hr, ba_add, HL.out]; rfl))
    have b0 : ((l.length : Int) == 0) = false := by rw [beq_eq_false_iff_ne]; omega
    clear hL hq h0 hr
    go_enter Try.func75, Try.ntmps75
    go_wp2_with (go_at_call 26; refine (rlist_of l _ L _ h hl ho HL).mono ?_; rintro e w1 ⟨rfl, hb1⟩)
    go_ret
    exact ⟨ret_str HE.out, hb1⟩
end Go.Proofs.Ytmpjdlhigmofdaa.prt
