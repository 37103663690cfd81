/-
  A tree that comes in has no more statements than its reading is of bulk. No condition.
-/
import Derived.Test.YtmpjdlhigmofdaaTrePre
namespace Go.Proofs.Ytmpjdlhigmofdaa.prt
open Go.ChangeShapes Go.WideShapes Go.ChangeAt Go.RowKit Go.Joins lex tre

theorem bulk_app {H : Type} (l r : List (DataW H)) : Rows.uptoBulkAll (l ++ r) = Rows.uptoBulkAll l + Rows.uptoBulkAll r := by
  induction l with
  | nil => simp [Rows.uptoBulkAll]
  | cons x l ih => simp only [List.cons_append, Rows.uptoBulkAll, ih]; omega
theorem cnt_bulk {H : Type} (f : Nat → St) (D : Nat → DataW H) : ∀ n, (∀ i, i < n → 1 + cnt (f i).body ≤ Rows.uptoBulk (D i)) → cnt ((List.range n).map f) ≤ Rows.uptoBulkAll ((List.range n).map D) := by
  intro n
  induction n with
  | zero => intro _; simp [cnt_nil, Rows.uptoBulkAll]
  | succ n ih =>
    intro h
    have h1 := ih (fun i hi => h i (by omega))
    have h2 := h n (by omega)
    rw [List.range_succ, List.map_append, List.map_append, cnt_app, bulk_app]
    simp only [List.map_cons, List.map_nil, cnt_cons, cnt_nil, Rows.uptoBulkAll]
    omega
section
variable {H : Type} {enc : TypeId × Value → H} {w : World} {base : Nat} {spare : Nat → Bool} {held : Bool}
set_option maxRecDepth 100000 in
theorem open_stsB : ∀ (N : Nat) (fuel : Nat) (cs : List Value) (x : DataW H × List MemPlace), SizeOf.sizeOf x.1 ≤ N → DataW.trod enc Try.prog w base spare held fuel 22 cs = some x → ∃ v l, cs = [v] ∧ Sts w v l ∧ cnt l ≤ Rows.uptoBulk x.1 := by
  intro N
  induction N with
  | zero => intro fuel cs x hN _; exfalso; have : 0 < SizeOf.sizeOf x.1 := by cases x.1 <;> simp <;> omega
            omega
  | succ N ih =>
    intro fuel cs x hN h
    rcases Deep.open_slice Try.underlying22 h with ⟨rfl, _⟩ | ⟨a, len, cap, m, n, D, Pl, rfl, _, hl, hm, hmm, hx, hi⟩
    · exact ⟨_, [], rfl, Sts.nil w, Nat.zero_le _⟩
    · have hlm : len ≤ m := by rw [hmm]; split <;> omega
      have hci : Try.prog.cellsOf 3 = 1 := by kernel_rfl
      have hcs : Try.prog.cellsOf 9 = 1 := by kernel_rfl
      have hcr : Try.prog.cellsOf 45 = 1 := by kernel_rfl
      have hca : Try.prog.cellsOf 28 = 1 := by kernel_rfl
      have hcb : Try.prog.cellsOf 22 = 1 := by kernel_rfl
      have hc5 : Try.prog.cellsOf 47 = 5 := by kernel_rfl
      have key : ∀ i, i < len → ∃ s : St, stAt w s (a.add (i * 5)) ∧ 1 + cnt s.body ≤ Rows.uptoBulk (D i) := by
        intro i hil
        obtain ⟨cs', hc', ht'⟩ := hi i (by omega)
        rw [hc5] at hc'
        obtain ⟨_, hcl, hat⟩ := World.cells?_some hc'
        obtain ⟨y0, y1, y2, y3, y4, q, hd, _, k0, k1, k2, k3, k4⟩ := trod_struct5 Try.underlying47 ht'
        obtain ⟨c0, c1, c2, c3, c4, rfl⟩ : ∃ c0 c1 c2 c3 c4, cs' = [c0, c1, c2, c3, c4] := by
          match cs', hcl with
          | [c0, c1, c2, c3, c4], _ => exact ⟨c0, c1, c2, c3, c4, rfl⟩
        simp [hci, hcs, hcr, hca, hcb] at k0 k1 k2 k3 k4
        obtain ⟨x0, e0, _, _⟩ := DataW.trod_int Try.underlying3 k0
        obtain ⟨x1, e1, _, z1⟩ := DataW.trod_string Try.underlying9 k1
        obtain ⟨rv, r, e2, hr⟩ := open_prs Try.underlying45 Try.underlying51 (by kernel_rfl) ⟨rfl, rfl⟩ ⟨rfl, rfl⟩ k2
        obtain ⟨av, at', e3, ha⟩ := open_prs Try.underlying28 Try.underlying30 (by kernel_rfl) ⟨rfl, rfl⟩ ⟨rfl, rfl⟩ k3
        have hsz : SizeOf.sizeOf y4.1 ≤ N := by
          have h1 : SizeOf.sizeOf (D i) < SizeOf.sizeOf ((List.range len).map D) := List.sizeOf_lt_of_mem (List.mem_map.2 ⟨i, List.mem_range.2 hil, rfl⟩)
          have h2 : SizeOf.sizeOf x.1 = 1 + SizeOf.sizeOf ((List.range len).map D) + SizeOf.sizeOf ((List.range (m - len)).map fun j => D (len + j)) := by rw [hx]; exact DataW.slice.sizeOf_spec _ _
          have h3 : SizeOf.sizeOf (D i) = 1 + SizeOf.sizeOf [y0.1, y1.1, y2.1, y3.1, y4.1] := by rw [show D i = _ from hd]; exact DataW.agg.sizeOf_spec _
          have h4 : SizeOf.sizeOf y4.1 < SizeOf.sizeOf [y0.1, y1.1, y2.1, y3.1, y4.1] := List.sizeOf_lt_of_mem (by simp)
          omega
        obtain ⟨bv, b, e4, hb, hbk⟩ := ih _ _ _ hsz k4
        have hbD : 1 + cnt b ≤ Rows.uptoBulk (D i) := by
          rw [show D i = _ from hd]
          simp only [Rows.uptoBulk, Rows.uptoBulkAll]
          omega
        simp at e0 e1 e2 e3 e4
        subst e0 e1 e2 e3 e4
        have j0 := hat 0 (by omega)
        have j1 := hat 1 (by omega)
        have j2 := hat 2 (by omega)
        have j3 := hat 3 (by omega)
        have j4 := hat 4 (by omega)
        rw [add_one_of _ 1 (by omega)] at j1
        rw [add_one_of _ 2 (by omega)] at j2
        rw [add_one_of _ 3 (by omega)] at j3
        rw [add_one_of _ 4 (by omega)] at j4
        refine ⟨.mk x0 x1.data.toList r at' b, (stAt_eq _ _ _).2 ⟨j0, ?_, by show x1.data.toList.length ≤ maxLen; simpa using z1, ⟨_, j2, hr⟩, ⟨_, j3, ha⟩, _, j4, hb⟩, hbD⟩
        show _ = some (Value.string (bb x1.data.toList)); rw [bb_list]; exact j1
      haveI : Inhabited St := ⟨.mk 0 [] [] [] []⟩
      obtain ⟨f, hf⟩ := Deep.choose_lt key
      have hlen : ((List.range len).map f).length = len := by simp
      refine ⟨_, (List.range len).map f, rfl, ⟨some a, cap, by rw [hlen], by rw [hlen]; exact hl, hm, fun _ => ⟨a, rfl, stsAt_of fun j hj => ?_⟩⟩, ?_⟩
      · rw [hlen] at hj
        have := (hf j hj).1
        simpa using this
      · have h1 := cnt_bulk f D len (fun i hi => (hf i hi).2)
        rw [hx]
        simp only [Rows.uptoBulk]
        omega
set_option maxRecDepth 100000 in
theorem open_treeB {r : Reach} {b0 : Nat} {v : Value} {d : DataW H} {p : List MemPlace} (hv : Value.okWide Try.prog w r b0 24 v) (h : DataW.Trod enc Try.prog w base spare held 24 v d p) : ∃ T, TrV w v T ∧ cnt T.body ≤ Rows.uptoBulk d := by
  obtain ⟨cs, rfl, hsz⟩ := okWide_struct Try.underlying24 hv
  obtain ⟨fuel, hf⟩ := h
  obtain ⟨y0, y1, y2, n, hd, hl, k0, k1, k2⟩ := Deep.trod_struct3 Try.underlying24 hf
  have hc3 : Try.prog.cellsOf 24 = 3 := by kernel_rfl
  obtain ⟨c0, c1, c2, rfl⟩ := array3 (hsz.trans hc3)
  have hcb : Try.prog.cellsOf 4 = 1 := by kernel_rfl
  have hcs : Try.prog.cellsOf 9 = 1 := by kernel_rfl
  have hcl : Try.prog.cellsOf 22 = 1 := by kernel_rfl
  simp [Value.cells, hcb, hcs, hcl] at k0 k1 k2
  obtain ⟨x0, e0, _, z0⟩ := DataW.trod_string Try.underlying9 k0
  obtain ⟨x1, e1, _⟩ := DataW.trod_bool Try.underlying4 k1
  obtain ⟨bv, b, e2, hb, hbk⟩ := open_stsB _ _ _ _ (Nat.le_refl _) k2
  simp at e0 e1 e2
  subst e0 e1 e2
  refine ⟨⟨x0.data.toList, x1, b⟩, ⟨_, by show _ = Value.agg #[.string (bb x0.data.toList), _, _]; rw [bb_list], by show x0.data.toList.length ≤ maxLen; simpa using z0, hb⟩, ?_⟩
  show cnt b ≤ Rows.uptoBulk d
  have hd2 : d = .agg [y0.1, y1.1, y2.1] := congrArg Prod.fst hd
  rw [hd2]
  simp only [Rows.uptoBulk, Rows.uptoBulkAll]
  omega
end
end Go.Proofs.Ytmpjdlhigmofdaa.prt
