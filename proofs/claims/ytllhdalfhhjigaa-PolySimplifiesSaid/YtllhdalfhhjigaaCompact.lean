/-
  slices.Compact over a row of points: of neighboring equal points the first is kept. Condition: the row is no longer than a list can be.
-/
import Derived.Test.YtllhdalfhhjigaaPts
import Derived.Test.YtllhdalfhhjigaaSeqX
import Derived.Test.YtllhdalfhhjigaaBoxEq
import Derived.Lib.SliceRun
import Derived.Laws.IdiomCopy
namespace Go.Proofs.Ytllhdalfhhjigaa
open Go.RowKit

/-- A row of points in a block, that may be written. -/
def Rw (W : World) (g n : Nat) (f : Nat → Pt) : Prop := ∀ i, i < n →
  (W.cell? ⟨g, i * 2, none⟩ = some (.int .i64 (f i).1) ∧ W.cell? ⟨g, i * 2 + 1, none⟩ = some (.int .i64 (f i).2)) ∧ W.frozen? ⟨g, i * 2, none⟩ = false ∧ W.frozen? ⟨g, i * 2 + 1, none⟩ = false
theorem Rw.keep {w1 w2 : World} {g n : Nat} {f : Nat → Pt} (h2 : Below w1.heap.size w1 w2) (h : Rw w1 g n f) : Rw w2 g n f := fun i hi =>
  ⟨⟨cell_keep h2 (h i hi).1.1, cell_keep h2 (h i hi).1.2⟩, fr_keep h2 (h i hi).1.1 (h i hi).2.1, fr_keep h2 (h i hi).1.2 (h i hi).2.2⟩
theorem Rw.drew {W : World} {g n : Nat} {f : Nat → Pt} (h : Rw W g n f) : Rw W.drew g n f := h
/-- A point is written. -/
theorem Rw.set {W : World} {g n : Nat} {f : Nat → Pt} (k : Nat) (p : Pt) (hk : k < n) (h : Rw W g n f) :
    Rw ((W.setCell ⟨g, k * 2, none⟩ (.int .i64 p.1)).setCell ⟨g, k * 2 + 1, none⟩ (.int .i64 p.2)) g n (fun i => if i = k then p else f i) := by
  intro i hi
  have hi' := h i hi
  have hk' := h k hk
  refine ⟨?_, by simpa using hi'.2.1, by simpa using hi'.2.2⟩
  have ne : ∀ a b : Nat, a ≠ b → (⟨g, a, none⟩ : Addr) ≠ ⟨g, b, none⟩ := fun a b hab e => hab (congrArg Addr.off e)
  by_cases e : i = k
  · subst e
    simp only [if_true]
    constructor
    · rw [World.cell?_setCell_other _ _ _ _ (ne _ _ (by omega))]
      exact World.cell?_setCell_same _ _ _ hk'.1.1
    · exact World.cell?_setCell_same _ _ _ ((World.cell?_setCell_other _ _ _ _ (ne (i * 2) (i * 2 + 1) (by omega))).trans hk'.1.2)
  · simp only [if_neg e]
    constructor
    · rw [World.cell?_setCell_other _ _ _ _ (ne _ _ (by omega)), World.cell?_setCell_other _ _ _ _ (ne _ _ (by omega))]
      exact hi'.1.1
    · rw [World.cell?_setCell_other _ _ _ _ (ne _ _ (by omega)), World.cell?_setCell_other _ _ _ _ (ne _ _ (by omega))]
      exact hi'.1.2

/-- 'clear' of a part of such a row. -/
theorem run_clear_pts (W : World) (ty : TypeId) (b o n c : Nat) (hn : 0 < n) (hc : ∀ j, j < n * 2 → (W.cell? ⟨b, o + j, none⟩).isSome = true) (hf : ∀ j, j < n * 2 → W.frozen? ⟨b, o + j, none⟩ = false) :
    (Builtin.clear_ #[22] ty #[.slice (some ⟨b, o, none⟩) n c]).run Try.prog W = .ok (.tuple #[]) (W.setCells b o (List.replicate (n * 2) (.int .i64 0))) := by
  have hzc : (Builtin.zeroCells (Value.agg #[.int .i64 0, .int .i64 0]).cells n).toList = List.replicate (n * 2) (.int .i64 0) := by
    apply List.ext_getElem
    · simp [Builtin.zeroCells, Value.cells]
    · intro i h1 h2
      simp [Builtin.zeroCells, Value.cells]
      have : i % 2 = 0 ∨ i % 2 = 1 := by omega
      rcases this with h | h <;> simp [h]
  have hst := run_storeCells_cells (P := Try.prog) b o (List.replicate (n * 2) (.int .i64 0)) 0 W (by simpa using hc) (by simpa using hf) (by intro v hv'; rw [List.eq_of_mem_replicate hv']; rfl)
  simp only [Nat.add_zero] at hst
  obtain ⟨m, rfl⟩ : ∃ m, n = m + 1 := ⟨n - 1, by omega⟩
  have hv : ∀ W, (zeroValue 33).run Try.prog W = .ok (.agg #[.int .i64 0, .int .i64 0]) W := fun _ => by kernel_rfl
  simp [Builtin.clear_, run_underlying Try.underlying22, hv, hzc, hst]
theorem Rw.cleared {W : World} {g k n : Nat} {f : Nat → Pt} (hk : k ≤ n) (vs : List Value) (h : Rw W g n f) : Rw (W.setCells g (k * 2) vs) g k f := by
  intro i hi
  have hi' := h i (by omega)
  refine ⟨⟨?_, ?_⟩, by rw [World.frozen?_setCells]; exact hi'.2.1, by rw [World.frozen?_setCells]; exact hi'.2.2⟩
  · rw [World.cell?_setCells_out g vs _ _ _ (fun _ _ => .inl (by simp; omega))]; exact hi'.1.1
  · rw [World.cell?_setCells_out g vs _ _ _ (fun _ _ => .inl (by simp; omega))]; exact hi'.1.2
theorem below_setCells (g : Nat) : ∀ (vs : List Value) (o : Nat) (a w : World), Below g a w → Below g a (w.setCells g o vs)
  | [], _, _, _, h => h
  | v :: vs, o, a, _, h => below_setCells g vs (o + 1) a _ (h.setCell (p := ⟨g, o, none⟩) (Nat.le_refl _) v)

theorem below_drewN (W : World) (q : Nat) : Below W.heap.size W (W.drewN q) := ⟨rfl, rfl, rfl, Nat.le_refl _, fun _ _ => rfl⟩
/-- What the inner loop keeps: the first k entries are the points kept of the first j; from j - 1 on nothing has been written. -/
def CI (pts : List Pt) (j k : Nat) (f : Nat → Pt) : Prop := k = (ddTo pts j).length ∧ k + 1 ≤ j ∧ (∀ i, i < k → f i = pa (ddTo pts j) i) ∧ ∀ i, j - 1 ≤ i → f i = pa pts i
theorem ddTo_same (pts : List Pt) (j : Nat) (h1 : 1 ≤ j) (h : pa pts j = pa pts (j - 1)) : ddTo pts (j + 1) = ddTo pts j := by
  rw [ddTo, if_neg (by rintro (h2 | h2); omega; exact h2 h)]
theorem ddTo_next (pts : List Pt) (j : Nat) (h : pa pts j ≠ pa pts (j - 1)) : ddTo pts (j + 1) = ddTo pts j ++ [pa pts j] := by
  rw [ddTo, if_pos (Or.inr h)]
theorem CI.skip {pts : List Pt} {j k : Nat} {f : Nat → Pt} (h : CI pts j k f) (h1 : 1 ≤ j) (he : pa pts j = pa pts (j - 1)) : CI pts (j + 1) k f := by
  obtain ⟨a, b, c, d⟩ := h
  refine ⟨by rw [ddTo_same pts j h1 he]; exact a, by omega, by rw [ddTo_same pts j h1 he]; exact c, fun i hi => d i (by omega)⟩
theorem pa_app_lt (l : List Pt) (p : Pt) (i : Nat) (h : i < l.length) : pa (l ++ [p]) i = pa l i := by
  unfold pa; rw [List.getD_eq_getElem?_getD, List.getD_eq_getElem?_getD, List.getElem?_append_left h]
theorem pa_app_eq (l : List Pt) (p : Pt) : pa (l ++ [p]) l.length = p := by
  unfold pa; rw [List.getD_eq_getElem?_getD, List.getElem?_append_right (Nat.le_refl _)]; simp
theorem CI.keep {pts : List Pt} {j k : Nat} {f : Nat → Pt} (h : CI pts j k f) (he : pa pts j ≠ pa pts (j - 1)) : CI pts (j + 1) (k + 1) (fun i => if i = k then pa pts j else f i) := by
  obtain ⟨a, b, c, d⟩ := h
  refine ⟨by rw [ddTo_next pts j he]; simp [a], by omega, fun i hi => ?_, fun i hi => ?_⟩
  · rw [ddTo_next pts j he]
    by_cases e : i = k
    · subst e; simp only [if_true]; rw [a, pa_app_eq]
    · simp only [if_neg e]; rw [pa_app_lt _ _ _ (by omega)]; exact c i (by omega)
  · simp only [if_neg (show i ≠ k by omega)]; exact d i (by omega)
/-- As long as no neighbors are equal nothing is left out. -/
theorem ddTo_take' (pts : List Pt) (k : Nat) (hk : k ≤ pts.length) (h : ∀ j, 1 ≤ j → j < k → pa pts j ≠ pa pts (j - 1)) : ddTo pts k = pts.take k := by
  induction k with
  | zero => simp [ddTo]
  | succ k ih =>
    have e : pts.take (k + 1) = pts.take k ++ [pa pts k] := by
      rw [List.take_add_one, pa, List.getD_eq_getElem?_getD, List.getElem?_eq_getElem (by omega)]; simp
    rw [e, ← ih (by omega) (fun j h1 h2 => h j h1 (by omega)), ddTo]
    by_cases h0 : k = 0
    · rw [if_pos (Or.inl h0)]
    · rw [if_pos (Or.inr (h k (by omega) (by omega)))]
theorem CI.start {pts : List Pt} {k : Nat} (h1 : 1 ≤ k) (hk : k < pts.length) (h : ∀ j, 1 ≤ j → j < k → pa pts j ≠ pa pts (j - 1)) (he : pa pts k = pa pts (k - 1)) : CI pts (k + 1) k (pa pts) := by
  have e := ddTo_take' pts k (by omega) h
  refine ⟨by rw [ddTo_same pts k h1 he, e]; simp; omega, Nat.le_refl _, fun i hi => ?_, fun _ _ => rfl⟩
  rw [ddTo_same pts k h1 he, e]
  unfold pa
  rw [List.getD_eq_getElem?_getD, List.getD_eq_getElem?_getD, List.getElem?_take, if_pos hi]

set_option maxRecDepth 100000 in
set_option maxHeartbeats 4000000 in
theorem compact_any (g cap : Nat) (pts : List Pt) (hlen : pts.length ≤ maxLen) (hcap : pts.length ≤ cap) (w : World) (hgs : g ≤ w.heap.size) (hR : Rw w g pts.length (pa pts)) :
    Calls Try.prog 37 #[.slice (some ⟨g, 0, none⟩) pts.length cap] w fun e W' =>
      e = .returned (.slice (some ⟨g, 0, none⟩) (ddTo pts pts.length).length cap) ∧ Rw W' g (ddTo pts pts.length).length (pa (ddTo pts pts.length)) ∧ Below g w W' := by
  have hmx : Try.prog.follows .mixedOrders = true := by kernel_rfl
  unfold maxLen at hlen
  have HR := Lib.hid hR
  clear hR
  have hid : ∀ n, n = pts.length → (∀ j, 1 ≤ j → j < n → pa pts j ≠ pa pts (j - 1)) → ddTo pts pts.length = pts := fun n hn h => by
    subst hn; rw [ddTo_take' pts _ (Nat.le_refl _) h]; simp
  have HD := Lib.hid hid
  clear hid
  by_cases h2 : pts.length < 2
  · go_enter Try.func37, Try.ntmps37
    go_wp2
    go_ret
    rw [HD.out _ rfl (fun j h1 h2 => by omega)]
    exact ⟨rfl, HR.out, Below.refl _ _⟩
  · go_enter Try.func37, Try.ntmps37
    go_wp2
    go_loopw [3] (fun s3 wr => ∃ j : Nat, j + 1 ≤ pts.length ∧ s3 = .int .i64 ((j : Int) + 1) ∧ Below w.heap.size w wr ∧ ∀ i, 1 ≤ i → i < j + 1 → pa pts i ≠ pa pts (i - 1)) (fun i _ => pts.length - (intOf i).toNat)
    case atStart => exact ⟨0, by omega, rfl, Below.refl _ _, fun i h1 h2 => by omega⟩
    case round =>
      obtain ⟨j, hk, rfl, hB, hall⟩ := hrel
      rename_i wr
      have HAL := Lib.hid hall
      clear hall
      have HRk := Lib.hid (HR.out.keep hB)
      by_cases hlt : j + 1 < pts.length
      · obtain ⟨⟨c0, c1⟩, _, _⟩ := HRk.out (j + 1) hlt
        obtain ⟨⟨d0, d1⟩, _, _⟩ := HRk.out j (by omega)
        have hwk : IntKind.i64.wrap (j : Int) = j := IntWalk.i64_in _ (by omega)
        have hk1 : j < pts.length := by omega
        have hk2 : (0 : Int) ≤ (j : Int) + 1 := by omega
        obtain ⟨v, hv⟩ : ∃ v, eq2 (pa pts (j + 1)).1 (pa pts (j + 1)).2 (pa pts j).1 (pa pts j).2 = v := ⟨_, rfl⟩
        have HV := Lib.hid hv
        have hpp := eql_pt HV
        clear hv
        cases v
        · have hne : pa pts (j + 1) ≠ pa pts j := fun e => by have := HV.out; rw [e, (eq2_iff _ _ _ _).2 ⟨rfl, rfl⟩] at this; cases this
          go_wp2_with fail
          go_quiet (fail)
          go_wp2
          go_roundw
          case rel =>
            refine ⟨j + 1, by omega, by go_num, below_keep (below_drewN _ _) hB, fun i h1 h2 => ?_⟩
            by_cases e : i = j + 1
            · subst e; exact hne
            · exact HAL.out i h1 (by omega)
          case measure => simp [intOf]; omega
        · have heq : pa pts (j + 1) = pa pts j := Prod.ext ((eq2_iff _ _ _ _).1 HV.out).1 ((eq2_iff _ _ _ _).1 HV.out).2
          have HC := Lib.hid (CI.start (pts := pts) (k := j + 1) (by omega) hlt HAL.out heq)
          have hcp : j + 1 < cap := by omega
          clear hpp
          go_wp2_with fail
          go_quiet (fail)
          go_wp2
          go_loopw [3, 5] (fun s3 s5 w2 => ∃ (kk i : Nat) (f : Nat → Pt), s3 = .int .i64 (kk : Int) ∧ s5 = .int .i64 ((i : Int) + 1) ∧ j + 1 + (i + 1) ≤ pts.length ∧ CI pts (j + 1 + (i + 1)) kk f ∧ Rw w2 g pts.length f ∧ Below g w w2) (fun _ i _ => pts.length - (intOf i).toNat)
          case atStart => exact ⟨j + 1, 0, pa pts, by go_num, rfl, by omega, HC.out, (HRk.out.keep (below_drewN _ _)), (below_keep (below_drewN _ _) hB).mono hgs⟩
          case round =>
            obtain ⟨kk, i, f, rfl, rfl, hle, hC, hF, hBg⟩ := hrel
            rename World => w2
            clear c0 c1 d0 d1
            have HC2 := Lib.hid hC
            have HF := Lib.hid hF
            have hkk := hC.2.1
            clear hC hF
            have hkl : kk < pts.length := by omega
            have hkc : kk < cap := by omega
            have hk0 : (0 : Int) ≤ (i : Int) + 1 := by omega
            have hwi : IntKind.i64.wrap (i : Int) = i := IntWalk.i64_in _ (by omega)
            obtain ⟨⟨k0, k1⟩, m0, m1⟩ := HF.out kk hkl
            by_cases hlt2 : j + 1 + (i + 1) < pts.length
            · obtain ⟨⟨c0, c1⟩, _, _⟩ := HF.out (j + 1 + (i + 1)) hlt2
              obtain ⟨⟨d0, d1⟩, _, _⟩ := HF.out (j + 1 + i) (by omega)
              rw [HC2.out.2.2.2 _ (by omega), show (j + 1 + (i + 1)) * 2 = (j + 1) * 2 + (i + 1) * 2 by omega] at c0 c1
              rw [HC2.out.2.2.2 _ (by omega), show (j + 1 + i) * 2 = (j + 1) * 2 + i * 2 by omega] at d0 d1
              have hi1 : i + 1 < pts.length - (j + 1) := by omega
              have hi2 : i < pts.length - (j + 1) := by omega
              obtain ⟨v, hv⟩ : ∃ v, eq2 (pa pts (j + 1 + (i + 1))).1 (pa pts (j + 1 + (i + 1))).2 (pa pts (j + 1 + i)).1 (pa pts (j + 1 + i)).2 = v := ⟨_, rfl⟩
              have HV2 := Lib.hid hv
              have hpp := neq_pt HV2
              clear hv
              cases v
              · have hne : pa pts (j + 1 + (i + 1)) ≠ pa pts (j + 1 + i) := fun e => by have := HV2.out; rw [e, (eq2_iff _ _ _ _).2 ⟨rfl, rfl⟩] at this; cases this
                go_wp2_with fail
                go_quiet (fail)
                go_wp2
                have hFd := (HF.out.keep (below_drewN w2 nq)).set kk (pa pts (j + 1 + (i + 1))) hkl
                go_roundw
                case rel => exact ⟨kk + 1, i + 1, _, by go_num, by go_num, by omega, HC2.out.keep hne, hFd, ((⟨hBg.os, hBg.tape, hBg.output, hBg.size, hBg.block⟩ : Below g w (w2.drewN nq)).setCell (p := ⟨g, kk * 2, none⟩) (Nat.le_refl _) _).setCell (p := ⟨g, kk * 2 + 1, none⟩) (Nat.le_refl _) _⟩
                case measure => simp [intOf]; omega
              · have heq2 : pa pts (j + 1 + (i + 1)) = pa pts (j + 1 + i) := Prod.ext ((eq2_iff _ _ _ _).1 HV2.out).1 ((eq2_iff _ _ _ _).1 HV2.out).2
                go_wp2_with fail
                go_quiet (fail)
                go_wp2
                go_roundw
                case rel => exact ⟨kk, i + 1, f, rfl, by go_num, by omega, HC2.out.skip (by omega) heq2, HF.out.keep (below_drewN _ _), ⟨hBg.os, hBg.tape, hBg.output, hBg.size, hBg.block⟩⟩
                case measure => simp [intOf]; omega
            · have hend : j + 1 + (i + 1) = pts.length := by omega
              have hcell : ∀ q, q < (pts.length - kk) * 2 → (w2.cell? ⟨g, kk * 2 + q, none⟩).isSome = true ∧ w2.frozen? ⟨g, kk * 2 + q, none⟩ = false := by
                intro q hq
                obtain ⟨⟨a0, a1⟩, a2, a3⟩ := HF.out (kk + q / 2) (by omega)
                rcases Nat.mod_two_eq_zero_or_one q with hm | hm
                · rw [show kk * 2 + q = (kk + q / 2) * 2 by omega, a0]; exact ⟨rfl, a2⟩
                · rw [show kk * 2 + q = (kk + q / 2) * 2 + 1 by omega, a1]; exact ⟨rfl, a3⟩
              have hcl : ∀ ty, (Builtin.clear_ #[22] ty #[.slice (some ⟨g, kk * 2, none⟩) (pts.length - kk) (cap - kk)]).run Try.prog w2 = .ok (.tuple #[]) (w2.setCells g (kk * 2) (List.replicate ((pts.length - kk) * 2) (.int .i64 0))) := fun ty =>
                run_clear_pts w2 ty g (kk * 2) (pts.length - kk) (cap - kk) (by omega) (fun q hq => (hcell q hq).1) (fun q hq => (hcell q hq).2)
              clear hcell
              have HE : Hid ((ddTo pts pts.length).length = kk ∧ ∀ q, q < kk → f q = pa (ddTo pts pts.length) q) := Lib.hid (by
                have h := HC2.out
                rw [hend] at h
                exact ⟨h.1.symm, h.2.2.1⟩)
              go_wp2
              go_ret
              rw [HE.out.1]
              refine ⟨rfl, fun q hq => ?_, below_setCells g _ _ _ _ hBg⟩
              have := (Rw.cleared (Nat.le_of_lt hkl) (List.replicate ((pts.length - kk) * 2) (.int .i64 0)) HF.out) q hq
              rw [HE.out.2 q hq] at this
              exact this
      · have hend : j + 1 = pts.length := by omega
        go_wp2
        go_ret
        rw [HD.out _ hend HAL.out]
        exact ⟨rfl, HRk.out, hB.mono hgs⟩
end Go.Proofs.Ytllhdalfhhjigaa
