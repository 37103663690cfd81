/-
  What has and example of the statements of layer 11 return. Condition: a list in memory.
-/
import Derived.Test.YtjeacpohanadnaaGraRow
namespace Go.Proofs.Ytjeacpohanadnaa.gra
open Go.RowKit lex

set_option maxRecDepth 100000 in
set_option maxHeartbeats 4000000 in
theorem lhas_of (v : Value) (l : List Int) (n : Int) (r : Bool) (w : World) (h : Hid (Ins w v l)) (hr : Hid (l.contains n = r)) :
    Calls Try.prog 25 #[v, .int .i64 n] w fun e w' => e = .returned (.bool r) ∧ w = w' := by
  obtain ⟨ao, cap, rfl, hc, hm, -⟩ := id h.out
  unfold maxLen at hm
  have hlm : l.length ≤ 9223372036854775807 := by omega
  have HR : Hid ((l.drop 0).contains n = r) := Lib.hid (by rw [List.drop_zero]; exact hr.out)
  clear hc hm hr
  go_enter Try.func25, Try.ntmps25
  go_wp2_with fail
  go_loop [5] (fun iv => ∃ k : Nat, iv = .int .i64 k ∧ k ≤ l.length ∧ (l.drop k).contains n = r) (fun iv => l.length - (intOf iv).toNat)
  case atStart => exact ⟨0, rfl, Nat.zero_le _, HR.out⟩
  case round =>
    obtain ⟨k, rfl, hk, hfe⟩ := hrel
    have HFE := Lib.hid hfe
    clear hfe HR
    by_cases hlt : k < l.length
    · have hget := h.out.get hlt
      have hst := HFE.out
      rw [List.drop_eq_getElem_cons hlt, List.contains_cons] at hst
      obtain ⟨y, hy⟩ : ∃ y, l[k] = y := ⟨_, rfl⟩
      rw [hy] at hst hget
      obtain ⟨A, rfl, q0⟩ := hget
      unfold inAt at q0
      rw [Nat.mul_one] at q0
      have i0 : (0 : Int) ≤ (k : Int) := by omega
      have i1 : (k : Int) < (l.length : Int) := by omega
      by_cases hxy : y = n
      · have b1 : (y == n) = true := by rw [beq_iff_eq]; exact hxy
        have b2 : (n == y) = true := by rw [beq_iff_eq]; exact hxy.symm
        rw [b2, Bool.true_or] at hst
        subst hst
        clear hxy hy b2
        go_wp2
        go_ret
        exact ⟨rfl, rfl⟩
      · have b1 : (y == n) = false := by rw [beq_eq_false_iff_ne]; exact hxy
        have b2 : (n == y) = false := by rw [beq_eq_false_iff_ne]; exact fun e => hxy e.symm
        rw [b2, Bool.false_or] at hst
        have HS := Lib.hid hst
        clear hxy hy b2 hst
        go_wp2
        go_round
        case rel => exact ⟨k + 1, by go_num, by omega, HS.out⟩
        case measure => simp [intOf]; omega
    · have hst := HFE.out
      rw [List.drop_of_length_le (by omega)] at hst
      subst hst
      go_wp2
      go_ret
      exact ⟨rfl, rfl⟩
/-- The chapter's example. -/
def exG : Gr := ⟨[103], false, [⟨[120], [], 1, 1, 0, []⟩, ⟨[121], [], 1, 1, 1, []⟩], [⟨0, 1, -1, -1, [], 1, 1⟩], [([99], -1), ([100], 0)]⟩
theorem blk_lt {W : World} {g : Nat} {t : TypeId} {arr : Array Value} (h : blk W g t arr) : g < W.heap.size := by
  rcases Nat.lt_or_ge g W.heap.size with q | q
  · exact q
  · unfold blk at h; rw [Array.getElem?_eq_none (by omega)] at h; cases h
theorem blk_alloc {W : World} {g : Nat} {t : TypeId} {arr : Array Value} (o : Obj) (h : blk W g t arr) : blk (W.alloc o) g t arr := by
  have hl := blk_lt h
  unfold blk at h ⊢
  rw [heap_alloc_old W _ hl]; exact h
/-- A row that stands in a block of its own, as a list. -/
theorem lit_rw {α : Type} {c : Nat} {P : World → Addr → α → Prop} {f : α → List Value} (hf : ∀ x, (f x).length = c) {w : World} {l : List α} (hP : ∀ (b o : Nat) (x : α), x ∈ l → (∀ j, j < c → w.cell? ⟨b, o + j, none⟩ = (f x)[j]?) → P w ⟨b, o, none⟩ x)
    {g : Nat} {t : TypeId} {arr : Array Value} (h : blk w g t arr) (ha : arr.toList = l.flatMap f) (hl : l.length ≤ maxLen) : Rw c P w (.slice (some ⟨g, 0, none⟩) l.length l.length) l := by
  refine ⟨_, _, rfl, Nat.le_refl _, hl, fun _ => ⟨_, rfl, fun i hi => ?_⟩⟩
  rw [add_at, Nat.zero_add]
  refine hP _ _ _ (List.getElem_mem hi) fun j hj => ?_
  rw [blk_cell h, ← Array.getElem?_toList, ha, flat_get f c hf l i j hi hj]
def ndC (x : Nd) : List Value := [.string (bb x.nm), .string (bb x.lb), .int .i64 x.w, .int .i64 x.h, .int .i64 x.cl, .slice none 0 0]
def edC (x : Ed) : List Value := [.int .i64 x.fr, .int .i64 x.to, .int .i64 x.fp, .int .i64 x.tp, .string (bb x.lb), .int .i64 x.wt, .int .i64 x.ln]
def ptC (x : Pt) : List Value := [.string (bb x.1), .int .i64 x.2]
set_option maxRecDepth 100000 in
set_option maxHeartbeats 4000000 in
theorem example_of (w : World) : Calls Try.prog 26 #[] w fun e w' => (∃ v, e = .returned v ∧ GrV w' v exG) ∧ Below w.heap.size w w' := by
  obtain ⟨W1, hW1⟩ : ∃ W1, w.alloc (.cells #[.string ⟨#[103]⟩, .bool false, .slice (some ⟨w.heap.size + 1, 0, none⟩) 2 2, .slice (some ⟨w.heap.size + 1 + 1, 0, none⟩) 1 1, .slice (some ⟨w.heap.size + 1 + 1 + 1, 0, none⟩) 2 2] 26) = W1 := ⟨_, rfl⟩
  obtain ⟨W2, hW2⟩ : ∃ W2, W1.alloc (.cells #[.string ⟨#[120]⟩, .string ⟨#[]⟩, .int .i64 1, .int .i64 1, .int .i64 0, .slice none 0 0, .string ⟨#[121]⟩, .string ⟨#[]⟩, .int .i64 1, .int .i64 1, .int .i64 1, .slice none 0 0] 48) = W2 := ⟨_, rfl⟩
  obtain ⟨W3, hW3⟩ : ∃ W3, W2.alloc (.cells #[.int .i64 0, .int .i64 1, .int .i64 (-1), .int .i64 (-1), .string ⟨#[]⟩, .int .i64 1, .int .i64 1] 56) = W3 := ⟨_, rfl⟩
  obtain ⟨W4, hW4⟩ : ∃ W4, W3.alloc (.cells #[.string ⟨#[99]⟩, .int .i64 (-1), .string ⟨#[100]⟩, .int .i64 0] 50) = W4 := ⟨_, rfl⟩
  have s1 : W1.heap.size = w.heap.size + 1 := by rw [← hW1]; simp
  have s2 : W2.heap.size = w.heap.size + 1 + 1 := by rw [← hW2, ← s1]; simp
  have s3 : W3.heap.size = w.heap.size + 1 + 1 + 1 := by rw [← hW3, ← s2]; simp
  have bg : blk W4 w.heap.size 26 #[.string ⟨#[103]⟩, .bool false, .slice (some ⟨w.heap.size + 1, 0, none⟩) 2 2, .slice (some ⟨w.heap.size + 1 + 1, 0, none⟩) 1 1, .slice (some ⟨w.heap.size + 1 + 1 + 1, 0, none⟩) 2 2] := by
    rw [← hW4, ← hW3, ← hW2, ← hW1]; exact blk_alloc _ (blk_alloc _ (blk_alloc _ (blk_new ..)))
  have bn : blk W4 (w.heap.size + 1) 48 #[.string ⟨#[120]⟩, .string ⟨#[]⟩, .int .i64 1, .int .i64 1, .int .i64 0, .slice none 0 0, .string ⟨#[121]⟩, .string ⟨#[]⟩, .int .i64 1, .int .i64 1, .int .i64 1, .slice none 0 0] := by
    rw [← hW4, ← hW3, ← hW2, ← s1]; exact blk_alloc _ (blk_alloc _ (blk_new ..))
  have be : blk W4 (w.heap.size + 1 + 1) 56 #[.int .i64 0, .int .i64 1, .int .i64 (-1), .int .i64 (-1), .string ⟨#[]⟩, .int .i64 1, .int .i64 1] := by
    rw [← hW4, ← hW3, ← s2]; exact blk_alloc _ (blk_new ..)
  have bc : blk W4 (w.heap.size + 1 + 1 + 1) 50 #[.string ⟨#[99]⟩, .int .i64 (-1), .string ⟨#[100]⟩, .int .i64 0] := by
    rw [← hW4, ← s3]; exact blk_new ..
  have HB : Hid (Below w.heap.size w W4) := Lib.hid (by rw [← hW4, ← hW3, ← hW2, ← hW1]; exact al4 ..)
  have HV : Hid (GrV W4 (.agg #[.string ⟨#[103]⟩, .bool false, .slice (some ⟨w.heap.size + 1, 0, none⟩) 2 2, .slice (some ⟨w.heap.size + 1 + 1, 0, none⟩) 1 1, .slice (some ⟨w.heap.size + 1 + 1 + 1, 0, none⟩) 2 2]) exG) := Lib.hid (by
    refine ⟨_, _, _, rfl, by decide, ?_, ?_, ?_⟩
    · refine lit_rw (f := ndC) (l := exG.ns) (fun _ => rfl) (fun b o x hx hj => ?_) bn rfl (by decide)
      have hps : x.ps = [] ∧ x.nm.length ≤ maxLen ∧ x.lb.length ≤ maxLen ∧ (Lit.int .i64 x.w).wf = true ∧ (Lit.int .i64 x.h).wf = true ∧ (Lit.int .i64 x.cl).wf = true := by
        simp only [exG, List.mem_cons, List.not_mem_nil, or_false] at hx
        rcases hx with rfl | rfl <;> exact ⟨rfl, by decide, by decide, by decide, by decide, by decide⟩
      exact ⟨hj 0 (by decide), hj 1 (by decide), hj 2 (by decide), hj 3 (by decide), hj 4 (by decide), ⟨_, hj 5 (by decide), by rw [hps.1]; exact Rw.nil ..⟩, hps.2⟩
    · refine lit_rw (f := edC) (l := exG.es) (fun _ => rfl) (fun b o x hx hj => ?_) be rfl (by decide)
      have hps : x.lb.length ≤ maxLen ∧ (Lit.int .i64 x.fr).wf = true ∧ (Lit.int .i64 x.to).wf = true ∧ (Lit.int .i64 x.fp).wf = true ∧ (Lit.int .i64 x.tp).wf = true ∧ (Lit.int .i64 x.wt).wf = true ∧ (Lit.int .i64 x.ln).wf = true := by
        simp only [exG, List.mem_cons, List.not_mem_nil, or_false] at hx
        subst hx; exact ⟨by decide, by decide, by decide, by decide, by decide, by decide, by decide⟩
      exact ⟨hj 0 (by decide), hj 1 (by decide), hj 2 (by decide), hj 3 (by decide), hj 4 (by decide), hj 5 (by decide), hj 6 (by decide), hps⟩
    · refine lit_rw (f := ptC) (l := exG.cs) (fun _ => rfl) (fun b o x hx hj => ?_) bc rfl (by decide)
      have hps : x.1.length ≤ maxLen ∧ (Lit.int .i64 x.2).wf = true := by
        simp only [exG, List.mem_cons, List.not_mem_nil, or_false] at hx
        rcases hx with rfl | rfl <;> exact ⟨by decide, by decide⟩
      exact ⟨hj 0 (by decide), hj 1 (by decide), hps⟩)
  have r0 : W4.cell? ⟨w.heap.size, 0, none⟩ = some (.string ⟨#[103]⟩) := by rw [blk_cell bg]; rfl
  have r1 : W4.cell? ⟨w.heap.size, 1, none⟩ = some (.bool false) := by rw [blk_cell bg]; rfl
  have r2 : W4.cell? ⟨w.heap.size, 2, none⟩ = some (.slice (some ⟨w.heap.size + 1, 0, none⟩) 2 2) := by rw [blk_cell bg]; rfl
  have r3 : W4.cell? ⟨w.heap.size, 3, none⟩ = some (.slice (some ⟨w.heap.size + 1 + 1, 0, none⟩) 1 1) := by rw [blk_cell bg]; rfl
  have r4 : W4.cell? ⟨w.heap.size, 4, none⟩ = some (.slice (some ⟨w.heap.size + 1 + 1 + 1, 0, none⟩) 2 2) := by rw [blk_cell bg]; rfl
  have HW1 := Lib.hid hW1
  have HW2 := Lib.hid hW2
  have HW3 := Lib.hid hW3
  have HW4 := Lib.hid hW4
  clear hW1 hW2 hW3 hW4 s1 s2 s3 bg bn be bc
  go_enter Try.func26, Try.ntmps26
  go_wp2
  rw [HW1.out, HW2.out, HW3.out, HW4.out]
  exact bodyPost_ret (v := .agg #[.string ⟨#[103]⟩, .bool false, .slice (some ⟨w.heap.size + 1, 0, none⟩) 2 2, .slice (some ⟨w.heap.size + 1 + 1, 0, none⟩) 1 1, .slice (some ⟨w.heap.size + 1 + 1 + 1, 0, none⟩) 2 2]) (by simp [results, Try.results26, go_sem, r0, r1, r2, r3, r4]) rfl ⟨⟨_, rfl, HV.out⟩, HB.out⟩
end Go.Proofs.Ytjeacpohanadnaa.gra
