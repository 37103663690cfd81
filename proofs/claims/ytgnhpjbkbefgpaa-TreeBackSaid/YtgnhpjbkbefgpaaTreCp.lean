/-
  What copied of the landed tree returns: the same list of statements, in blocks of its own. Conditions: at most 600 statements with at most 40 refs and attributes each.
-/
import Derived.Test.YtgnhpjbkbefgpaaTreCl
namespace Go.Proofs.Ytgnhpjbkbefgpaa.tre
open Go.RowKit lex

def CpOut (l : List St) (w : World) (e : Ending) (w' : World) : Prop := ∃ v', e = .returned v' ∧ own w' l w.heap.size w'.heap.size v' ∧ Below w.heap.size w w'
def CpOk (l : List St) : Prop := ∀ (w : World) (v : Value), Hid (Sts w v l) → cnt l ≤ 600 → okL l → Calls Try.prog 44 #[v] w (CpOut l w)
/-- What one round leaves: three new values, and the row's cells turned to them. -/
def CpCut (wr : World) (g k : Nat) (s : St) (wx : World) : Prop := ∃ (wy : World) (n1 n2 : Nat) (v1 v2 v3 : Value), Below wr.heap.size wr wy ∧ wr.heap.size ≤ n1 ∧ n1 ≤ n2 ∧ rowP wy 39 v1 s.refs (inI wr.heap.size n1) ∧ rowP wy 70 v2 s.attrs (inI n1 n2) ∧ own wy s.body n2 wy.heap.size v3 ∧
  wx = ((wy.setCell ⟨g, k * 5 + 2, none⟩ v1).setCell ⟨g, k * 5 + 3, none⟩ v2).setCell ⟨g, k * 5 + 4, none⟩ v3
theorem cp_next {l : List St} {k g : Nat} {arr arr0 : Array Value} {w wr wx : World} (hk : k < l.length) (hg : blk wr g 43 arr) (hwg : w.heap.size ≤ g) (hB : Below w.heap.size w wr) (hA : chain wr (l.take k) (g + 1) wr.heap.size arr 0)
    (hold : ∀ j, k * 5 ≤ j → arr[j]? = arr0[j]?) (e0 : arr[k * 5]? = some (.int .i64 l[k].kind)) (e1 : arr[k * 5 + 1]? = some (.string (bb l[k].name))) (hsz : k * 5 + 4 < arr.size) (hnm : l[k].name.length ≤ maxLen) (hc : CpCut wr g k l[k] wx) :
    ∃ arr', blk wx g 43 arr' ∧ chain wx (l.take (k + 1)) (g + 1) wx.heap.size arr' 0 ∧ (∀ j, (k + 1) * 5 ≤ j → arr'[j]? = arr0[j]?) ∧ Below w.heap.size w wx := by
  obtain ⟨wy, n1, n2, v1, v2, v3, hb, h1, h2, hR, hT, hO, rfl⟩ := hc
  have hgl := blk_lt hg
  have hlk : g + 1 ≤ wr.heap.size := hgl
  have hgy : blk wy g 43 arr := by unfold blk at hg ⊢; rw [hb.block g hgl]; exact hg
  have hgx := blk_set (o := k * 5 + 4) (blk_set (o := k * 5 + 3) (blk_set (o := k * 5 + 2) hgy v1) v2) v3
  have hsz3 : (((wy.setCell ⟨g, k * 5 + 2, none⟩ v1).setCell ⟨g, k * 5 + 3, none⟩ v2).setCell ⟨g, k * 5 + 4, none⟩ v3).heap.size = wy.heap.size := by simp [World.setCell]
  have hfar : ∀ q, q ≠ g → (((wy.setCell ⟨g, k * 5 + 2, none⟩ v1).setCell ⟨g, k * 5 + 3, none⟩ v2).setCell ⟨g, k * 5 + 4, none⟩ v3).heap[q]? = wy.heap[q]? := fun q hq => by
    rw [Below.heap_setCell _ _ _ _ hq, Below.heap_setCell _ _ _ _ hq, Below.heap_setCell _ _ _ _ hq]
  have hA' : ∀ j, j ≠ k * 5 + 2 → j ≠ k * 5 + 3 → j ≠ k * 5 + 4 → (((arr.setIfInBounds (k * 5 + 2) v1).setIfInBounds (k * 5 + 3) v2).setIfInBounds (k * 5 + 4) v3)[j]? = arr[j]? := fun j h1 h2 h3 => by
    rw [Array.getElem?_setIfInBounds_ne (by omega), Array.getElem?_setIfInBounds_ne (by omega), Array.getElem?_setIfInBounds_ne (by omega)]
  have hoy := hO.1
  refine ⟨_, hgx, ?_, fun j hj => by rw [hA' j (by omega) (by omega) (by omega)]; exact hold j (by omega), ?_⟩
  · rw [hsz3, List.take_add_one, List.getElem?_eq_getElem hk]
    refine chain_app.2 ⟨wr.heap.size, ?_, wy.heap.size, v1, v2, v3, ?_, ?_, ?_, ?_, ?_, ?_, ?_⟩
    · refine (own_far1 (W := wr) (a := g + 1) (b := wr.heap.size) (fun q q1 q2 => by rw [hfar q (by omega)]; exact hb.block q q2)).2 _ _ _ _ _ (Nat.le_refl _) (Nat.le_refl _) ?_
      refine chain_arr hA (fun j q1 q2 => hA' j ?_ ?_ ?_)
      all_goals (rw [List.length_take] at q2; omega)
    all_goals (try (rw [List.length_take, Nat.min_eq_left (by omega), Nat.zero_add]))
    · rw [hA' _ (by omega) (by omega) (by omega)]; exact e0
    · rw [hA' _ (by omega) (by omega) (by omega)]; exact e1
    · rw [Array.getElem?_setIfInBounds_ne (by omega), Array.getElem?_setIfInBounds_ne (by omega), Array.getElem?_setIfInBounds_self, if_pos (by omega)]
    · rw [Array.getElem?_setIfInBounds_ne (by omega), Array.getElem?_setIfInBounds_self, if_pos (by simp; omega)]
    · rw [Array.getElem?_setIfInBounds_self, if_pos (by simp; omega)]
    · refine (ownE_eq ..).2 ⟨hnm, n2, wy.heap.size, by omega, Nat.le_refl _, ?_, ?_, ?_⟩
      · exact (hR.keep (fun q hq => hfar q (by have := hq.1; omega))).mono (fun q hq => ⟨hq.1, by have := hq.2; omega, fun e => by have := e.1; have := hq.2; omega⟩)
      · exact (hT.keep (fun q hq => hfar q (by have := hq.1; omega))).mono (fun q hq => ⟨by have := hq.1; omega, by have := hq.2; omega, fun e => by have := e.1; have := hq.2; omega⟩)
      · exact own_move hO (fun q q1 _ => hfar q (by omega))
    · exact Nat.le_refl _
  · exact (((hB.trans (hb.mono hB.size)).setCell hwg _).setCell hwg _).setCell hwg _
end Go.Proofs.Ytgnhpjbkbefgpaa.tre
