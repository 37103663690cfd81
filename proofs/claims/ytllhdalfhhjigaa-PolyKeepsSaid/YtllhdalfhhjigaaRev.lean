/-
  The law's own 'reversed': a list in the opposite order. Condition: at most 1000 points.
-/
import Derived.Test.YtllhdalfhhjigaaPts
import Derived.Test.YtllhdalfhhjigaaSegs
namespace Go.Proofs.Ytllhdalfhhjigaa
open Go.RowKit

def revTo (l : List Pt) (k : Nat) : List Pt := (List.range k).map fun i => pa l (l.length - 1 - i)
theorem revTo_succ (l : List Pt) (k : Nat) : revTo l (k + 1) = revTo l k ++ [pa l (l.length - 1 - k)] := by simp [revTo, List.range_succ]
theorem revTo_length (l : List Pt) (k : Nat) : (revTo l k).length = k := by simp [revTo]
theorem revTo_all (l : List Pt) : revTo l l.length = l.reverse := by
  apply List.ext_getElem
  · simp [revTo]
  · intro i h1 h2
    have hi : i < l.length := by simpa [revTo] using h1
    have e := pa_rev l i hi
    unfold pa at e
    rw [List.getD_eq_getElem?_getD, List.getElem?_eq_getElem h2] at e
    simp only [Option.getD_some] at e
    rw [e]
    simp [revTo, pa]

set_option maxHeartbeats 2000000 in
theorem reversed_any (ao : Option Addr) (cap : Nat) (pts : List Pt) (h5 : pts.length ≤ 1000) (w : World) (hP : Pl w (.slice ao pts.length cap) pts) :
    Calls Try.prog 25 #[.slice ao pts.length cap] w fun e W' => ∃ v', e = .returned v' ∧ Pl W' v' pts.reverse ∧ Below w.heap.size w W' := by
  obtain ⟨i0, hi, hz0, hz1, hz2⟩ := info_parts info_pt
  have HP := Lib.hid hP
  clear hP
  go_enter Try.func25, Try.ntmps25
  have hown : (w.alloc (.cells #[] 33)).ownsRow w.heap.size 33 2 (.slice (some ⟨w.heap.size, 0, none⟩) 0 0) 0 [] := World.ownsRow_lit (base := w.heap.size) (e := 33) (size := 2) w #[] 0 (Nat.le_refl _) (by unfold maxLen; omega) rfl
  go_wp2_with fail
  go_loopw [3, 4] (fun s i wr => ∃ (k : Nat) (m : Int), k ≤ pts.length ∧ m = (pts.length : Int) - 1 - k ∧ i = .int .i64 m ∧ wr.ownsRow w.heap.size 33 2 s k (flat2 (revTo pts k)) ∧ Below w.heap.size w wr) (fun _ i _ => (intOf i + 1).toNat)
  case atStart => exact ⟨0, (pts.length : Int) - 1, Nat.zero_le _, by omega, by go_num, hown, al1 ..⟩
  case round =>
    clear hown
    obtain ⟨k, m, hk, hm, rfl, hown, hB⟩ := hrel
    rename World => wr
    have HO := Lib.hid hown
    clear hown
    by_cases hlt : k < pts.length
    · obtain ⟨j, rfl⟩ : ∃ j : Nat, m = j := ⟨pts.length - 1 - k, by omega⟩
      have HJ : Hid (j = pts.length - 1 - k) := Lib.hid (by omega)
      have hjn : (j : Int) < (pts.length : Int) := by omega
      have hjk : j < pts.length := by omega
      obtain ⟨A, c1, e1, _, c0, c1'⟩ := (HP.out.keep hB).get j hjk
      cases e1
      clear hm
      have hsB := hB.size
      go_wp2_with (at_builtin; refine wpList_append_own _ rfl (.tmp 13) (.tmp 18) 22 rfl w.heap.size 33 i0 (.agg #[.int .i64 0, .int .i64 0]) 2 16 Try.underlying22 hi hz0 hz1 hz2 rfl (by decide) _ _ _ rfl (HO.out.alloc _) ⟨wr.heap.size, 0, none⟩ 1 1 [.int .i64 (pa pts j).1, .int .i64 (pa pts j).2] rfl rfl (cell2_new _ _ _ _) (by simp [Value.oneCell']) (by unfold maxLen; omega) (by omega) (by simp; omega) ?_; intro v3 w3 hown3 hgrow3 _)
      go_roundw
      case rel =>
        refine ⟨k + 1, (j : Int) - 1, by omega, by have := HJ.out; omega, by go_num, ?_, (hB.alloc hsB _).grown hgrow3 (by simp; omega) fun q hq => (HO.out.lt q hq).1⟩
        rw [revTo_succ, flat2_snoc, ← HJ.out]
        exact hown3
      case measure => simp [intOf]
    · have hkn : k = pts.length := by omega
      have hm1 : m = -1 := by omega
      subst hm1
      go_wp2
      go_ret
      have h := HO.out
      rw [hkn, revTo_all] at h
      refine ⟨_, rfl, own_pl (B := w.heap.size) (e := 33) (by rw [List.length_reverse]; exact h), hB⟩
end Go.Proofs.Ytllhdalfhhjigaa
