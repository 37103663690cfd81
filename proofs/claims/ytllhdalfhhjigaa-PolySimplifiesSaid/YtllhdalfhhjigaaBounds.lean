/-
  Bounds of package poly. Condition: the list is no longer than a list can be.
-/
import Derived.Test.YtllhdalfhhjigaaHas
import Derived.Test.YtllhdalfhhjigaaCount
import Derived.Test.YtllhdalfhhjigaaBoxSlice
namespace Go.Proofs.Ytllhdalfhhjigaa
open Go.RowKit

/-- Bounds, as four numbers. -/
def bdV (l : List Pt) : Int × Int × Int × Int := if pval l then (bx0 l, bx1 l, bx2 l, bx3 l) else (0, 0, 0, 0)
theorem uni_pts (l : List Pt) (hv : ∀ i, i < l.length → vld (pa l i).1 (pa l i).2 = true) : ∀ k, k + 1 ≤ l.length →
    uni (fun i => (pa l i).1) (fun i => (pa l i).2) (fun i => (pa l i).1) (fun i => (pa l i).2) (k + 1) = (true, (bx0 (l.take (k + 1)), bx1 (l.take (k + 1)), bx2 (l.take (k + 1)), bx3 (l.take (k + 1)))) := by
  have hb : ∀ i, i < l.length → bvld (pa l i).1 (pa l i).2 (pa l i).1 (pa l i).2 = true := fun i hi => by
    have := (vld_iff _ _).1 (hv i hi)
    rw [bvld_iff]; omega
  intro k
  induction k with
  | zero =>
    intro h
    obtain ⟨e0, e1, e2, e3⟩ := bx_take_one l h
    rw [uni_first (t := (0, 0, 0, 0)) (hb 0 (by omega)) (uni_zero _ _ _ _), e0, e1, e2, e3]
  | succ k ih =>
    intro h
    obtain ⟨e0, e1, e2, e3⟩ := bx_take l (k + 1) (by omega) (by omega)
    rw [uni_more (hb (k + 1) (by omega)) (ih (by omega)), e0, e1, e2, e3]
theorem uni_all (l : List Pt) (h1 : 1 ≤ l.length) (hv : ∀ i, i < l.length → vld (pa l i).1 (pa l i).2 = true) :
    uni (fun i => (pa l i).1) (fun i => (pa l i).2) (fun i => (pa l i).1) (fun i => (pa l i).2) l.length = (true, (bx0 l, bx1 l, bx2 l, bx3 l)) := by
  have := uni_pts l hv (l.length - 1) (by omega)
  rw [show l.length - 1 + 1 = l.length by omega, List.take_length] at this
  exact this

set_option maxRecDepth 100000 in
set_option maxHeartbeats 4000000 in
theorem bounds_of (ao : Option Addr) (cap : Nat) (pts : List Pt) (b0 b1 b2 b3 : Int) (hlen : pts.length ≤ maxLen) (w : World) (hP : Pl w (.slice ao pts.length cap) pts) (hbd : Hid (bdV pts = (b0, b1, b2, b3))) :
    Calls Try.prog 13 #[.slice ao pts.length cap] w fun e W' => e = .returned (.agg #[.int .i64 b0, .int .i64 b1, .int .i64 b2, .int .i64 b3]) ∧ Below w.heap.size w W' := by
  obtain ⟨i0, hi, hz0, hz1, hz2⟩ := info_parts info_box
  have hmk : i0.bytes = 32 := hz2
  obtain ⟨v, hv⟩ : ∃ v, pval pts = v := ⟨_, rfl⟩
  have HV := Lib.hid hv
  clear hv
  cases v
  · have HO : Hid (b0 = 0 ∧ b1 = 0 ∧ b2 = 0 ∧ b3 = 0) := Lib.hid (by have := hbd.out; unfold bdV at this; rw [HV.out] at this; simp at this; omega)
    go_enter Try.func13, Try.ntmps13
    go_wp2_with fail
    refine (pvalid_of ao cap pts _ hlen _ (hP.keep (al1 ..)) HV).mono ?_
    rintro e w1 ⟨rfl, hb1⟩
    have hR := ow4_keep hb1 (ow4_new w 0 0 0 0 27)
    have hRl : w.heap.size < w1.heap.size := World.block_lt_of_cell? w1 _ hR.1
    obtain ⟨e0, e1, e2, e3, e4, e5, e6, e7⟩ := id hR
    go_wp2
    have hR2 := ow4_set 0 0 0 0 hR
    obtain ⟨c0, c1, c2, c3, _⟩ := id hR2
    refine bodyPost_ret (v := .agg #[.int .i64 0, .int .i64 0, .int .i64 0, .int .i64 0]) (by simp [results, Try.results13, go_sem, c0, c1, c2, c3]) rfl ⟨by rw [HO.out.1, HO.out.2.1, HO.out.2.2.1, HO.out.2.2.2], set4 (below_keep hb1 (al1 ..)) (Nat.le_refl _)⟩
  · have HL := Lib.hid ((pval_iff pts).1 HV.out).1
    have hn5 : pts.length ≤ 512 := HL.out.2
    have hn1 : 1 ≤ pts.length := HL.out.1
    have HU : Hid (uni (fun i => (pa pts i).1) (fun i => (pa pts i).2) (fun i => (pa pts i).1) (fun i => (pa pts i).2) pts.length = (true, (b0, b1, b2, b3))) := Lib.hid (by
      rw [uni_all pts hn1 (valid_pa pts HV.out)]
      have := hbd.out
      unfold bdV at this
      rw [HV.out] at this
      simp only [if_true] at this
      rw [this])
    obtain ⟨A, rfl⟩ : ∃ A, ao = some A := by
      obtain ⟨A, cap', e, _⟩ := hP.get 0 (by omega)
      cases e
      exact ⟨A, rfl⟩
    go_enter Try.func13, Try.ntmps13
    go_wp2_with fail
    refine (pvalid_of _ cap pts _ hlen _ (hP.keep (al1 ..)) HV).mono ?_
    rintro e w1 ⟨rfl, hb1⟩
    have hR := ow4_keep hb1 (ow4_new w 0 0 0 0 27)
    have hRl : w.heap.size < w1.heap.size := World.block_lt_of_cell? w1 _ hR.1
    have hB1 := below_keep hb1 (al1 w (.cells #[.int .i64 0, .int .i64 0, .int .i64 0, .int .i64 0] 27))
    have hP1 := hP.keep hB1
    clear hP hb1
    go_wp2_with (at_make; refine wpList_make_own _ rfl _ _ 44 rfl w1.heap.size 27 i0 (.agg #[.int .i64 0, .int .i64 0, .int .i64 0, .int .i64 0]) 4 Try.underlying44 hi hz0 hz1 .i64 .i64 (pts.length : Int) pts.length rfl rfl rfl (by rw [hmk]; omega) (by unfold maxLen; omega) (Nat.le_refl _) ?_; intro w2 hown2 hgrow2)
    have hb2 : Below w1.heap.size w1 w2 := (Below.refl _ _).grown hgrow2 (Nat.le_refl _) (fun k e => by cases e)
    go_loopw [3, 15] (fun s i wr => ∃ k : Nat, k ≤ pts.length ∧ i = .int .i64 k ∧ wr.ownsRow w1.heap.size 27 4 s k (flat (fun i => (pa pts i).1) (fun i => (pa pts i).2) (fun i => (pa pts i).1) (fun i => (pa pts i).2) k) ∧ Below w1.heap.size w1 wr) (fun _ i _ => pts.length - (intOf i).toNat)
    case atStart => exact ⟨0, Nat.zero_le _, rfl, hown2, hb2⟩
    case round =>
      clear hown2 hgrow2 hb2
      obtain ⟨k, hk, rfl, hown, hB⟩ := hrel
      rename World => wr
      have HO := Lib.hid hown
      clear hown
      by_cases hlt : k < pts.length
      · obtain ⟨A', cap', e1, _, c0, c1⟩ := (hP1.keep hB).get k hlt
        cases e1
        have hsB := hB.size
        go_wp2_with (at_builtin; refine wpList_append_own _ rfl (.tmp 19) (.tmp 29) 44 rfl w1.heap.size 27 i0 (.agg #[.int .i64 0, .int .i64 0, .int .i64 0, .int .i64 0]) 4 32 Try.underlying44 hi hz0 hz1 hz2 rfl (by decide) _ _ _ rfl ((HO.out.alloc _).alloc _) ⟨wr.heap.size + 1, 0, none⟩ 1 1 [.int .i64 (pa pts k).1, .int .i64 (pa pts k).2, .int .i64 (pa pts k).1, .int .i64 (pa pts k).2] rfl rfl (by have := cell4_new (wr.alloc (.cells #[.int .i64 (pa pts k).1, .int .i64 (pa pts k).2] 33)) (.int .i64 (pa pts k).1) (.int .i64 (pa pts k).2) (.int .i64 (pa pts k).1) (.int .i64 (pa pts k).2) 27; simp only [World.size_alloc] at this; exact this) (by intro v hv; simp at hv; rcases hv with rfl | rfl | rfl | rfl <;> rfl) (by unfold maxLen; omega) (by omega) (by simp; omega) ?_; intro v3 w3 hown3 hgrow3 hnil3)
        go_roundw
        case rel => exact ⟨k + 1, by omega, by go_num, by rw [flat_succ]; exact hown3, ((hB.alloc hsB _).alloc (by simp; omega) _).grown hgrow3 (by simp; omega) fun q hq => (HO.out.lt q hq).1⟩
        case measure => simp [intOf]; omega
      · obtain rfl : k = pts.length := by omega
        have gS := own_sl HO.out
        have hR3 := ow4_keep hB hR
        go_wp2_with fail
        refine (union_of _ pts.length _ _ _ _ true b0 b1 b2 b3 _ (by omega) gS HU).mono ?_
        rintro e w4 ⟨rfl, hb4⟩
        have hR4 := ow4_keep hb4 hR3
        have hRl4 : w.heap.size < w4.heap.size := World.block_lt_of_cell? w4 _ hR4.1
        obtain ⟨e0, e1, e2, e3, e4, e5, e6, e7⟩ := id hR4
        go_wp2
        have hR5 := ow4_set b0 b1 b2 b3 hR4
        obtain ⟨c0, c1, c2, c3, _⟩ := id hR5
        refine bodyPost_ret (v := .agg #[.int .i64 b0, .int .i64 b1, .int .i64 b2, .int .i64 b3]) (by simp [results, Try.results13, go_sem, c0, c1, c2, c3]) rfl ⟨rfl, set4 (below_keep hb4 (below_keep hB hB1)) (Nat.le_refl _)⟩
end Go.Proofs.Ytllhdalfhhjigaa
