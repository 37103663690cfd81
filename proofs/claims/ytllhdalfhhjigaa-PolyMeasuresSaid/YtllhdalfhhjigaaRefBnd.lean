/-
  Bounds of layer 4's reference. Condition: the list is no longer than a list can be.
-/
import Derived.Test.YtllhdalfhhjigaaRefMeas
namespace Go.Proofs.Ytllhdalfhhjigaa
open Go.RowKit Go.Sort

set_option maxRecDepth 100000 in
set_option maxHeartbeats 4000000 in
theorem rbounds_of (ao : Option Addr) (cap : Nat) (pts : List Pt) (b0 b1 b2 b3 : Int) (hlen : pts.length ≤ maxLen) (w : World) (hP : Pl w (.slice ao pts.length cap) pts) (hbd : Hid (bdV pts = (b0, b1, b2, b3))) :
    Calls Try.prog 14 #[.slice ao pts.length cap] w fun e W' => e = .returned (.agg #[.int .i64 b0, .int .i64 b1, .int .i64 b2, .int .i64 b3]) ∧ Below w.heap.size w W' := by
  have hmx : Try.prog.follows .mixedOrders = true := by kernel_rfl
  obtain ⟨v, hv⟩ : ∃ v, pval pts = v := ⟨_, rfl⟩
  have HV := Lib.hid hv
  clear hv
  cases v
  · have HO : Hid (b0 = 0 ∧ b1 = 0 ∧ b2 = 0 ∧ b3 = 0) := Lib.hid (by have := hbd.out; unfold bdV at this; rw [HV.out] at this; simp at this; omega)
    go_enter Try.func14, Try.ntmps14
    go_wp2_with fail
    refine (rvalid_at ao cap _ pts rfl hlen _ (hP.keep (al1 ..)) false HV).mono ?_
    rintro e w1 ⟨rfl, hb1⟩
    have hR := ow4_keep hb1 (ow4_new w 0 0 0 0 27)
    have hRl : w.heap.size < w1.heap.size := World.block_lt_of_cell? w1 _ hR.1
    obtain ⟨e0, e1, e2, e3, e4, e5, e6, e7⟩ := id hR
    go_wp2
    have hR2 := ow4_set 0 0 0 0 hR
    obtain ⟨c0, c1, c2, c3, _⟩ := id hR2
    refine bodyPost_ret (v := .agg #[.int .i64 0, .int .i64 0, .int .i64 0, .int .i64 0]) (by simp [results, Try.results14, go_sem, c0, c1, c2, c3]) rfl ⟨by rw [HO.out.1, HO.out.2.1, HO.out.2.2.1, HO.out.2.2.2], set4 (below_keep hb1 (al1 ..)) (Nat.le_refl _)⟩
  have hL := ((pval_iff pts).1 HV.out).1
  have hn1 : 1 ≤ pts.length := hL.1
  have HA : Hid (bx0 (pts.take pts.length) = b0 ∧ bx1 (pts.take pts.length) = b1 ∧ bx2 (pts.take pts.length) = b2 ∧ bx3 (pts.take pts.length) = b3) := Lib.hid (by
    have := hbd.out
    unfold bdV at this
    rw [HV.out] at this
    simp only [if_true, Prod.mk.injEq] at this
    rw [List.take_length]
    exact this)
  obtain ⟨A, rfl⟩ : ∃ A, ao = some A := by
    obtain ⟨A, cap', e, _⟩ := hP.get 0 (by omega)
    cases e
    exact ⟨A, rfl⟩
  go_enter Try.func14, Try.ntmps14
  go_wp2_with fail
  refine (rvalid_at _ cap _ pts rfl hlen _ (hP.keep (al1 ..)) true HV).mono ?_
  rintro e w1 ⟨rfl, hb1⟩
  have hR := ow4_keep hb1 (ow4_new w 0 0 0 0 27)
  have hRl : w.heap.size < w1.heap.size := World.block_lt_of_cell? w1 _ hR.1
  have hB1 := below_keep hb1 (al1 w (.cells #[.int .i64 0, .int .i64 0, .int .i64 0, .int .i64 0] 27))
  have hP1 := hP.keep hB1
  clear hP hb1
  obtain ⟨c0, c1⟩ := hP1.two 0 hn1
  have d0 : w1.cell? A = some (.int .i64 (pa pts 0).1) := by simpa [Addr.add] using c0
  have d1 : w1.cell? ⟨A.block, A.off + 1, none⟩ = some (.int .i64 (pa pts 0).2) := by simpa [Addr.add] using c1
  have hn0 : 0 < pts.length := hn1
  clear c0 c1
  go_wp2_with fail
  go_region_held3 (fun w' => w'.cell? A = some (.int .i64 (pa pts 0).1) ∧ w'.cell? ⟨A.block, A.off + 1, none⟩ = some (.int .i64 (pa pts 0).2)) (go_keep) (fail)
  have hU : ow4 (w1.alloc (.cells #[.int .i64 (pa pts 0).1, .int .i64 (pa pts 0).2, .int .i64 (pa pts 0).1, .int .i64 (pa pts 0).2] 27)).drew w1.heap.size (pa pts 0).1 (pa pts 0).2 (pa pts 0).1 (pa pts 0).2 := ow4_new w1 (pa pts 0).1 (pa pts 0).2 (pa pts 0).1 (pa pts 0).2 27
  have hB2 : Below w1.heap.size w1 (w1.alloc (.cells #[.int .i64 (pa pts 0).1, .int .i64 (pa pts 0).2, .int .i64 (pa pts 0).1, .int .i64 (pa pts 0).2] 27)).drew := (al1 w1 _).drew
  generalize (w1.alloc (.cells #[.int .i64 (pa pts 0).1, .int .i64 (pa pts 0).2, .int .i64 (pa pts 0).1, .int .i64 (pa pts 0).2] 27)).drew = w2 at *
  obtain ⟨z0, z1, z2, z3⟩ := bx_take_one pts hn1
  have HZ := Lib.hid (And.intro z0 (And.intro z1 (And.intro z2 z3)))
  have HT := Lib.hid (bx_take pts)
  clear z0 z1 z2 z3 d0 d1
  have hR2 := ow4_keep hB2 hR
  go_wp2_with fail
  go_loopw [4] (fun i wr => ∃ a : Nat, a + 1 ≤ pts.length ∧ i = .int .i64 ((a : Int) + 1) ∧ Below w1.heap.size w1 wr ∧ ow4 wr w.heap.size 0 0 0 0 ∧ ow4 wr w1.heap.size (bx0 (pts.take (a + 1))) (bx1 (pts.take (a + 1))) (bx2 (pts.take (a + 1))) (bx3 (pts.take (a + 1)))) (fun i _ => pts.length - (intOf i).toNat)
  case atStart => exact ⟨0, by omega, rfl, hB2, hR2, by rw [show 0 + 1 = 1 from rfl, HZ.out.1, HZ.out.2.1, HZ.out.2.2.1, HZ.out.2.2.2]; exact hU⟩
  case round =>
    clear hU hR2 hB2
    obtain ⟨a, ha, rfl, hB, hRr, hUr⟩ := hrel
    rename World => wr
    by_cases hlt : a + 1 < pts.length
    · obtain ⟨t0, t1, t2, t3⟩ := HT.out (a + 1) hlt (by omega)
      have HN := Lib.hid (And.intro t0 (And.intro t1 (And.intro t2 t3)))
      clear t0 t1 t2 t3
      generalize bx0 (pts.take (a + 1)) = x0 at *
      generalize bx1 (pts.take (a + 1)) = x1 at *
      generalize bx2 (pts.take (a + 1)) = x2 at *
      generalize bx3 (pts.take (a + 1)) = x3 at *
      have na : (0 : Int) ≤ (a : Int) + 1 := by omega
      have hzu : w1.heap.size < wr.heap.size := World.block_lt_of_cell? wr _ hUr.1
      go_wp2_with fail
      refine wp_region_still_tail 33 (by kernel_rfl) (by kernel_rfl) ?_
      change wpStill _ _ wr.drew (fun a' => wpList _ _ _ _ a' wr.drew) _ _
      have hBd : Below w1.heap.size w1 wr.drew := hB.drew
      have hRd : ow4 wr.drew w.heap.size 0 0 0 0 := hRr
      have hUd : ow4 wr.drew w1.heap.size x0 x1 x2 x3 := hUr
      have hzd : w1.heap.size < wr.drew.heap.size := hzu
      obtain ⟨c0, c1⟩ := (hP1.keep hBd).two (a + 1) hlt
      generalize wr.drew = wd at *
      obtain ⟨u0, u1, u2, u3, u4, u5, u6, u7⟩ := id hUd
      simp only [List.take_succ_cons, List.take_zero, List.drop_succ_cons, List.drop_zero]
      repeat still_step
      refine wpStill_nil ?_
      go_wp2
      go_roundw
      case rel => exact ⟨a + 1, by omega, by go_num, set4 hBd (Nat.le_refl _), ow4_far (by omega) hRd, by rw [HN.out.1, HN.out.2.1, HN.out.2.2.1, HN.out.2.2.2]; exact ow4_set _ _ _ _ hUd⟩
      case measure => simp [intOf]; omega
    · have hae : a + 1 = pts.length := by omega
      rw [hae, HA.out.1, HA.out.2.1, HA.out.2.2.1, HA.out.2.2.2] at hUr
      obtain ⟨u0, u1, u2, u3, _⟩ := id hUr
      obtain ⟨e0, e1, e2, e3, e4, e5, e6, e7⟩ := id hRr
      have hzu : w1.heap.size < wr.heap.size := World.block_lt_of_cell? wr _ hUr.1
      have hzr : w.heap.size < wr.heap.size := by omega
      go_wp2
      have hR5 := ow4_set b0 b1 b2 b3 hRr
      obtain ⟨c0, c1, c2, c3, _⟩ := id hR5
      refine bodyPost_ret (v := .agg #[.int .i64 b0, .int .i64 b1, .int .i64 b2, .int .i64 b3]) (by simp [results, Try.results14, go_sem, c0, c1, c2, c3]) rfl ⟨rfl, set4 (below_keep hB hB1) (Nat.le_refl _)⟩
end Go.Proofs.Ytllhdalfhhjigaa
