/-
  What Valid of layer 3, its corners and the reference's Valid return; chains of new blocks. Conditions: arguments are ints; no other.
-/
import Derived.Test.YtllhdalfhhjigaaBoxNum
namespace Go.Proofs.Ytllhdalfhhjigaa
open Go.RowKit

theorem corners_any (x y z u : Int) (w : World) :
    Calls Try.prog 55 #[.agg #[.int .i64 x, .int .i64 y, .int .i64 z, .int .i64 u]] w fun e w' => e = .returned (.tuple #[.agg #[.int .i64 x, .int .i64 y], .agg #[.int .i64 z, .int .i64 u]]) ∧ Below w.heap.size w w' := by
  go_enter Try.func55, Try.ntmps55
  go_wp2_with fail
  go_region
  go_wp2
  exact bodyPost_ret (v := .tuple #[.agg #[.int .i64 x, .int .i64 y], .agg #[.int .i64 z, .int .i64 u]]) (by simp [results, Try.results55, go_sem]) rfl ⟨rfl, (al3 ..).drew⟩

set_option maxHeartbeats 1000000 in
theorem bvalid_any (x y z u : Int) (w : World) :
    Calls Try.prog 47 #[.agg #[.int .i64 x, .int .i64 y, .int .i64 z, .int .i64 u]] w fun e w' => e = .returned (.bool (bvld x y z u)) ∧ Below w.heap.size w w' := by
  obtain ⟨p, hp⟩ : ∃ v, vld x y = v := ⟨_, rfl⟩
  obtain ⟨q, hq⟩ : ∃ v, vld z u = v := ⟨_, rfl⟩
  have HV : Hid (bvld x y z u = (p && q && decide (x ≤ z) && decide (y ≤ u))) := Lib.hid (by unfold bvld; rw [hp, hq])
  have HP := Lib.hid hp
  have HQ := Lib.hid hq
  clear hp hq
  cases p
  · go_enter Try.func47, Try.ntmps47
    go_wp2_with fail
    refine (corners_any _ _ _ _ _).mono ?_
    rintro e w1 ⟨rfl, hb1⟩
    obtain ⟨hc1, hf1⟩ := bcell hb1
    go_wp2_with fail
    refine (valid_of _ _ _ _ HP).mono ?_
    rintro e w2 ⟨rfl, hb2⟩
    go_wp2
    go_ret
    exact ⟨ret_bool HV.out.symm, below_keep (below_keep (below_keep hb2 (al2 ..)) hb1) (al1 ..)⟩
  · cases q
    · go_enter Try.func47, Try.ntmps47
      go_wp2_with fail
      refine (corners_any _ _ _ _ _).mono ?_
      rintro e w1 ⟨rfl, hb1⟩
      obtain ⟨hc1, hf1⟩ := bcell hb1
      go_wp2_with fail
      refine (valid_of _ _ _ _ HP).mono ?_
      rintro e w2 ⟨rfl, hb2⟩
      obtain ⟨hc2, hf2⟩ := bcell hb2
      go_wp2_with fail
      refine (valid_of _ _ _ _ HQ).mono ?_
      rintro e w3 ⟨rfl, hb3⟩
      go_wp2
      go_ret
      exact ⟨ret_bool HV.out.symm, below_keep (below_keep (below_keep (below_keep hb3 hb2) (al2 ..)) hb1) (al1 ..)⟩
    · go_enter Try.func47, Try.ntmps47
      go_wp2_with fail
      refine (corners_any _ _ _ _ _).mono ?_
      rintro e w1 ⟨rfl, hb1⟩
      obtain ⟨hc1, hf1⟩ := bcell hb1
      go_wp2_with fail
      refine (valid_of _ _ _ _ HP).mono ?_
      rintro e w2 ⟨rfl, hb2⟩
      obtain ⟨hc2, hf2⟩ := bcell hb2
      go_wp2_with fail
      refine (valid_of _ _ _ _ HQ).mono ?_
      rintro e w3 ⟨rfl, hb3⟩
      have hb4 : Below w.heap.size w w3 := below_keep (below_keep (below_keep (below_keep hb3 hb2) (al2 ..)) hb1) (al1 ..)
      obtain ⟨k0, k1, k2, k3⟩ := at4_keep (below_keep (below_keep (below_keep hb3 hb2) (al2 ..)) hb1) (at4_new w x y z u _)
      clear hb1 hb2 hb3 hc1 hf1 hc2 hf2
      go_wp2
      all_goals go_ret
      all_goals refine ⟨ret_bool ?_, hb4⟩
      all_goals (rw [HV.out, Bool.eq_iff_iff]; simp; omega)

theorem bvalid_of (x y z u : Int) (v : Bool) (w : World) (hv : Hid (bvld x y z u = v)) :
    Calls Try.prog 47 #[.agg #[.int .i64 x, .int .i64 y, .int .i64 z, .int .i64 u]] w fun e w' => e = .returned (.bool v) ∧ Below w.heap.size w w' := by
  have := bvalid_any x y z u w
  rw [hv.out] at this
  exact this


end Go.Proofs.Ytllhdalfhhjigaa
