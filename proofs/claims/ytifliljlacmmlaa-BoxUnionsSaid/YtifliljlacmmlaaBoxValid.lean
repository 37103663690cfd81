/-
  What Valid of layer 3, its corners and the reference's Valid return; chains of new blocks. Conditions: arguments are ints; no other.
-/
import Derived.Test.YtifliljlacmmlaaBoxNum
namespace Go.Proofs.Ytifliljlacmmlaa
open Go.RowKit

theorem al1 (w : World) (a : Obj) : Below w.heap.size w (w.alloc a) := (Below.refl _ _).alloc (Nat.le_refl _) _
theorem al2 (w : World) (a b : Obj) : Below w.heap.size w ((w.alloc a).alloc b) := (al1 w a).alloc (by simp) _
theorem al3 (w : World) (a b c : Obj) : Below w.heap.size w (((w.alloc a).alloc b).alloc c) := (al2 w a b).alloc (by simp; omega) _
theorem al4 (w : World) (a b c d : Obj) : Below w.heap.size w ((((w.alloc a).alloc b).alloc c).alloc d) := (al3 w a b c).alloc (by simp; omega) _

/-- The four ints of a box in memory, and the two of a point. -/
def at4 (W : World) (b : Nat) (x y z u : Int) : Prop := W.cell? ⟨b, 0, none⟩ = some (.int .i64 x) ∧ W.cell? ⟨b, 1, none⟩ = some (.int .i64 y) ∧ W.cell? ⟨b, 2, none⟩ = some (.int .i64 z) ∧ W.cell? ⟨b, 3, none⟩ = some (.int .i64 u)
def at2 (W : World) (b : Nat) (x y : Int) : Prop := W.cell? ⟨b, 0, none⟩ = some (.int .i64 x) ∧ W.cell? ⟨b, 1, none⟩ = some (.int .i64 y)
theorem at4_new (w : World) (x y z u : Int) (t : TypeId) : at4 (w.alloc (.cells #[.int .i64 x, .int .i64 y, .int .i64 z, .int .i64 u] t)) w.heap.size x y z u := by
  refine ⟨?_, ?_, ?_, ?_⟩ <;> go_simp
theorem at2_new (w : World) (x y : Int) (t : TypeId) : at2 (w.alloc (.cells #[.int .i64 x, .int .i64 y] t)) w.heap.size x y := by
  refine ⟨?_, ?_⟩ <;> go_simp
theorem at4_keep {w1 w2 : World} {b : Nat} {x y z u : Int} (h2 : Below w1.heap.size w1 w2) (h : at4 w1 b x y z u) : at4 w2 b x y z u :=
  ⟨cell_keep h2 h.1, cell_keep h2 h.2.1, cell_keep h2 h.2.2.1, cell_keep h2 h.2.2.2⟩
theorem at2_keep {w1 w2 : World} {b : Nat} {x y : Int} (h2 : Below w1.heap.size w1 w2) (h : at2 w1 b x y) : at2 w2 b x y :=
  ⟨cell_keep h2 h.1, cell_keep h2 h.2⟩

theorem corners_any (x y z u : Int) (w : World) :
    Calls Try.prog 31 #[.agg #[.int .i64 x, .int .i64 y, .int .i64 z, .int .i64 u]] w fun e w' => e = .returned (.tuple #[.agg #[.int .i64 x, .int .i64 y], .agg #[.int .i64 z, .int .i64 u]]) ∧ Below w.heap.size w w' := by
  go_enter Try.func31, Try.ntmps31
  go_wp2_with fail
  go_region
  go_wp2
  exact bodyPost_ret (v := .tuple #[.agg #[.int .i64 x, .int .i64 y], .agg #[.int .i64 z, .int .i64 u]]) (by simp [results, Try.results31, go_sem]) rfl ⟨rfl, (al3 ..).drew⟩

set_option maxHeartbeats 1000000 in
theorem bvalid_any (x y z u : Int) (w : World) :
    Calls Try.prog 9 #[.agg #[.int .i64 x, .int .i64 y, .int .i64 z, .int .i64 u]] w fun e w' => e = .returned (.bool (bvld x y z u)) ∧ Below w.heap.size w w' := by
  obtain ⟨p, hp⟩ : ∃ v, vld x y = v := ⟨_, rfl⟩
  obtain ⟨q, hq⟩ : ∃ v, vld z u = v := ⟨_, rfl⟩
  have HV : Hid (bvld x y z u = (p && q && decide (x ≤ z) && decide (y ≤ u))) := Lib.hid (by unfold bvld; rw [hp, hq])
  have HP := Lib.hid hp
  have HQ := Lib.hid hq
  clear hp hq
  cases p
  · go_enter Try.func9, Try.ntmps9
    go_wp2_with fail
    refine (corners_any _ _ _ _ _).mono ?_
    rintro e w1 ⟨rfl, hb1⟩
    obtain ⟨hc1, hf1⟩ := bcell hb1
    go_wp2_with fail
    refine (valid_of _ _ _ _ HP).mono ?_
    rintro e w2 ⟨rfl, hb2⟩
    go_wp2
    go_ret
    exact ⟨ret_bool HV.out.symm, below_keep (below_keep (below_keep hb2 (al2 ..)) hb1) (al1 ..)⟩
  · cases q
    · go_enter Try.func9, Try.ntmps9
      go_wp2_with fail
      refine (corners_any _ _ _ _ _).mono ?_
      rintro e w1 ⟨rfl, hb1⟩
      obtain ⟨hc1, hf1⟩ := bcell hb1
      go_wp2_with fail
      refine (valid_of _ _ _ _ HP).mono ?_
      rintro e w2 ⟨rfl, hb2⟩
      obtain ⟨hc2, hf2⟩ := bcell hb2
      go_wp2_with fail
      refine (valid_of _ _ _ _ HQ).mono ?_
      rintro e w3 ⟨rfl, hb3⟩
      go_wp2
      go_ret
      exact ⟨ret_bool HV.out.symm, below_keep (below_keep (below_keep (below_keep hb3 hb2) (al2 ..)) hb1) (al1 ..)⟩
    · go_enter Try.func9, Try.ntmps9
      go_wp2_with fail
      refine (corners_any _ _ _ _ _).mono ?_
      rintro e w1 ⟨rfl, hb1⟩
      obtain ⟨hc1, hf1⟩ := bcell hb1
      go_wp2_with fail
      refine (valid_of _ _ _ _ HP).mono ?_
      rintro e w2 ⟨rfl, hb2⟩
      obtain ⟨hc2, hf2⟩ := bcell hb2
      go_wp2_with fail
      refine (valid_of _ _ _ _ HQ).mono ?_
      rintro e w3 ⟨rfl, hb3⟩
      have hb4 : Below w.heap.size w w3 := below_keep (below_keep (below_keep (below_keep hb3 hb2) (al2 ..)) hb1) (al1 ..)
      obtain ⟨k0, k1, k2, k3⟩ := at4_keep (below_keep (below_keep (below_keep hb3 hb2) (al2 ..)) hb1) (at4_new w x y z u _)
      clear hb1 hb2 hb3 hc1 hf1 hc2 hf2
      go_wp2
      all_goals go_ret
      all_goals refine ⟨ret_bool ?_, hb4⟩
      all_goals (rw [HV.out, Bool.eq_iff_iff]; simp; omega)

theorem bvalid_of (x y z u : Int) (v : Bool) (w : World) (hv : Hid (bvld x y z u = v)) :
    Calls Try.prog 9 #[.agg #[.int .i64 x, .int .i64 y, .int .i64 z, .int .i64 u]] w fun e w' => e = .returned (.bool v) ∧ Below w.heap.size w w' := by
  have := bvalid_any x y z u w
  rw [hv.out] at this
  exact this

theorem rvalid_any (x y z u : Int) (w : World) :
    Calls Try.prog 10 #[.agg #[.int .i64 x, .int .i64 y, .int .i64 z, .int .i64 u]] w fun e w' => e = .returned (.bool (bvld x y z u)) ∧ Below w.heap.size w w' := by
  obtain ⟨p, hp⟩ : ∃ v, vld x y = v := ⟨_, rfl⟩
  obtain ⟨q, hq⟩ : ∃ v, vld z u = v := ⟨_, rfl⟩
  have HV : Hid (bvld x y z u = (p && q && decide (x ≤ z) && decide (y ≤ u))) := Lib.hid (by unfold bvld; rw [hp, hq])
  have HP := Lib.hid hp
  have HQ := Lib.hid hq
  clear hp hq
  cases p
  · go_enter Try.func10, Try.ntmps10
    go_wp2_with fail
    refine (point_of _ _ _ _ HP).mono ?_
    rintro e w2 ⟨rfl, hb2⟩
    go_wp2
    go_ret
    exact ⟨ret_bool HV.out.symm, below_keep hb2 (al1 ..)⟩
  · cases q
    · go_enter Try.func10, Try.ntmps10
      go_wp2_with fail
      refine (point_of _ _ _ _ HP).mono ?_
      rintro e w2 ⟨rfl, hb2⟩
      obtain ⟨hc2, hf2⟩ := bcell hb2
      go_wp2_with fail
      refine (point_of _ _ _ _ HQ).mono ?_
      rintro e w3 ⟨rfl, hb3⟩
      go_wp2
      go_ret
      exact ⟨ret_bool HV.out.symm, below_keep (below_keep hb3 hb2) (al1 ..)⟩
    · go_enter Try.func10, Try.ntmps10
      go_wp2_with fail
      refine (point_of _ _ _ _ HP).mono ?_
      rintro e w2 ⟨rfl, hb2⟩
      obtain ⟨hc2, hf2⟩ := bcell hb2
      go_wp2_with fail
      refine (point_of _ _ _ _ HQ).mono ?_
      rintro e w3 ⟨rfl, hb3⟩
      have hb4 : Below w.heap.size w w3 := below_keep (below_keep hb3 hb2) (al1 ..)
      obtain ⟨k0, k1, k2, k3⟩ := at4_keep (below_keep hb3 hb2) (at4_new w x y z u _)
      clear hb3 hb2 hc2 hf2
      go_wp2
      all_goals go_ret
      all_goals refine ⟨ret_bool ?_, hb4⟩
      all_goals (rw [HV.out, Bool.eq_iff_iff]; simp; omega)

theorem rvalid_of (x y z u : Int) (v : Bool) (w : World) (hv : Hid (bvld x y z u = v)) :
    Calls Try.prog 10 #[.agg #[.int .i64 x, .int .i64 y, .int .i64 z, .int .i64 u]] w fun e w' => e = .returned (.bool v) ∧ Below w.heap.size w w' := by
  have := rvalid_any x y z u w
  rw [hv.out] at this
  exact this
end Go.Proofs.Ytifliljlacmmlaa
