/-
  TrigSymmetric: for every angle, Sin is odd, Cos is even, opposite angles have opposite values, and the squares add up to one up to rounding, as the statement says. No condition.
-/
import Derived.Test.YtfdhnjoiklhiaaaTrigAwake
import Derived.Test.YtfdhnjoiklhiaaaTrigAbs
namespace Go.Proofs.Ytfdhnjoiklhiaaa.lsymmetric
open Go.ChangeShapes Go.WideShapes Go.ChangeAt Go.RowKit

theorem sq_nn (s : Int) (h0 : 0 ≤ s) (h1 : s ≤ 10000) : 0 ≤ s * s ∧ s * s ≤ 100000000 := by
  have := mul_le s s h0 h0 h1
  omega
theorem sq_range (s : Int) (h0 : -10000 ≤ s) (h1 : s ≤ 10000) : 0 ≤ s * s ∧ s * s ≤ 100000000 := by
  rcases Int.lt_or_le s 0 with h | h
  · rw [← Int.neg_mul_neg]; exact sq_nn (-s) (by omega) (by omega)
  · exact sq_nn s h h1

set_option maxHeartbeats 4000000 in
theorem far0 (d : Int) (w : World) (h : d < -1099511627776) :
    Calls Try.prog 5 #[.int .i64 d] w fun e w' => e = .returned (.bool true) ∧ Below w.heap.size w w' := by
  obtain ⟨s, hs⟩ : ∃ v, sinD d = v := ⟨_, rfl⟩
  obtain ⟨c, hc⟩ : ∃ v, cosD d = v := ⟨_, rfl⟩
  have rs := sin_range d
  have rc := cos_range d
  have h1 := sin_one d
  rw [hs] at rs
  rw [hc] at rc
  rw [hs, hc] at h1
  have HS := Lib.hid hs
  have HC := Lib.hid hc
  clear hs hc
  obtain ⟨s0, s1⟩ := rs
  obtain ⟨c0, c1⟩ := rc
  obtain ⟨p0, p1⟩ := sq_range s s0 s1
  obtain ⟨q0, q1⟩ := sq_range c c0 c1
  obtain ⟨u, hu⟩ : ∃ u, absI (s * s + c * c - 100000000) = u := ⟨_, rfl⟩
  have hu1 : u ≤ 15000 := by rw [← hu]; unfold absI; split <;> omega
  have HU := Lib.hid hu
  have HR : Hid (-9223372036854775807 ≤ s * s + c * c - 100000000 ∧ s * s + c * c - 100000000 ≤ 9223372036854775807) := Lib.hid (by omega)
  clear hu h1
  go_enter Try.func5, Try.ntmps5
  go_wp2_with fail
  refine (sin_of _ _ _ HS).mono ?_
  rintro e w1 ⟨rfl, hb1⟩
  go_wp2_with fail
  refine (cos_of _ _ _ HC).mono ?_
  rintro e w2 ⟨rfl, hb2⟩
  have hb2 := below_keep hb2 hb1
  clear hb1
  go_wp2_with fail
  refine (labs_of _ _ _ HR HU).mono ?_
  rintro e w' ⟨rfl, rfl⟩
  go_wp2_with fail
  refine (awake_any _).mono ?_
  rintro e w3 ⟨rfl, hb3⟩
  have hb3 := below_keep hb3 hb2
  clear hb2
  go_wp2
  go_ret
  exact ⟨ret_bool (by simp), hb3⟩

set_option maxHeartbeats 4000000 in
theorem far1 (d : Int) (w : World) (h : 1099511627776 < d) :
    Calls Try.prog 5 #[.int .i64 d] w fun e w' => e = .returned (.bool true) ∧ Below w.heap.size w w' := by
  obtain ⟨s, hs⟩ : ∃ v, sinD d = v := ⟨_, rfl⟩
  obtain ⟨c, hc⟩ : ∃ v, cosD d = v := ⟨_, rfl⟩
  have rs := sin_range d
  have rc := cos_range d
  have h1 := sin_one d
  rw [hs] at rs
  rw [hc] at rc
  rw [hs, hc] at h1
  have HS := Lib.hid hs
  have HC := Lib.hid hc
  clear hs hc
  obtain ⟨s0, s1⟩ := rs
  obtain ⟨c0, c1⟩ := rc
  obtain ⟨p0, p1⟩ := sq_range s s0 s1
  obtain ⟨q0, q1⟩ := sq_range c c0 c1
  obtain ⟨u, hu⟩ : ∃ u, absI (s * s + c * c - 100000000) = u := ⟨_, rfl⟩
  have hu1 : u ≤ 15000 := by rw [← hu]; unfold absI; split <;> omega
  have HU := Lib.hid hu
  have HR : Hid (-9223372036854775807 ≤ s * s + c * c - 100000000 ∧ s * s + c * c - 100000000 ≤ 9223372036854775807) := Lib.hid (by omega)
  clear hu h1
  go_enter Try.func5, Try.ntmps5
  go_wp2_with fail
  refine (sin_of _ _ _ HS).mono ?_
  rintro e w1 ⟨rfl, hb1⟩
  go_wp2_with fail
  refine (cos_of _ _ _ HC).mono ?_
  rintro e w2 ⟨rfl, hb2⟩
  have hb2 := below_keep hb2 hb1
  clear hb1
  go_wp2_with fail
  refine (labs_of _ _ _ HR HU).mono ?_
  rintro e w' ⟨rfl, rfl⟩
  go_wp2_with fail
  refine (awake_any _).mono ?_
  rintro e w3 ⟨rfl, hb3⟩
  have hb3 := below_keep hb3 hb2
  clear hb2
  go_wp2
  go_ret
  exact ⟨ret_bool (by simp), hb3⟩

set_option maxHeartbeats 4000000 in
theorem near (d : Int) (w : World) (h : -1099511627776 ≤ d) (h' : d ≤ 1099511627776) :
    Calls Try.prog 5 #[.int .i64 d] w fun e w' => e = .returned (.bool true) ∧ Below w.heap.size w w' := by
  obtain ⟨s, hs⟩ : ∃ v, sinD d = v := ⟨_, rfl⟩
  obtain ⟨c, hc⟩ : ∃ v, cosD d = v := ⟨_, rfl⟩
  have rs := sin_range d
  have rc := cos_range d
  have h1 := sin_one d
  rw [hs] at rs
  rw [hc] at rc
  rw [hs, hc] at h1
  have HN1 : Hid (sinD (-d) = -s) := Lib.hid (by rw [sin_neg, hs])
  have HN2 : Hid (cosD (-d) = c) := Lib.hid (by rw [cos_neg, hc])
  have HN3 : Hid (sinD (d + 180) = -s) := Lib.hid (by rw [sin_half, hs])
  have HN4 : Hid (cosD (d + 180) = -c) := Lib.hid (by rw [cos_half, hc])
  have HN5 : Hid (sinD (d + 90) = c) := Lib.hid (by rw [sin_quarter, hc])
  have HS := Lib.hid hs
  have HC := Lib.hid hc
  clear hs hc
  obtain ⟨s0, s1⟩ := rs
  obtain ⟨c0, c1⟩ := rc
  obtain ⟨p0, p1⟩ := sq_range s s0 s1
  obtain ⟨q0, q1⟩ := sq_range c c0 c1
  obtain ⟨u, hu⟩ : ∃ u, absI (s * s + c * c - 100000000) = u := ⟨_, rfl⟩
  have hu1 : u ≤ 15000 := by rw [← hu]; unfold absI; split <;> omega
  have HU := Lib.hid hu
  have HR : Hid (-9223372036854775807 ≤ s * s + c * c - 100000000 ∧ s * s + c * c - 100000000 ≤ 9223372036854775807) := Lib.hid (by omega)
  clear hu h1
  go_enter Try.func5, Try.ntmps5
  go_wp2_with fail
  refine (sin_of _ _ _ HS).mono ?_
  rintro e w1 ⟨rfl, hb1⟩
  go_wp2_with fail
  refine (cos_of _ _ _ HC).mono ?_
  rintro e w2 ⟨rfl, hb2⟩
  have hb2 := below_keep hb2 hb1
  clear hb1
  go_wp2_with fail
  refine (sin_of _ _ _ HN1).mono ?_
  rintro e w3 ⟨rfl, hb3⟩
  have hb3 := below_keep hb3 hb2
  clear hb2
  go_wp2_with fail
  refine (cos_of _ _ _ HN2).mono ?_
  rintro e w4 ⟨rfl, hb4⟩
  have hb4 := below_keep hb4 hb3
  clear hb3
  go_wp2_with fail
  refine (sin_of _ _ _ HN3).mono ?_
  rintro e w5 ⟨rfl, hb5⟩
  have hb5 := below_keep hb5 hb4
  clear hb4
  go_wp2_with fail
  refine (cos_of _ _ _ HN4).mono ?_
  rintro e w6 ⟨rfl, hb6⟩
  have hb6 := below_keep hb6 hb5
  clear hb5
  go_wp2_with fail
  refine (sin_of _ _ _ HN5).mono ?_
  rintro e w7 ⟨rfl, hb7⟩
  have hb7 := below_keep hb7 hb6
  clear hb6
  go_wp2_with fail
  refine (labs_of _ _ _ HR HU).mono ?_
  rintro e w' ⟨rfl, rfl⟩
  go_wp2_with fail
  refine (awake_any _).mono ?_
  rintro e w8 ⟨rfl, hb8⟩
  have hb8 := below_keep hb8 hb7
  clear hb7
  go_wp2
  go_ret
  exact ⟨ret_bool (by simp), hb8⟩

theorem top (d : Int) (_h0 : -9223372036854775808 ≤ d) (_h1 : d ≤ 9223372036854775807) (w : World) :
    Calls Try.prog 5 #[.int .i64 d] w fun e w' => e = .returned (.bool true) ∧ Below w.heap.size w w' := by
  rcases Int.lt_or_le d (-1099511627776) with h | h
  · exact far0 d w h
  · rcases Int.lt_or_le 1099511627776 d with h' | h'
    · exact far1 d w h'
    · exact near d w h h'


set_option maxRecDepth 100000 in
theorem lifted (os : Os) (started : os.Started) (H : Type) (enc : TypeId × Value → H) :
    ReturnsInHanded {} Try.checked os 5 .any (Rows.trigSymmetricSpec.pre6 enc Try.prog Try.f5 Rows.trigSymmetricRow.domain false) (Rows.trigSymmetricSpec.post enc Try.prog Try.f5 false true false false) := by
  refine returnsInHanded_of_change (C := Try.checked) own started (by kernel_rfl) Try.func5
    (ChangeSpec.witness6 (enc := enc) (C := Try.checked) false ⟨#[], #[.int .i64 0], []⟩ 8 (by kernel_rfl) (by kernel_rfl) (by kernel_rfl) (by kernel_rfl)) ?_
  intro W base args ds gs before hval0 hW _ _
  have hval : ∀ (j : Nat) t v, Try.f5.params[j]? = some t → args[j]? = some v → Value.okWide Try.prog W .any base t v := hval0
  have hW' := hW
  obtain ⟨p, q, hA0, hV, rfl, hfz, hnd⟩ := hW
  have hA : DataW.TrodAll enc Try.prog W 0 (fun _ => true) true Try.f5.params.toList args.toList ds p := hA0
  rw [Try.params5] at hA hval
  obtain ⟨v0, d0, rfl, rfl, h0⟩ := trodAll_one hA
  obtain ⟨rfl, rfl⟩ := trodVars_none hV
  obtain ⟨x0, rfl, rfl, rfl, wx0⟩ := open_int Try.underlying3 (hval 0 3 v0 rfl rfl) h0
  have bx0 := bounds_i64 wx0
  clear hA0 hval0
  simp only [List.append_nil] at hW'
  refine (top x0 bx0.1 bx0.2 W).mono fun e W' ⟨he, hb⟩ => ?_
  subst he
  exact ⟨_, rfl, _, _, _, [], [], [], hW', trodAll_mk1 (shut_bool Try.underlying4 _), trodAll_mk1 (shut_int Try.underlying3 wx0), rfl, hb.frame _, fun h => by cases h⟩

/-- The statement. -/
theorem holds : Rows.TrigSymmetricSaid :=
  OpenClaim.holds_of_wide 5 Try.f5 rfl rfl rfl rfl rfl rfl rfl ⟨rfl, rfl, rfl, rfl, rfl⟩ rfl rfl rfl rfl rfl (by kernel_rfl) Try.func5 (by kernel_rfl)
    (of_decide_eq_true (by kernel_rfl)) (by unfold Func.isWrapper; first | (rw [if_pos (by decide +kernel)]; kernel_rfl) | (rw [if_neg (by decide +kernel)]; exact ⟨rfl, rfl⟩))
    (fun os started H enc _ => lifted os started H enc)
#print axioms holds

end Go.Proofs.Ytfdhnjoiklhiaaa.lsymmetric
