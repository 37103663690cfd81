/-
  PolyMeasures: for every list of points, Valid, Length, Bounds, Bends and Orthogonal answer as the reference does, as the statement says. No condition.
-/
import Derived.Test.YtllhdalfhhjigaaPolyAwake
import Derived.Test.YtllhdalfhhjigaaRefBnd
namespace Go.Proofs.Ytllhdalfhhjigaa.lmeasures
open Go.ChangeShapes Go.WideShapes Go.ChangeAt Go.RowKit

set_option maxHeartbeats 1000000 in
theorem far (ao : Option Addr) (n cap : Nat) (w : World) (h : (1100 : Int) < n) :
    Calls Try.prog 3 #[.slice ao n cap] w fun e w' => e = .returned (.bool true) ∧ Below w.heap.size w w' := by
  go_enter Try.func3, Try.ntmps3
  go_wp2_with fail
  refine (awake_any _).mono ?_
  rintro e w1 ⟨rfl, hb1⟩
  go_wp2
  go_ret
  exact ⟨rfl, hb1⟩

set_option maxRecDepth 100000 in
set_option maxHeartbeats 4000000 in
theorem near (ao : Option Addr) (cap : Nat) (l : List Pt) (w0 : World) (hl : l.length ≤ 1100) (pL0 : Pl w0 (.slice ao l.length cap) l) :
    Calls Try.prog 3 #[.slice ao l.length cap] w0 fun e w' => e = .returned (.bool true) ∧ Below w0.heap.size w0 w' := by
  have hm : l.length ≤ maxLen := by unfold maxLen; omega
  obtain ⟨v, hv⟩ : ∃ v, pval l = v := ⟨_, rfl⟩
  obtain ⟨n, hn⟩ : ∃ n, lenV l = n := ⟨_, rfl⟩
  obtain ⟨⟨b0, b1, b2, b3⟩, hb⟩ : ∃ b, bdV l = b := ⟨_, rfl⟩
  obtain ⟨c, hc⟩ : ∃ c, bndV l = c := ⟨_, rfl⟩
  obtain ⟨o, ho⟩ : ∃ o, ortB l = o := ⟨_, rfl⟩
  have HV := Lib.hid hv
  have HN := Lib.hid hn
  have HB := Lib.hid hb
  have HC := Lib.hid hc
  have HO := Lib.hid ho
  have q1 := fun w h => (rlength_any ao cap l hm w h)
  have q2 := fun w h => (rbends_any ao cap l hm w h)
  have q3 := fun w h => (rortho_any ao cap l hm w h)
  rw [hn] at q1
  rw [hc] at q2
  rw [ho] at q3
  have ev : (v == v) = true := by simp
  have eo : (o == o) = true := by simp
  have hbb := eql_box (Lib.hid ((eq4_iff b0 b1 b2 b3 b0 b1 b2 b3).2 ⟨rfl, rfl, rfl, rfl⟩))
  clear hv hn hb hc ho
  have hB0 := Below.refl w0.heap.size w0
  go_enter Try.func3, Try.ntmps3
  go_wp2_with fail
  refine (pvalid_at _ _ _ l rfl hm _ pL0 v HV).mono ?_
  rintro e w1 ⟨rfl, hb1⟩
  have pL1 := pL0.keep hb1
  have hB1 := below_keep hb1 hB0
  clear pL0 hB0 hb1
  go_wp2_with fail
  refine (rvalid_at _ _ _ l rfl hm _ pL1 v HV).mono ?_
  rintro e w2 ⟨rfl, hb2⟩
  have pL2 := pL1.keep hb2
  have hB2 := below_keep hb2 hB1
  clear pL1 hB1 hb2
  go_wp2_with fail
  refine (length_at _ _ _ l rfl hm _ pL2 n HN).mono ?_
  rintro e w3 ⟨rfl, hb3⟩
  have pL3 := pL2.keep hb3
  have hB3 := below_keep hb3 hB2
  clear pL2 hB2 hb3
  go_wp2_with fail
  refine (q1 _ pL3).mono ?_
  rintro e w4 ⟨rfl, hb4⟩
  have pL4 := pL3.keep hb4
  have hB4 := below_keep hb4 hB3
  clear pL3 hB3 hb4
  go_wp2_with fail
  refine (bounds_at _ _ _ l rfl hm _ pL4 b0 b1 b2 b3 HB).mono ?_
  rintro e w5 ⟨rfl, hb5⟩
  have pL5 := pL4.keep hb5
  have hB5 := below_keep hb5 hB4
  clear pL4 hB4 hb5
  go_wp2_with fail
  refine (rbounds_of _ _ l b0 b1 b2 b3 hm _ pL5 HB).mono ?_
  rintro e w6 ⟨rfl, hb6⟩
  have pL6 := pL5.keep hb6
  have hB6 := below_keep hb6 hB5
  clear pL5 hB5 hb6
  go_wp2_with fail
  refine (bends_at _ _ _ l rfl hm _ pL6 c HC).mono ?_
  rintro e w7 ⟨rfl, hb7⟩
  have pL7 := pL6.keep hb7
  have hB7 := below_keep hb7 hB6
  clear pL6 hB6 hb7
  go_wp2_with fail
  refine (q2 _ pL7).mono ?_
  rintro e w8 ⟨rfl, hb8⟩
  have pL8 := pL7.keep hb8
  have hB8 := below_keep hb8 hB7
  clear pL7 hB7 hb8
  go_wp2_with fail
  refine (ortho_at _ _ _ l rfl hm _ pL8 o HO).mono ?_
  rintro e w9 ⟨rfl, hb9⟩
  have pL9 := pL8.keep hb9
  have hB9 := below_keep hb9 hB8
  clear pL8 hB8 hb9
  go_wp2_with fail
  refine (q3 _ pL9).mono ?_
  rintro e w10 ⟨rfl, hb10⟩
  have pL10 := pL9.keep hb10
  have hB10 := below_keep hb10 hB9
  clear pL9 hB9 hb10
  go_wp2_with fail
  refine (awake_any _).mono ?_
  rintro e w11 ⟨rfl, hb11⟩
  have hB11 := below_keep hb11 hB10
  clear  hB10 hb11
  go_wp2
  go_ret
  exact ⟨rfl, hB11⟩

theorem top (v0 : Value) (l0 : List Pt) (W : World) (s0 : Pl W v0 l0) (_m0 : l0.length ≤ maxLen) :
    Calls Try.prog 3 #[v0] W fun e w' => e = .returned (.bool true) ∧ Below W.heap.size W w' := by
  obtain ⟨ao, cap, rfl, hx⟩ := id s0
  by_cases h : l0.length ≤ 1100
  · exact near ao cap l0 W h s0
  · exact far ao l0.length cap W (by omega)

set_option maxRecDepth 100000 in
theorem lifted (os : Os) (started : os.Started) (H : Type) (enc : TypeId × Value → H) :
    ReturnsInHanded {} Try.checked os 3 .any (Rows.polyMeasuresSpec.pre6 enc Try.prog Try.f3 Rows.polyMeasuresRow.domain false) (Rows.polyMeasuresSpec.post enc Try.prog Try.f3 false true false false) := by
  refine returnsInHanded_of_change (C := Try.checked) own started (by kernel_rfl) Try.func3
    (ChangeSpec.witness6 (enc := enc) (C := Try.checked) false ⟨#[], #[.slice none 0 0], []⟩ 8 (by kernel_rfl) (by kernel_rfl) (by kernel_rfl) (by kernel_rfl)) ?_
  intro W base args ds gs before hval0 hW _ _
  have hval : ∀ (j : Nat) t v, Try.f3.params[j]? = some t → args[j]? = some v → Value.okWide Try.prog W .any base t v := hval0
  have hW' := hW
  obtain ⟨p, q, hA0, hV, rfl, hfz, hnd⟩ := hW
  have hA : DataW.TrodAll enc Try.prog W 0 (fun _ => true) true Try.f3.params.toList args.toList ds p := hA0
  rw [Try.params3] at hA hval
  obtain ⟨v0, d0, rfl, rfl, h0⟩ := trodAll_one hA
  obtain ⟨rfl, rfl⟩ := trodVars_none hV
  obtain ⟨l0, s0, m0⟩ := open_points (hval 0 22 v0 rfl rfl) h0
  clear hA0 hval0
  simp only [List.append_nil] at hW'
  have hlt0 : ∀ x ∈ p, x.block < W.heap.size := fun x hx => by simpa using hW'.lt x (by simp [hx])
  refine (top v0 l0 W s0 m0).mono fun e W' ⟨he, hb⟩ => ?_
  subst he
  exact ⟨_, rfl, _, _, _, [], p, [], hW', trodAll_mk1 (shut_bool Try.underlying4 _), trodAll_mk1 (Below.trod laidOut (by kernel_rfl) (of_decide_eq_true (by kernel_rfl)) h0 hb hlt0), rfl, hb.frame _, fun h => by cases h⟩

/-- The statement. -/
theorem holds : Rows.PolyMeasuresSaid :=
  OpenClaim.holds_of_wide 3 Try.f3 rfl rfl rfl rfl rfl rfl rfl ⟨rfl, rfl, rfl, rfl, rfl⟩ rfl rfl rfl rfl rfl (by kernel_rfl) Try.func3 (by kernel_rfl)
    (of_decide_eq_true (by kernel_rfl)) (by unfold Func.isWrapper; first | (rw [if_pos (by decide +kernel)]; kernel_rfl) | (rw [if_neg (by decide +kernel)]; exact ⟨rfl, rfl⟩))
    (fun os started H enc _ => lifted os started H enc)
#print axioms holds


end Go.Proofs.Ytllhdalfhhjigaa.lmeasures
