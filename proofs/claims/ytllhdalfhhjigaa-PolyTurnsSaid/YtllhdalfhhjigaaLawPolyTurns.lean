/-
  PolyTurns: for every list of points, a path and the path in the opposite direction have the same length, bounds and bends, and Simplify of one is that of the other in the opposite order, as the statement says. No condition.
-/
import Derived.Test.YtllhdalfhhjigaaPolyAwake
import Derived.Test.YtllhdalfhhjigaaRev
namespace Go.Proofs.Ytllhdalfhhjigaa.lturns
open Go.ChangeShapes Go.WideShapes Go.ChangeAt Go.RowKit

set_option maxHeartbeats 1000000 in
theorem far (ao : Option Addr) (n cap : Nat) (w : World) (h : (512 : Int) < n) :
    Calls Try.prog 6 #[.slice ao n cap] w fun e w' => e = .returned (.bool true) ∧ Below w.heap.size w w' := by
  go_enter Try.func6, Try.ntmps6
  go_wp2_with fail
  refine (awake_any _).mono ?_
  rintro e w1 ⟨rfl, hb1⟩
  go_wp2
  go_ret
  exact ⟨rfl, hb1⟩
set_option maxHeartbeats 1000000 in
theorem bad (ao : Option Addr) (cap : Nat) (l : List Pt) (w : World) (hl : l.length ≤ 512) (hP : Pl w (.slice ao l.length cap) l) (h : Hid (pval l = false)) :
    Calls Try.prog 6 #[.slice ao l.length cap] w fun e w' => e = .returned (.bool true) ∧ Below w.heap.size w w' := by
  go_enter Try.func6, Try.ntmps6
  go_wp2_with fail
  refine (pvalid_at _ _ _ l rfl (by unfold maxLen; omega) _ hP false h).mono ?_
  rintro e w1 ⟨rfl, hb1⟩
  go_wp2_with fail
  refine (awake_any _).mono ?_
  rintro e w2 ⟨rfl, hb2⟩
  go_wp2
  go_ret
  exact ⟨rfl, below_keep hb2 hb1⟩

set_option maxRecDepth 100000 in
set_option maxHeartbeats 4000000 in
theorem near (ao : Option Addr) (cap : Nat) (l : List Pt) (w0 : World) (hl : l.length ≤ 512) (pL0 : Pl w0 (.slice ao l.length cap) l) (HV : Hid (pval l = true)) :
    Calls Try.prog 6 #[.slice ao l.length cap] w0 fun e w' => e = .returned (.bool true) ∧ Below w0.heap.size w0 w' := by
  have hm : l.length ≤ maxLen := by unfold maxLen; omega
  have hmr : l.reverse.length ≤ maxLen := by rw [List.length_reverse]; exact hm
  obtain ⟨n, hn⟩ : ∃ n, lenV l = n := ⟨_, rfl⟩
  obtain ⟨⟨b0, b1, b2, b3⟩, hb⟩ : ∃ b, bdV l = b := ⟨_, rfl⟩
  obtain ⟨c, hc⟩ : ∃ c, bndV l = c := ⟨_, rfl⟩
  obtain ⟨S, hS⟩ : ∃ S, simp4 l = S := ⟨_, rfl⟩
  have HVr : Hid (pval l.reverse = true) := Lib.hid (by rw [pval_rev]; exact HV.out)
  have HN := Lib.hid hn
  have HNr : Hid (lenV l.reverse = n) := Lib.hid (by rw [← hn]; unfold lenV; rw [pval_rev, lenL_rev])
  have HB := Lib.hid hb
  have HBr : Hid (bdV l.reverse = (b0, b1, b2, b3)) := Lib.hid (by rw [← hb]; unfold bdV; rw [pval_rev]; obtain ⟨e0, e1, e2, e3⟩ := bx_rev l; rw [e0, e1, e2, e3])
  have HC := Lib.hid hc
  have HCr : Hid (bndV l.reverse = c) := Lib.hid (by rw [← hc]; unfold bndV; rw [pval_rev, List.length_reverse, bends_rev])
  have HS := Lib.hid hS
  have HSr : Hid (simp4 l.reverse = S.reverse) := Lib.hid (by rw [← hS, simp4_valid _ HVr.out, simp4_valid _ HV.out, simpL_rev])
  have hSl : S.length ≤ 512 := by rw [← hS, simp4_valid _ HV.out]; exact Nat.le_trans (simpL_size l) hl
  have HM := Lib.hid (sam_yes S.reverse S.reverse rfl (fun _ _ => rfl))
  have hbb := eql_box (Lib.hid ((eq4_iff b0 b1 b2 b3 b0 b1 b2 b3).2 ⟨rfl, rfl, rfl, rfl⟩))
  have hmS : S.reverse.length ≤ maxLen := by rw [List.length_reverse]; unfold maxLen; omega
  clear hn hb hc hS
  have hB0 := Below.refl w0.heap.size w0
  go_enter Try.func6, Try.ntmps6
  go_wp2_with fail
  refine (pvalid_at _ _ _ l rfl hm _ pL0 true HV).mono ?_
  rintro e w1 ⟨rfl, hb1⟩
  have pL1 := pL0.keep hb1
  have hB1 := below_keep hb1 hB0
  clear pL0 hB0 hb1
  go_wp2_with fail
  refine (reversed_any _ _ l (by omega) _ pL1).mono ?_
  rintro e w2 ⟨v, rfl, pM2, hb2⟩
  have pL2 := pL1.keep hb2
  have hB2 := below_keep hb2 hB1
  clear pL1 hB1 hb2
  obtain ⟨mo, mc, rfl, _⟩ := id pM2
  rw [List.length_reverse] at pM2
  go_wp2_with fail
  refine (pvalid_at _ _ _ l.reverse List.length_reverse hmr _ pM2 true HVr).mono ?_
  rintro e w3 ⟨rfl, hb3⟩
  have pL3 := pL2.keep hb3
  have pM3 := pM2.keep hb3
  have hB3 := below_keep hb3 hB2
  clear pL2 pM2 hB2 hb3
  go_wp2_with fail
  refine (length_at _ _ _ l.reverse List.length_reverse hmr _ pM3 n HNr).mono ?_
  rintro e w4 ⟨rfl, hb4⟩
  have pL4 := pL3.keep hb4
  have pM4 := pM3.keep hb4
  have hB4 := below_keep hb4 hB3
  clear pL3 pM3 hB3 hb4
  go_wp2_with fail
  refine (length_at _ _ _ l rfl hm _ pL4 n HN).mono ?_
  rintro e w5 ⟨rfl, hb5⟩
  have pL5 := pL4.keep hb5
  have pM5 := pM4.keep hb5
  have hB5 := below_keep hb5 hB4
  clear pL4 pM4 hB4 hb5
  go_wp2_with fail
  refine (bounds_at _ _ _ l.reverse List.length_reverse hmr _ pM5 b0 b1 b2 b3 HBr).mono ?_
  rintro e w6 ⟨rfl, hb6⟩
  have pL6 := pL5.keep hb6
  have pM6 := pM5.keep hb6
  have hB6 := below_keep hb6 hB5
  clear pL5 pM5 hB5 hb6
  go_wp2_with fail
  refine (bounds_at _ _ _ l rfl hm _ pL6 b0 b1 b2 b3 HB).mono ?_
  rintro e w7 ⟨rfl, hb7⟩
  have pL7 := pL6.keep hb7
  have pM7 := pM6.keep hb7
  have hB7 := below_keep hb7 hB6
  clear pL6 pM6 hB6 hb7
  go_wp2_with fail
  refine (bends_at _ _ _ l.reverse List.length_reverse hmr _ pM7 c HCr).mono ?_
  rintro e w8 ⟨rfl, hb8⟩
  have pL8 := pL7.keep hb8
  have pM8 := pM7.keep hb8
  have hB8 := below_keep hb8 hB7
  clear pL7 pM7 hB7 hb8
  go_wp2_with fail
  refine (bends_at _ _ _ l rfl hm _ pL8 c HC).mono ?_
  rintro e w9 ⟨rfl, hb9⟩
  have pL9 := pL8.keep hb9
  have pM9 := pM8.keep hb9
  have hB9 := below_keep hb9 hB8
  clear pL8 pM8 hB8 hb9
  go_wp2_with fail
  refine (simplify_at _ _ _ l.reverse List.length_reverse hmr _ pM9 S.reverse HSr).mono ?_
  rintro e w10 ⟨t1, tc, rfl, pT10, hb10⟩
  have pL10 := pL9.keep hb10
  have pM10 := pM9.keep hb10
  have hB10 := below_keep hb10 hB9
  clear pL9 pM9 hB9 hb10
  rw [List.length_reverse] at pT10
  go_wp2_with fail
  refine (simplify_at _ _ _ l rfl hm _ pL10 S HS).mono ?_
  rintro e w11 ⟨so, sc, rfl, pS11, hb11⟩
  have pL11 := pL10.keep hb11
  have pT11 := pT10.keep hb11
  have hB11 := below_keep hb11 hB10
  clear pL10 pT10 hB10 hb11
  go_wp2_with fail
  refine (reversed_any _ _ S (by omega) _ pS11).mono ?_
  rintro e w12 ⟨v, rfl, pR12, hb12⟩
  have pT12 := pT11.keep hb12
  have pS12 := pS11.keep hb12
  have hB12 := below_keep hb12 hB11
  clear pT11 pS11 hB11 hb12
  obtain ⟨ro, rc, rfl, _⟩ := id pR12
  rw [List.length_reverse] at pR12
  go_wp2_with fail
  refine (rsame_at _ _ _ S.reverse List.length_reverse hmS _ pT12 _ _ _ S.reverse List.length_reverse pR12 true HM).mono ?_
  rintro e w13 ⟨rfl, hb13⟩
  have pT13 := pT12.keep hb13
  have pR13 := pR12.keep hb13
  have hB13 := below_keep hb13 hB12
  clear pT12 pR12 hB12 hb13
  go_wp2_with fail
  refine (awake_any _).mono ?_
  rintro e w14 ⟨rfl, hb14⟩
  have hB14 := below_keep hb14 hB13
  clear  hB13 hb14
  go_wp2
  go_ret
  exact ⟨rfl, hB14⟩

theorem top (v0 : Value) (l0 : List Pt) (W : World) (s0 : Pl W v0 l0) (_m0 : l0.length ≤ maxLen) :
    Calls Try.prog 6 #[v0] W fun e w' => e = .returned (.bool true) ∧ Below W.heap.size W w' := by
  obtain ⟨ao, cap, rfl, hx⟩ := id s0
  by_cases h : l0.length ≤ 512
  · cases hv : pval l0 with
    | false => exact bad ao cap l0 W h s0 (Lib.hid hv)
    | true => exact near ao cap l0 W h s0 (Lib.hid hv)
  · exact far ao l0.length cap W (by omega)

set_option maxRecDepth 100000 in
theorem lifted (os : Os) (started : os.Started) (H : Type) (enc : TypeId × Value → H) :
    ReturnsInHanded {} Try.checked os 6 .any (Rows.polyTurnsSpec.pre6 enc Try.prog Try.f6 Rows.polyTurnsRow.domain false) (Rows.polyTurnsSpec.post enc Try.prog Try.f6 false true false false) := by
  refine returnsInHanded_of_change (C := Try.checked) own started (by kernel_rfl) Try.func6
    (ChangeSpec.witness6 (enc := enc) (C := Try.checked) false ⟨#[], #[.slice none 0 0], []⟩ 8 (by kernel_rfl) (by kernel_rfl) (by kernel_rfl) (by kernel_rfl)) ?_
  intro W base args ds gs before hval0 hW _ _
  have hval : ∀ (j : Nat) t v, Try.f6.params[j]? = some t → args[j]? = some v → Value.okWide Try.prog W .any base t v := hval0
  have hW' := hW
  obtain ⟨p, q, hA0, hV, rfl, hfz, hnd⟩ := hW
  have hA : DataW.TrodAll enc Try.prog W 0 (fun _ => true) true Try.f6.params.toList args.toList ds p := hA0
  rw [Try.params6] at hA hval
  obtain ⟨v0, d0, rfl, rfl, h0⟩ := trodAll_one hA
  obtain ⟨rfl, rfl⟩ := trodVars_none hV
  obtain ⟨l0, s0, m0⟩ := open_points (hval 0 22 v0 rfl rfl) h0
  clear hA0 hval0
  simp only [List.append_nil] at hW'
  have hlt0 : ∀ x ∈ p, x.block < W.heap.size := fun x hx => by simpa using hW'.lt x (by simp [hx])
  refine (top v0 l0 W s0 m0).mono fun e W' ⟨he, hb⟩ => ?_
  subst he
  exact ⟨_, rfl, _, _, _, [], p, [], hW', trodAll_mk1 (shut_bool Try.underlying4 _), trodAll_mk1 (Below.trod laidOut (by kernel_rfl) (of_decide_eq_true (by kernel_rfl)) h0 hb hlt0), rfl, hb.frame _, fun h => by cases h⟩

/-- The statement. -/
theorem holds : Rows.PolyTurnsSaid :=
  OpenClaim.holds_of_wide 6 Try.f6 rfl rfl rfl rfl rfl rfl rfl ⟨rfl, rfl, rfl, rfl, rfl⟩ rfl rfl rfl rfl rfl (by kernel_rfl) Try.func6 (by kernel_rfl)
    (of_decide_eq_true (by kernel_rfl)) (by unfold Func.isWrapper; first | (rw [if_pos (by decide +kernel)]; kernel_rfl) | (rw [if_neg (by decide +kernel)]; exact ⟨rfl, rfl⟩))
    (fun os started H enc _ => lifted os started H enc)
#print axioms holds


end Go.Proofs.Ytllhdalfhhjigaa.lturns
