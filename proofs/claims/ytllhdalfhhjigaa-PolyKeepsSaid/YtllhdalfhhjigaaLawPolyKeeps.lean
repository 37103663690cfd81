/-
  PolyKeeps: for every list of points, Simplify of a path keeps its ends, length, bounds and bends, has a bend at every inner point, and is not changed by Simplify, as the statement says. No condition.
-/
import Derived.Test.YtllhdalfhhjigaaPolyAwake
import Derived.Test.YtllhdalfhhjigaaRev
namespace Go.Proofs.Ytllhdalfhhjigaa.lkeeps
open Go.ChangeShapes Go.WideShapes Go.ChangeAt Go.RowKit

set_option maxHeartbeats 1000000 in
theorem far (ao : Option Addr) (n cap : Nat) (w : World) (h : (512 : Int) < n) :
    Calls Try.prog 7 #[.slice ao n cap] w fun e w' => e = .returned (.bool true) ∧ Below w.heap.size w w' := by
  go_enter Try.func7, Try.ntmps7
  go_wp2_with fail
  refine (awake_any _).mono ?_
  rintro e w1 ⟨rfl, hb1⟩
  go_wp2
  go_ret
  exact ⟨rfl, hb1⟩
set_option maxHeartbeats 1000000 in
theorem bad (ao : Option Addr) (cap : Nat) (l : List Pt) (w : World) (hl : l.length ≤ 512) (hP : Pl w (.slice ao l.length cap) l) (h : Hid (pval l = false)) :
    Calls Try.prog 7 #[.slice ao l.length cap] w fun e w' => e = .returned (.bool true) ∧ Below w.heap.size w w' := by
  go_enter Try.func7, Try.ntmps7
  go_wp2_with fail
  refine (pvalid_at _ _ _ l rfl (by unfold maxLen; omega) _ hP false h).mono ?_
  rintro e w1 ⟨rfl, hb1⟩
  go_wp2_with fail
  refine (awake_any _).mono ?_
  rintro e w2 ⟨rfl, hb2⟩
  go_wp2
  go_ret
  exact ⟨rfl, below_keep hb2 hb1⟩

set_option maxRecDepth 100000 in
set_option maxHeartbeats 4000000 in
theorem near (ao : Option Addr) (cap : Nat) (l : List Pt) (w0 : World) (hl : l.length ≤ 512) (pL0 : Pl w0 (.slice ao l.length cap) l) (HV : Hid (pval l = true)) :
    Calls Try.prog 7 #[.slice ao l.length cap] w0 fun e w' => e = .returned (.bool true) ∧ Below w0.heap.size w0 w' := by
  have hmx : Try.prog.follows .mixedOrders = true := by kernel_rfl
  have hm : l.length ≤ maxLen := by unfold maxLen; omega
  have hv3 := (pval_iff l).1 HV.out
  obtain ⟨n, hn⟩ : ∃ n, lenV l = n := ⟨_, rfl⟩
  obtain ⟨⟨b0, b1, b2, b3⟩, hb⟩ : ∃ b, bdV l = b := ⟨_, rfl⟩
  obtain ⟨c, hc⟩ : ∃ c, bndV l = c := ⟨_, rfl⟩
  obtain ⟨S, hS⟩ : ∃ S, simpL l = S := ⟨_, rfl⟩
  have hvS : pval S = true := by rw [← hS]; exact pval_simp l HV.out
  have HVS := Lib.hid hvS
  have HN := Lib.hid hn
  have HNS : Hid (lenV S = n) := Lib.hid (by rw [← hn]; unfold lenV; rw [hvS, HV.out, ← hS, simpL_len l hv3.2.2])
  have HB := Lib.hid hb
  have HBS : Hid (bdV S = (b0, b1, b2, b3)) := Lib.hid (by rw [← hb]; unfold bdV; rw [hvS, HV.out, ← hS]; obtain ⟨e0, e1, e2, e3⟩ := bx_simp l hv3.2.2; rw [e0, e1, e2, e3])
  have HC := Lib.hid hc
  have HCS : Hid (bndV S = c) := Lib.hid (by rw [← hc]; unfold bndV; rw [hvS, HV.out, ← hS, (bends_simp l hv3.2.2).1])
  have HS : Hid (simp4 l = S) := Lib.hid (by rw [simp4_valid l HV.out, hS])
  have HSS : Hid (simp4 S = S) := Lib.hid (by rw [simp4_valid S hvS, ← hS, simpL_twice l hv3.2.2])
  have HM := Lib.hid (sam_yes S S rfl (fun _ _ => rfl))
  have hS1 : 1 ≤ S.length := ((pval_iff S).1 hvS).1.1
  have hS2 : S.length ≤ l.length := by rw [← hS]; exact simpL_size l
  have hmS : S.length ≤ maxLen := by omega
  have HH : Hid (pa S 0 = pa l 0) := Lib.hid (by rw [← hS]; exact simpL_head l hv3.1.1)
  have HE : Hid (pa S (S.length - 1) = pa l (l.length - 1)) := Lib.hid (by rw [← hS]; exact simpL_last l hv3.1.1)
  have hmax : max ((S.length : Int) - 2) 0 = c := by
    have h2 := (bends_simp l hv3.2.2).2
    rw [hS] at h2
    rw [← hc]
    unfold bndV
    rw [HV.out, if_pos rfl, h2]
    omega
  have hbb := eql_box (Lib.hid ((eq4_iff b0 b1 b2 b3 b0 b1 b2 b3).2 ⟨rfl, rfl, rfl, rfl⟩))
  have hl1 : 1 ≤ l.length := hv3.1.1
  have hwS : IntKind.i64.wrap ((S.length : Int) - 2) = (S.length : Int) - 2 := IntWalk.i64_in _ (by omega)
  clear hn hb hc hS hvS hv3
  have hB0 := Below.refl w0.heap.size w0
  go_enter Try.func7, Try.ntmps7
  go_wp2_with fail
  refine (pvalid_at _ _ _ l rfl hm _ pL0 true HV).mono ?_
  rintro e w1 ⟨rfl, hb1⟩
  have pL1 := pL0.keep hb1
  have hB1 := below_keep hb1 hB0
  clear pL0 hB0 hb1
  go_wp2_with fail
  refine (simplify_at _ _ _ l rfl hm _ pL1 S HS).mono ?_
  rintro e w2 ⟨so, sc, rfl, pS2, hb2⟩
  have pL2 := pL1.keep hb2
  have hB2 := below_keep hb2 hB1
  clear pL1 hB1 hb2
  go_wp2_with fail
  obtain ⟨AS, cpS, eS, _, xS0, xS1⟩ := pS2.get 0 (by omega)
  obtain rfl : so = some AS := by simp only [Value.slice.injEq] at eS; exact eS.1
  obtain ⟨AS', cpS', eS', _, yS0, yS1⟩ := pS2.get (S.length - 1) (by omega)
  obtain rfl : AS = AS' := by simp only [Value.slice.injEq, Option.some.injEq] at eS'; exact eS'.1
  clear eS eS'
  obtain ⟨j, hj⟩ : ∃ j, S.length - 1 = j := ⟨_, rfl⟩
  rw [HH.out] at xS0 xS1
  rw [HE.out] at yS0 yS1
  rw [hj] at yS0 yS1
  have hwj : IntKind.i64.wrap ((S.length : Int) - 1) = (j : Int) := by rw [IntWalk.i64_in _ (by omega)]; omega
  have hjl : j < S.length := by omega
  clear hj
  simp only [Nat.zero_mul] at xS0 xS1
  have zS0 : w2.cell? AS = some (.int .i64 (pa l 0).1) := by simpa [Addr.add] using xS0
  have zS1 : w2.cell? ⟨AS.block, AS.off + 1, none⟩ = some (.int .i64 (pa l 0).2) := by simpa [Addr.add] using xS1
  obtain ⟨AL, cpL, eL, _, xL0, xL1⟩ := pL2.get 0 (by omega)
  obtain rfl : ao = some AL := by simp only [Value.slice.injEq] at eL; exact eL.1
  obtain ⟨AL', cpL', eL', _, yL0, yL1⟩ := pL2.get (l.length - 1) (by omega)
  obtain rfl : AL = AL' := by simp only [Value.slice.injEq, Option.some.injEq] at eL'; exact eL'.1
  clear eL eL'
  obtain ⟨q, hq⟩ : ∃ q, l.length - 1 = q := ⟨_, rfl⟩
  rw [hq] at yL0 yL1 yS0 yS1
  have hwq : IntKind.i64.wrap ((l.length : Int) - 1) = (q : Int) := by rw [IntWalk.i64_in _ (by omega)]; omega
  have hql : q < l.length := by omega
  clear hq
  simp only [Nat.zero_mul] at xL0 xL1
  have zL0 : w2.cell? AL = some (.int .i64 (pa l 0).1) := by simpa [Addr.add] using xL0
  have zL1 : w2.cell? ⟨AL.block, AL.off + 1, none⟩ = some (.int .i64 (pa l 0).2) := by simpa [Addr.add] using xL1
  have hp0 := neq_pt (Lib.hid ((eq2_iff (pa l 0).1 (pa l 0).2 (pa l 0).1 (pa l 0).2).2 ⟨rfl, rfl⟩))
  have hpq := neq_pt (Lib.hid ((eq2_iff (pa l q).1 (pa l q).2 (pa l q).1 (pa l q).2).2 ⟨rfl, rfl⟩))
  have hd1 : decide ((S.length : Int) < 1) = false := decide_eq_false (by omega)
  have hd2 : decide ((l.length : Int) < (S.length : Int)) = false := decide_eq_false (by omega)
  have hS0 : 0 < S.length := by omega
  have hL0 : 0 < l.length := by omega
  have hd3 : decide (l.length < S.length) = false := decide_eq_false (by omega)
  go_quiet (fail)
  have pL3 := pL2.keep (below_drewN w2 nq)
  have pS3 := pS2.keep (below_drewN w2 nq)
  have hB3 := below_keep (below_drewN w2 nq) hB2
  clear pL2 pS2 hB2 xL0 xL1 xS0 xS1 yL0 yL1 yS0 yS1 zL0 zL1 zS0 zS1 hp0 hpq
  generalize w2.drewN nq = w3 at *
  go_wp2_with fail
  refine (pvalid_at _ _ _ S rfl hmS _ pS3 true HVS).mono ?_
  rintro e w4 ⟨rfl, hb4⟩
  have pL4 := pL3.keep hb4
  have pS4 := pS3.keep hb4
  have hB4 := below_keep hb4 hB3
  clear pL3 pS3 hB3 hb4
  go_wp2_with fail
  refine (length_at _ _ _ S rfl hmS _ pS4 n HNS).mono ?_
  rintro e w5 ⟨rfl, hb5⟩
  have pL5 := pL4.keep hb5
  have pS5 := pS4.keep hb5
  have hB5 := below_keep hb5 hB4
  clear pL4 pS4 hB4 hb5
  go_wp2_with fail
  refine (length_at _ _ _ l rfl hm _ pL5 n HN).mono ?_
  rintro e w6 ⟨rfl, hb6⟩
  have pL6 := pL5.keep hb6
  have pS6 := pS5.keep hb6
  have hB6 := below_keep hb6 hB5
  clear pL5 pS5 hB5 hb6
  go_wp2_with fail
  refine (bounds_at _ _ _ S rfl hmS _ pS6 b0 b1 b2 b3 HBS).mono ?_
  rintro e w7 ⟨rfl, hb7⟩
  have pL7 := pL6.keep hb7
  have pS7 := pS6.keep hb7
  have hB7 := below_keep hb7 hB6
  clear pL6 pS6 hB6 hb7
  go_wp2_with fail
  refine (bounds_at _ _ _ l rfl hm _ pL7 b0 b1 b2 b3 HB).mono ?_
  rintro e w8 ⟨rfl, hb8⟩
  have pL8 := pL7.keep hb8
  have pS8 := pS7.keep hb8
  have hB8 := below_keep hb8 hB7
  clear pL7 pS7 hB7 hb8
  go_wp2_with fail
  refine (bends_at _ _ _ S rfl hmS _ pS8 c HCS).mono ?_
  rintro e w9 ⟨rfl, hb9⟩
  have pL9 := pL8.keep hb9
  have pS9 := pS8.keep hb9
  have hB9 := below_keep hb9 hB8
  clear pL8 pS8 hB8 hb9
  go_wp2_with fail
  refine (bends_at _ _ _ l rfl hm _ pL9 c HC).mono ?_
  rintro e w10 ⟨rfl, hb10⟩
  have pL10 := pL9.keep hb10
  have pS10 := pS9.keep hb10
  have hB10 := below_keep hb10 hB9
  clear pL9 pS9 hB9 hb10
  go_wp2_with fail
  refine (bends_at _ _ _ S rfl hmS _ pS10 c HCS).mono ?_
  rintro e w11 ⟨rfl, hb11⟩
  have pS11 := pS10.keep hb11
  have hB11 := below_keep hb11 hB10
  clear pS10 hB10 hb11
  go_wp2_with fail
  refine (simplify_at _ _ _ S rfl hmS _ pS11 S HSS).mono ?_
  rintro e w12 ⟨t1, tc, rfl, pT12, hb12⟩
  have pS12 := pS11.keep hb12
  have hB12 := below_keep hb12 hB11
  clear pS11 hB11 hb12
  go_wp2_with fail
  refine (rsame_at _ _ _ S rfl hmS _ pT12 _ _ _ S rfl pS12 true HM).mono ?_
  rintro e w13 ⟨rfl, hb13⟩
  have pS13 := pS12.keep hb13
  have pT13 := pT12.keep hb13
  have hB13 := below_keep hb13 hB12
  clear pS12 pT12 hB12 hb13
  go_wp2_with fail
  refine (awake_any _).mono ?_
  rintro e w14 ⟨rfl, hb14⟩
  have hB14 := below_keep hb14 hB13
  clear  hB13 hb14
  go_wp2
  go_ret
  exact ⟨rfl, hB14⟩

theorem top (v0 : Value) (l0 : List Pt) (W : World) (s0 : Pl W v0 l0) (_m0 : l0.length ≤ maxLen) :
    Calls Try.prog 7 #[v0] W fun e w' => e = .returned (.bool true) ∧ Below W.heap.size W w' := by
  obtain ⟨ao, cap, rfl, hx⟩ := id s0
  by_cases h : l0.length ≤ 512
  · cases hv : pval l0 with
    | false => exact bad ao cap l0 W h s0 (Lib.hid hv)
    | true => exact near ao cap l0 W h s0 (Lib.hid hv)
  · exact far ao l0.length cap W (by omega)

set_option maxRecDepth 100000 in
theorem lifted (os : Os) (started : os.Started) (H : Type) (enc : TypeId × Value → H) :
    ReturnsInHanded {} Try.checked os 7 .any (Rows.polyKeepsSpec.pre6 enc Try.prog Try.f7 Rows.polyKeepsRow.domain false) (Rows.polyKeepsSpec.post enc Try.prog Try.f7 false true false false) := by
  refine returnsInHanded_of_change (C := Try.checked) own started (by kernel_rfl) Try.func7
    (ChangeSpec.witness6 (enc := enc) (C := Try.checked) false ⟨#[], #[.slice none 0 0], []⟩ 8 (by kernel_rfl) (by kernel_rfl) (by kernel_rfl) (by kernel_rfl)) ?_
  intro W base args ds gs before hval0 hW _ _
  have hval : ∀ (j : Nat) t v, Try.f7.params[j]? = some t → args[j]? = some v → Value.okWide Try.prog W .any base t v := hval0
  have hW' := hW
  obtain ⟨p, q, hA0, hV, rfl, hfz, hnd⟩ := hW
  have hA : DataW.TrodAll enc Try.prog W 0 (fun _ => true) true Try.f7.params.toList args.toList ds p := hA0
  rw [Try.params7] at hA hval
  obtain ⟨v0, d0, rfl, rfl, h0⟩ := trodAll_one hA
  obtain ⟨rfl, rfl⟩ := trodVars_none hV
  obtain ⟨l0, s0, m0⟩ := open_points (hval 0 22 v0 rfl rfl) h0
  clear hA0 hval0
  simp only [List.append_nil] at hW'
  have hlt0 : ∀ x ∈ p, x.block < W.heap.size := fun x hx => by simpa using hW'.lt x (by simp [hx])
  refine (top v0 l0 W s0 m0).mono fun e W' ⟨he, hb⟩ => ?_
  subst he
  exact ⟨_, rfl, _, _, _, [], p, [], hW', trodAll_mk1 (shut_bool Try.underlying4 _), trodAll_mk1 (Below.trod laidOut (by kernel_rfl) (of_decide_eq_true (by kernel_rfl)) h0 hb hlt0), rfl, hb.frame _, fun h => by cases h⟩

/-- The statement. -/
theorem holds : Rows.PolyKeepsSaid :=
  OpenClaim.holds_of_wide 7 Try.f7 rfl rfl rfl rfl rfl rfl rfl ⟨rfl, rfl, rfl, rfl, rfl⟩ rfl rfl rfl rfl rfl (by kernel_rfl) Try.func7 (by kernel_rfl)
    (of_decide_eq_true (by kernel_rfl)) (by unfold Func.isWrapper; first | (rw [if_pos (by decide +kernel)]; kernel_rfl) | (rw [if_neg (by decide +kernel)]; exact ⟨rfl, rfl⟩))
    (fun os started H enc _ => lifted os started H enc)
#print axioms holds


end Go.Proofs.Ytllhdalfhhjigaa.lkeeps
