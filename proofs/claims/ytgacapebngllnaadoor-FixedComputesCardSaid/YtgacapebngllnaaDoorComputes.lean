/-
  FixedComputes: for all ints Mul and Div of layer 1 answer what the reference answers, as the statement says. Conditions: the listed tables of the library read as they are laid; the card ties them to the program's text.
-/
import Derived.Test.YtgacapebngllnaaDoorFrame
import Derived.Test.YtgacapebngllnaaDoorDiv64
import Derived.Test.YtgacapebngllnaaDoorRefDiv
namespace Go.Proofs.YtgacapebngllnaaDoor.computes
open Go.ChangeShapes Go.WideShapes Go.ChangeAt Go.RowKit

theorem mulV_two (a b : Int) : ∃ r e : Int, mulV a b = .tuple #[.int .i64 r, .int .i64 e] := signedV_two _ _
theorem divV_two (a b : Int) : ∃ r e : Int, divV a b = .tuple #[.int .i64 r, .int .i64 e] := by
  unfold divV
  split
  · exact ⟨_, _, rfl⟩
  · exact signedV_two _ _

theorem refMul_of (a b : Int) (v : Value) (w : World) (ha0 : -9223372036854775808 ≤ a) (ha1 : a ≤ 9223372036854775807) (hb0 : -9223372036854775808 ≤ b) (hb1 : b ≤ 9223372036854775807) (hv : Hid (mulV a b = v)) :
    Calls Tryd.prog 15 #[.int .i64 a, .int .i64 b] w fun e w' => e = .returned v ∧ w = w' := by
  have := refMul_any a b w ha0 ha1 hb0 hb1
  rw [hv.out] at this
  exact this
theorem refDiv_of (a b : Int) (v : Value) (w : World) (ha0 : -9223372036854775808 ≤ a) (ha1 : a ≤ 9223372036854775807) (hb0 : -9223372036854775808 ≤ b) (hb1 : b ≤ 9223372036854775807) (hv : Hid (divV a b = v)) :
    Calls Tryd.prog 17 #[.int .i64 a, .int .i64 b] w fun e w' => e = .returned v ∧ Below w.heap.size w w' := by
  by_cases h : b = 0
  · subst h
    have := refDiv_zero a w
    rw [hv.out] at this
    exact this
  · have := refDiv_any a b w ha0 ha1 hb0 hb1 h
    rw [hv.out] at this
    exact this

set_option maxHeartbeats 2000000 in
theorem top (a b : Int) (ha0 : -9223372036854775808 ≤ a) (ha1 : a ≤ 9223372036854775807) (hb0 : -9223372036854775808 ≤ b) (hb1 : b ≤ 9223372036854775807) (w : World) (htab : Tab w) :
    Calls Tryd.prog 6 #[.int .i64 a, .int .i64 b] w fun e w' => e = .returned (.bool true) ∧ Below w.heap.size w w' := by
  have HT := Lib.hid htab
  clear htab
  obtain ⟨r, e1, hm⟩ := mulV_two a b
  obtain ⟨d, e2, hd⟩ := divV_two a b
  have HM := Lib.hid hm
  have HD := Lib.hid hd
  have F1 := Lib.hid (divFits_any a b 1000 (by decide))
  have F2 : Hid (b ≠ 0 → DivFits a 1000 b) := Lib.hid (fun _ => divFits_any a 1000 b (by omega))
  clear hm hd
  go_enter Tryd.func6, Tryd.ntmps6
  go_wp2_with fail
  refine (mul_of a b _ _ (by omega) (by omega) (by omega) (by omega) F1.out HM).mono ?_
  rintro e w1 ⟨rfl, hb1'⟩
  go_wp2_with fail
  refine (refMul_of a b _ _ (by omega) (by omega) (by omega) (by omega) HM).mono ?_
  rintro e w' ⟨rfl, rfl⟩
  go_wp2_with fail
  refine (div_of a b _ _ (by omega) (by omega) (by omega) (by omega) F2.out HD).mono ?_
  rintro e w2 ⟨rfl, hb2⟩
  go_wp2_with fail
  refine (refDiv_of a b _ _ (by omega) (by omega) (by omega) (by omega) HD).mono ?_
  rintro e w3 ⟨rfl, hb3⟩
  have B2 := hb1'.trans (hb2.mono hb1'.size)
  have B3 := B2.trans (hb3.mono B2.size)
  have T3 : Hid (Tab w3) := Lib.hid (tab_below HT.out B3)
  go_wp2_with fail
  refine (awake_any _ T3).mono ?_
  rintro e w4 ⟨rfl, hb4⟩
  go_wp2
  go_ret
  exact ⟨rfl, B3.trans (hb4.mono B3.size)⟩

set_option maxRecDepth 100000 in
theorem lifted (os : Os) (started : os.Started) (H : Type) (enc : TypeId × Value → H) :
    ReturnsInHanded {} Tryd.checked os 6 .any (fun w args => (Rows.fixedComputesSpec.pre enc Tryd.prog Tryd.f6 Rows.fixedComputesRow.domain false w args ∧ laidMetH Tryd.prog laid5 w) ∧ sizedMet enc Tryd.prog Tryd.f6 (OpenSpec.ofChange Rows.fixedComputesSpec) false w args)
      (Rows.fixedComputesSpec.post enc Tryd.prog Tryd.f6 false true false false) := by
  refine returnsInHanded_of_change_and (C := Tryd.checked) (X := fun w _ => laidMetH Tryd.prog laid5 w) (fun _ _ _ hh h => h.of_heap hh) own started (by kernel_rfl) Tryd.func6
    (ChangeSpec.witness_shaped (enc := enc) (C := Tryd.checked) (os := os) (X := fun w _ => laidMetH Tryd.prog laid5 w) false (World.laidAll Tryd.prog os laid5) #[.int .i64 0, .int .i64 0] 8 (World.laidAll_os _ _ _)
      (World.shaped_of_ZipB (by kernel_rfl) (by kernel_rfl)) (by kernel_rfl) (by kernel_rfl) (by kernel_rfl)
      (by rw [MakeChecks.laidMetH_plain _ _ _ (by kernel_rfl)]; exact laidMet_laidAll _ (by kernel_rfl) (by kernel_rfl))) ?_
  intro W base args ds gs before hval0 hW hcnd _ hL _
  have hval : ∀ (j : Nat) t v, Tryd.f6.params[j]? = some t → args[j]? = some v → Value.okWide Tryd.prog W .any base t v := hval0
  have hW' := hW
  obtain ⟨p, q, hA0, hV, rfl, hfz, hnd⟩ := hW
  have hA : DataW.TrodAll enc Tryd.prog W 0 (fun _ => true) true Tryd.f6.params.toList args.toList ds p := hA0
  rw [Tryd.params6] at hA hval
  obtain ⟨v0, v1, d0, d1, p0, p1, rfl, rfl, rfl, h0, h1⟩ := trodAll_two hA
  obtain ⟨rfl, rfl⟩ := trodVars_none hV
  obtain ⟨x0, rfl, rfl, rfl, wx0⟩ := open_int Tryd.underlying3 (hval 0 3 v0 rfl rfl) h0
  have bx0 := bounds_i64 wx0
  obtain ⟨x1, rfl, rfl, rfl, wx1⟩ := open_int Tryd.underlying3 (hval 1 3 v1 rfl rfl) h1
  have bx1 := bounds_i64 wx1
  clear hA0 hval0
  simp only [List.append_nil] at hW'
  refine (top x0 x1 bx0.1 bx0.2 bx1.1 bx1.2 W (tab_is hL)).mono fun e W' ⟨he, hb⟩ => ?_
  subst he
  exact ⟨_, rfl, _, _, _, [], [], [], hW', trodAll_mk1 (shut_bool Tryd.underlying4 _), trodAll_mk2 (shut_int Tryd.underlying3 wx0) (shut_int Tryd.underlying3 wx1), rfl, hb.frame _, fun h => by cases h⟩

theorem holds : Rows.FixedComputesSaid :=
  OpenClaim.holds_of_wide 6 Tryd.f6 rfl rfl rfl rfl rfl rfl rfl ⟨rfl, rfl, rfl, rfl, rfl⟩ rfl rfl rfl rfl rfl (by kernel_rfl) Tryd.func6 (by kernel_rfl)
    (of_decide_eq_true (by kernel_rfl)) (by unfold Func.isWrapper; first | (rw [if_pos (by decide +kernel)]; kernel_rfl) | (rw [if_neg (by decide +kernel)]; exact ⟨rfl, rfl⟩))
    (fun os started H enc _ => lifted os started H enc)

theorem plain (f : FuncId) (fn : Func) (hf : Tryd.pinned.checked.prog.funcNamed Rows.fixedComputesRow.func = some f) (hfn : Tryd.pinned.checked.prog.funcs[f]? = some fn) :
    false = Tryd.pinned.checked.prog.looks [] ∧ ∀ (j : Nat) t, fn.params[j]? = some t → Tryd.pinned.checked.prog.wantsStandIn t = false := by
  obtain rfl : f = 6 := Option.some.inj ((show Tryd.prog.funcNamed Rows.fixedComputesRow.func = some 6 by kernel_rfl).symm.trans hf) |>.symm
  obtain rfl : fn = Tryd.f6 := (Option.some.inj (Tryd.func6.symm.trans hfn)).symm
  refine ⟨by kernel_rfl, fun j t ht => ?_⟩
  rw [Tryd.params6] at ht
  have hm : t ∈ [3, 3] := by simpa using Array.mem_of_getElem? ht
  have hall : ([3, 3].all fun u => !Tryd.prog.wantsStandIn u) = true := by kernel_rfl
  exact (show Tryd.prog.wantsStandIn t = false by simpa using List.all_eq_true.1 hall t hm)

/-- The statement. -/
theorem card : Rows.FixedComputesCardSaid :=
  Claim7.holds_tied_plain_at .later [] _ _ _ _ holds (fun _ h => by cases h) (by kernel_rfl) (fun _ h => by cases h) fixedComputes_row_tie rfl ⟨rfl, rfl⟩ (by kernel_rfl) rfl plain (by kernel_rfl)
#print axioms card
end Go.Proofs.YtgacapebngllnaaDoor.computes
