/-
  FixedProducts: for factors of at most 2^28 a product of layer 1 is within half a thousandth of the exact one, does not depend on the order of its factors, and 1000 changes nothing, as the statement says. Conditions: the listed tables of the library read as they are laid; the card ties them to the program's text.
-/
import Derived.Test.YtgacapebngllnaaDoorFrame
namespace Go.Proofs.YtgacapebngllnaaDoor.products
open Go.ChangeShapes Go.WideShapes Go.ChangeAt Go.RowKit

theorem mulV_comm (a b : Int) : mulV b a = mulV a b := by
  unfold mulV
  rw [Nat.mul_comm, Bool.beq_comm]

theorem near_one (x : Nat) : near (x * 1000) 1000 = x := by rw [near_thousand]; omega

theorem sign_one (a : Int) : (!(decide (a < 0) == decide ((1000 : Int) < 0))) = decide (a < 0) := by
  rw [show decide ((1000 : Int) < 0) = false from rfl]; simp

theorem signed_self (a : Int) (h0 : -268435456 ≤ a) (h1 : a ≤ 268435456) : signedV a.natAbs (decide (a < 0)) = .tuple #[.int .i64 a, .int .i64 0] := by
  by_cases h : a < 0
  · rw [show decide (a < 0) = true by simpa using h, signedV_neg (by omega), show -((a.natAbs : Nat) : Int) = a by omega]
  · rw [show decide (a < 0) = false by simpa using h, signedV_pos (by omega), show ((a.natAbs : Nat) : Int) = a by omega]

theorem mulV_one (a : Int) (h0 : -268435456 ≤ a) (h1 : a ≤ 268435456) : mulV a 1000 = .tuple #[.int .i64 a, .int .i64 0] := by
  unfold mulV
  rw [show (1000 : Int).natAbs = 1000 from rfl, near_one, sign_one, signed_self a h0 h1]

theorem divV_one (a : Int) (h0 : -268435456 ≤ a) (h1 : a ≤ 268435456) : divV a 1000 = .tuple #[.int .i64 a, .int .i64 0] := by
  unfold divV
  rw [if_neg (by omega), show (1000 : Int).natAbs = 1000 from rfl, near_one, sign_one, signed_self a h0 h1]

theorem prod_le (a b : Int) (ha0 : -268435456 ≤ a) (ha1 : a ≤ 268435456) (hb0 : -268435456 ≤ b) (hb1 : b ≤ 268435456) : a.natAbs * b.natAbs ≤ 72057594037927936 := by
  have : a.natAbs * b.natAbs ≤ 268435456 * 268435456 := Nat.mul_le_mul (by omega) (by omega)
  omega

/-- The exact product is the product of the magnitudes, under the sign. -/
theorem prod_sign (a b : Int) : (a * b = ((a.natAbs * b.natAbs : Nat) : Int) ∧ (!(decide (a < 0) == decide (b < 0))) = false) ∨ (a * b = -((a.natAbs * b.natAbs : Nat) : Int) ∧ (!(decide (a < 0) == decide (b < 0))) = true) := by
  rw [Int.natCast_mul]
  by_cases ha : a < 0 <;> by_cases hb : b < 0
  · left
    rw [show ((a.natAbs : Nat) : Int) = -a by omega, show ((b.natAbs : Nat) : Int) = -b by omega, Int.neg_mul_neg]
    simp [ha, hb]
  · right
    rw [show ((a.natAbs : Nat) : Int) = -a by omega, show ((b.natAbs : Nat) : Int) = b by omega, Int.neg_mul, Int.neg_neg]
    simp [ha, hb]
  · right
    rw [show ((a.natAbs : Nat) : Int) = a by omega, show ((b.natAbs : Nat) : Int) = -b by omega, Int.mul_neg, Int.neg_neg]
    simp [ha, hb]
  · left
    rw [show ((a.natAbs : Nat) : Int) = a by omega, show ((b.natAbs : Nat) : Int) = b by omega]
    simp [ha, hb]

/-- What Mul answers in this range: an overflow, or a number within half a thousandth. -/
theorem mulV_near (a b : Int) : mulV a b = .tuple #[.int .i64 0, .int .i64 16] ∨ ∃ r : Int, mulV a b = .tuple #[.int .i64 r, .int .i64 0] ∧ -268435456 ≤ r ∧ r ≤ 268435456 ∧ 1000 * r - a * b ≤ 500 ∧ -500 ≤ 1000 * r - a * b := by
  unfold mulV
  obtain ⟨P, hP⟩ : ∃ P, a.natAbs * b.natAbs = P := ⟨_, rfl⟩
  have hs := prod_sign a b
  rw [hP] at hs ⊢
  obtain ⟨q, hq⟩ : ∃ q, near P 1000 = q := ⟨_, rfl⟩
  rw [hq]
  rw [near_thousand] at hq
  by_cases ho : 268435456 < q
  · exact Or.inl (signedV_over ho _)
  · refine Or.inr ?_
    rcases hs with ⟨h1, h2⟩ | ⟨h1, h2⟩
    · rw [h2, signedV_pos ho]
      exact ⟨q, rfl, by omega, by omega, by omega, by omega⟩
    · rw [h2, signedV_neg ho]
      exact ⟨-(q : Int), rfl, by omega, by omega, by omega, by omega⟩

set_option maxHeartbeats 2000000 in
theorem walk_out (a b : Int) (w : World) (htab : Hid (Tab w))
    (hr : 268435456 < a ∨ a < -268435456 ∨ (¬ 268435456 < a ∧ ¬ a < -268435456 ∧ 268435456 < b) ∨ (¬ 268435456 < a ∧ ¬ a < -268435456 ∧ ¬ 268435456 < b ∧ b < -268435456)) :
    Calls Tryd.prog 7 #[.int .i64 a, .int .i64 b] w fun e w' => e = .returned (.bool true) ∧ Below w.heap.size w w' := by
  rcases hr with h | h | ⟨h, h2, h3⟩ | ⟨h, h2, h3, h4⟩
  all_goals
    go_enter Tryd.func7, Tryd.ntmps7
    go_wp2_with fail
    refine (awake_any _ htab).mono ?_
    rintro e w' ⟨rfl, hb⟩
    go_wp2
    go_ret
    exact ⟨rfl, hb⟩

set_option maxHeartbeats 4000000 in
theorem walk_in (a b : Int) (w : World) (ha0 : -268435456 ≤ a) (ha1 : a ≤ 268435456) (hb0 : -268435456 ≤ b) (hb1 : b ≤ 268435456) (htab : Hid (Tab w)) :
    Calls Tryd.prog 7 #[.int .i64 a, .int .i64 b] w fun e w' => e = .returned (.bool true) ∧ Below w.heap.size w w' := by
  have hp := prod_le a b ha0 ha1 hb0 hb1
  have D1 := Lib.hid (divFits_small a b 1000 (by decide) (by decide) (by rw [show (1000 : Int).natAbs = 1000 from rfl]; omega))
  have D2 := Lib.hid (divFits_small b a 1000 (by decide) (by decide) (by rw [show (1000 : Int).natAbs = 1000 from rfl, Nat.mul_comm]; omega))
  have D3 := Lib.hid (divFits_small a 1000 1000 (by decide) (by decide) (by rw [show (1000 : Int).natAbs = 1000 from rfl]; omega))
  have V3 := Lib.hid (mulV_one a ha0 ha1)
  have V4 := Lib.hid (divV_one a ha0 ha1)
  have hc := mulV_comm a b
  rcases mulV_near a b with hv | ⟨r, hv, g0, g1, g2, g3⟩
  · rw [hv] at hc
    have V1 := Lib.hid hv
    have V2 := Lib.hid hc
    clear hv hc hp
    go_enter Tryd.func7, Tryd.ntmps7
    go_wp2_with fail
    refine (mul_of a b _ _ (by omega) (by omega) (by omega) (by omega) D1.out V1).mono ?_
    rintro e w1 ⟨rfl, hb1'⟩
    go_wp2_with fail
    refine (mul_of b a _ _ (by omega) (by omega) (by omega) (by omega) D2.out V2).mono ?_
    rintro e w2 ⟨rfl, hb2⟩
    go_wp2_with fail
    refine (mul_of a 1000 _ _ (by omega) (by omega) (by omega) (by omega) D3.out V3).mono ?_
    rintro e w3 ⟨rfl, hb3⟩
    go_wp2_with fail
    refine (div_of a 1000 _ _ (by omega) (by omega) (by omega) (by omega) (fun _ => D3.out) V4).mono ?_
    rintro e w4 ⟨rfl, hb4⟩
    have B2 := hb1'.trans (hb2.mono hb1'.size)
    have B3 := B2.trans (hb3.mono B2.size)
    have B4 := B3.trans (hb4.mono B3.size)
    have T4 : Hid (Tab w4) := Lib.hid (tab_below htab.out B4)
    go_wp2_with fail
    refine (awake_any _ T4).mono ?_
    rintro e w5 ⟨rfl, hb5⟩
    go_wp2
    go_ret
    exact ⟨rfl, B4.trans (hb5.mono B4.size)⟩
  · rw [hv] at hc
    have V1 := Lib.hid hv
    have V2 := Lib.hid hc
    have hab0 : -72057594037927936 ≤ a * b := by omega
    have hab1 : a * b ≤ 72057594037927936 := by omega
    clear hv hc hp
    go_enter Tryd.func7, Tryd.ntmps7
    go_wp2_with fail
    refine (mul_of a b _ _ (by omega) (by omega) (by omega) (by omega) D1.out V1).mono ?_
    rintro e w1 ⟨rfl, hb1'⟩
    go_wp2_with fail
    refine (mul_of b a _ _ (by omega) (by omega) (by omega) (by omega) D2.out V2).mono ?_
    rintro e w2 ⟨rfl, hb2⟩
    go_wp2_with fail
    refine (mul_of a 1000 _ _ (by omega) (by omega) (by omega) (by omega) D3.out V3).mono ?_
    rintro e w3 ⟨rfl, hb3⟩
    go_wp2_with fail
    refine (div_of a 1000 _ _ (by omega) (by omega) (by omega) (by omega) (fun _ => D3.out) V4).mono ?_
    rintro e w4 ⟨rfl, hb4⟩
    have B2 := hb1'.trans (hb2.mono hb1'.size)
    have B3 := B2.trans (hb3.mono B2.size)
    have B4 := B3.trans (hb4.mono B3.size)
    have T4 : Hid (Tab w4) := Lib.hid (tab_below htab.out B4)
    go_wp2_with fail
    refine (awake_any _ T4).mono ?_
    rintro e w5 ⟨rfl, hb5⟩
    go_wp2
    go_ret
    exact ⟨rfl, B4.trans (hb5.mono B4.size)⟩

theorem top (a b : Int) (_ha0 : -9223372036854775808 ≤ a) (_ha1 : a ≤ 9223372036854775807) (_hb0 : -9223372036854775808 ≤ b) (_hb1 : b ≤ 9223372036854775807) (w : World) (htab : Tab w) :
    Calls Tryd.prog 7 #[.int .i64 a, .int .i64 b] w fun e w' => e = .returned (.bool true) ∧ Below w.heap.size w w' := by
  by_cases h1 : 268435456 < a
  · exact walk_out a b w (Lib.hid htab) (Or.inl h1)
  · by_cases h2 : a < -268435456
    · exact walk_out a b w (Lib.hid htab) (Or.inr (Or.inl h2))
    · by_cases h3 : 268435456 < b
      · exact walk_out a b w (Lib.hid htab) (Or.inr (Or.inr (Or.inl ⟨h1, h2, h3⟩)))
      · by_cases h4 : b < -268435456
        · exact walk_out a b w (Lib.hid htab) (Or.inr (Or.inr (Or.inr ⟨h1, h2, h3, h4⟩)))
        · exact walk_in a b w (by omega) (by omega) (by omega) (by omega) (Lib.hid htab)

set_option maxRecDepth 100000 in
theorem lifted (os : Os) (started : os.Started) (H : Type) (enc : TypeId × Value → H) :
    ReturnsInHanded {} Tryd.checked os 7 .any (fun w args => (Rows.fixedProductsSpec.pre enc Tryd.prog Tryd.f7 Rows.fixedProductsRow.domain false w args ∧ laidMetH Tryd.prog laid5 w) ∧ sizedMet enc Tryd.prog Tryd.f7 (OpenSpec.ofChange Rows.fixedProductsSpec) false w args)
      (Rows.fixedProductsSpec.post enc Tryd.prog Tryd.f7 false true false false) := by
  refine returnsInHanded_of_change_and (C := Tryd.checked) (X := fun w _ => laidMetH Tryd.prog laid5 w) (fun _ _ _ hh h => h.of_heap hh) own started (by kernel_rfl) Tryd.func7
    (ChangeSpec.witness_shaped (enc := enc) (C := Tryd.checked) (os := os) (X := fun w _ => laidMetH Tryd.prog laid5 w) false (World.laidAll Tryd.prog os laid5) #[.int .i64 0, .int .i64 0] 8 (World.laidAll_os _ _ _)
      (World.shaped_of_ZipB (by kernel_rfl) (by kernel_rfl)) (by kernel_rfl) (by kernel_rfl) (by kernel_rfl)
      (by rw [MakeChecks.laidMetH_plain _ _ _ (by kernel_rfl)]; exact laidMet_laidAll _ (by kernel_rfl) (by kernel_rfl))) ?_
  intro W base args ds gs before hval0 hW hcnd _ hL _
  have hval : ∀ (j : Nat) t v, Tryd.f7.params[j]? = some t → args[j]? = some v → Value.okWide Tryd.prog W .any base t v := hval0
  have hW' := hW
  obtain ⟨p, q, hA0, hV, rfl, hfz, hnd⟩ := hW
  have hA : DataW.TrodAll enc Tryd.prog W 0 (fun _ => true) true Tryd.f7.params.toList args.toList ds p := hA0
  rw [Tryd.params7] at hA hval
  obtain ⟨v0, v1, d0, d1, p0, p1, rfl, rfl, rfl, h0, h1⟩ := trodAll_two hA
  obtain ⟨rfl, rfl⟩ := trodVars_none hV
  obtain ⟨x0, rfl, rfl, rfl, wx0⟩ := open_int Tryd.underlying3 (hval 0 3 v0 rfl rfl) h0
  have bx0 := bounds_i64 wx0
  obtain ⟨x1, rfl, rfl, rfl, wx1⟩ := open_int Tryd.underlying3 (hval 1 3 v1 rfl rfl) h1
  have bx1 := bounds_i64 wx1
  clear hA0 hval0
  simp only [List.append_nil] at hW'
  refine (top x0 x1 bx0.1 bx0.2 bx1.1 bx1.2 W (tab_is hL)).mono fun e W' ⟨he, hb⟩ => ?_
  subst he
  exact ⟨_, rfl, _, _, _, [], [], [], hW', trodAll_mk1 (shut_bool Tryd.underlying4 _), trodAll_mk2 (shut_int Tryd.underlying3 wx0) (shut_int Tryd.underlying3 wx1), rfl, hb.frame _, fun h => by cases h⟩

theorem holds : Rows.FixedProductsSaid :=
  OpenClaim.holds_of_wide 7 Tryd.f7 rfl rfl rfl rfl rfl rfl rfl ⟨rfl, rfl, rfl, rfl, rfl⟩ rfl rfl rfl rfl rfl (by kernel_rfl) Tryd.func7 (by kernel_rfl)
    (of_decide_eq_true (by kernel_rfl)) (by unfold Func.isWrapper; first | (rw [if_pos (by decide +kernel)]; kernel_rfl) | (rw [if_neg (by decide +kernel)]; exact ⟨rfl, rfl⟩))
    (fun os started H enc _ => lifted os started H enc)

theorem plain (f : FuncId) (fn : Func) (hf : Tryd.pinned.checked.prog.funcNamed Rows.fixedProductsRow.func = some f) (hfn : Tryd.pinned.checked.prog.funcs[f]? = some fn) :
    false = Tryd.pinned.checked.prog.looks [] ∧ ∀ (j : Nat) t, fn.params[j]? = some t → Tryd.pinned.checked.prog.wantsStandIn t = false := by
  obtain rfl : f = 7 := Option.some.inj ((show Tryd.prog.funcNamed Rows.fixedProductsRow.func = some 7 by kernel_rfl).symm.trans hf) |>.symm
  obtain rfl : fn = Tryd.f7 := (Option.some.inj (Tryd.func7.symm.trans hfn)).symm
  refine ⟨by kernel_rfl, fun j t ht => ?_⟩
  rw [Tryd.params7] at ht
  have hm : t ∈ [3, 3] := by simpa using Array.mem_of_getElem? ht
  have hall : ([3, 3].all fun u => !Tryd.prog.wantsStandIn u) = true := by kernel_rfl
  exact (show Tryd.prog.wantsStandIn t = false by simpa using List.all_eq_true.1 hall t hm)

/-- The statement. -/
theorem card : Rows.FixedProductsCardSaid :=
  Claim7.holds_tied_plain_at .later [] _ _ _ _ holds (fun _ h => by cases h) (by kernel_rfl) (fun _ h => by cases h) fixedProducts_row_tie rfl ⟨rfl, rfl⟩ (by kernel_rfl) rfl plain (by kernel_rfl)
#print axioms card
end Go.Proofs.YtgacapebngllnaaDoor.products
