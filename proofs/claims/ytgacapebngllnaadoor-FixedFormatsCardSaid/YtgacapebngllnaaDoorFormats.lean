/-
  FixedFormats: for every int Format of layer 1 is the reference's text, and Parse reads it back unless its absolute value is too large, as the statement says. Conditions: the listed tables of the library read as they are laid; the card ties them to the program's text.
-/
import Derived.Test.YtgacapebngllnaaDoorFrame
import Derived.Test.YtgacapebngllnaaDoorRefParse
import Derived.Test.YtgacapebngllnaaDoorRefText
namespace Go.Proofs.YtgacapebngllnaaDoor.formats
open Go.ChangeShapes Go.WideShapes Go.ChangeAt Go.RowKit

theorem lead_app (w f : List UInt8) (hw : w.all isDig = true) (hf : f = [] ∨ f.head? = some 46) : lead (w ++ f) = w := by
  have h := lead_take (w ++ f) w.length (by simp) (by rw [List.take_left']; exact hw; rfl) (fun c hc => by
    rw [List.getElem?_append_right (Nat.le_refl _), Nat.sub_self] at hc
    rcases hf with rfl | hf
    · cases hc
    · rw [← List.head?_eq_getElem?, hf] at hc
      rw [← Option.some.inj hc]; rfl)
  rw [h, List.take_left' rfl]

/-- What Parse answers to the text of n thousandths. -/
theorem fmt_parse (n : Int) : parseV (fmtL n) = if 268435456 < n.natAbs then ovfV else .tuple #[.int .i64 n, .int .i64 0] := by
  obtain ⟨V, hV⟩ : ∃ V, n.natAbs / 1000 = V := ⟨_, rfl⟩
  obtain ⟨p, hp⟩ : ∃ p, n.natAbs % 1000 = p := ⟨_, rfl⟩
  have hm : n.natAbs = V * 1000 + p := by omega
  have hp9 : p ≤ 999 := by omega
  rw [fmtL_eq n V p hm hp9]
  obtain ⟨f, hf⟩ : ∃ f, (if p = 0 then [] else 46 :: Lib.trimRightB ((Lib.decDigits (1000 + p)).drop 1) 48 : List UInt8) = f := ⟨_, rfl⟩
  rw [hf]
  have hs := dec_spec V
  have hfr : fracOf f = some p := by
    rw [← hf]
    split
    · rename_i h; rw [h]; rfl
    · rename_i h; exact frac_back p (by omega) hp9
  have hfh : f = [] ∨ f.head? = some 46 := by
    rw [← hf]
    split
    · exact Or.inl rfl
    · exact Or.inr rfl
  have hfn : f = [] → p = 0 := by
    intro h
    rw [h] at hfr
    exact (Option.some.inj hfr).symm
  obtain ⟨w, hw⟩ : ∃ w, Lib.decDigits V = w := ⟨_, rfl⟩
  rw [hw] at hs ⊢
  obtain ⟨h1, h2, h3, h4⟩ := hs
  have hL := lead_app w f h2 hfh
  have hD : (w ++ f).drop (lead (w ++ f)).length = f := by rw [hL]; exact List.drop_left' rfl
  have hhead : (w ++ f).head? = w.head? := by
    cases w with
    | nil => exact absurd rfl h3
    | cons a l => rfl
  have hdig : ∀ c, (w ++ f).head? = some c → isDig c = true := by
    intro c hc
    rw [hhead] at hc
    cases w with
    | nil => cases hc
    | cons a l =>
      rw [List.all_cons, Bool.and_eq_true] at h2
      rw [← Option.some.inj hc]
      exact h2.1
  have hgood : ∀ neg : Bool, (neg = true → n < 0) → ¬ ((lead (w ++ f)).length = 0 ∨ (1 < (lead (w ++ f)).length ∧ (w ++ f).head? = some 48) ∨ (neg = true ∧ w ++ f = [48])) := by
    rintro neg hn (h | h | h)
    · rw [hL] at h; exact h3 (List.length_eq_zero_iff.1 h)
    · rw [hL, hhead] at h; exact h4 h.1 h.2
    · have hneg := hn h.1
      have hwf := h.2
      cases w with
      | nil => exact h3 rfl
      | cons a l =>
        rw [List.cons_append, List.cons.injEq] at hwf
        have hlf := List.append_eq_nil_iff.1 hwf.2
        have hp0 := hfn hlf.2
        have hv0 : V = 0 := by rw [← h1, hwf.1, hlf.1]; rfl
        omega
  by_cases hn : n < 0
  · rw [if_pos hn, List.append_assoc]
    have e : parseV ([45] ++ (w ++ f)) = parseT true (w ++ f) := rfl
    rw [e, parseT_some (hgood true (fun _ => hn)) (by rw [hD]; exact hfr), hL, h1, ← hm]
    split
    · rfl
    · simp only [if_true]
      rw [show -((n.natAbs : Nat) : Int) = n by omega]
  · rw [if_neg hn, List.nil_append]
    have e : parseV (w ++ f) = parseT false (w ++ f) := by
      unfold parseV
      rw [if_neg]
      intro h
      have := hdig 45 h
      cases this
    rw [e, parseT_some (hgood false (fun h => by cases h)) (by rw [hD]; exact hfr), hL, h1, ← hm]
    split
    · rfl
    · simp only [Bool.false_eq_true, if_false]
      rw [show ((n.natAbs : Nat) : Int) = n by omega]

theorem fmtL_le (n : Int) (h0 : -9223372036854775808 ≤ n) (h1 : n ≤ 9223372036854775807) : (fmtL n).length ≤ 100 := by
  rw [fmtL_eq n (n.natAbs / 1000) (n.natAbs % 1000) (by omega) (by omega), List.length_append, List.length_append]
  have g1 := dec_len (n.natAbs / 1000) (by omega)
  have g2 := dec_len (1000 + n.natAbs % 1000) (by omega)
  have g3 : (if n < 0 then [45] else ([] : List UInt8)).length ≤ 1 := by split <;> simp
  have g4 : (if n.natAbs % 1000 = 0 then [] else 46 :: Lib.trimRightB ((Lib.decDigits (1000 + n.natAbs % 1000)).drop 1) 48 : List UInt8).length ≤ 21 := by
    split
    · simp
    · rw [List.length_cons]
      have := trim_le ((Lib.decDigits (1000 + n.natAbs % 1000)).drop 1) 48
      rw [List.length_drop] at this
      omega
  omega

theorem refFormat_of (n : Int) (s : ByteArray) (w : World) (h0 : -9223372036854775808 ≤ n) (h1 : n ≤ 9223372036854775807) (hl : Hid ((⟨(fmtL n).toArray⟩ : ByteArray) = s)) :
    Calls Tryd.prog 12 #[.int .i64 n] w fun e w' => e = .returned (.string s) ∧ w = w' := by
  have := refFormat_any n w h0 h1
  rw [hl.out] at this
  exact this
theorem formatS_of (n : Int) (s : ByteArray) (w : World) (h0 : -9223372036854775808 ≤ n) (h1 : n ≤ 9223372036854775807) (htab : Hid (Tab w)) (hl : Hid ((⟨(fmtL n).toArray⟩ : ByteArray) = s)) :
    Calls Tryd.prog 9 #[.int .i64 n] w fun e w' => e = .returned (.string s) ∧ Below w.heap.size w w' := by
  have := format_any n w h0 h1 htab.out
  rw [hl.out] at this
  exact this

set_option maxHeartbeats 2000000 in
theorem top (n : Int) (h0 : -9223372036854775808 ≤ n) (h1 : n ≤ 9223372036854775807) (w : World) (htab : Tab w) :
    Calls Tryd.prog 3 #[.int .i64 n] w fun e w' => e = .returned (.bool true) ∧ Below w.heap.size w w' := by
  have HT := Lib.hid htab
  clear htab
  obtain ⟨s, hs⟩ : ∃ s, (⟨(fmtL n).toArray⟩ : ByteArray) = s := ⟨_, rfl⟩
  have hsl : s.data.toList = fmtL n := by rw [← hs]
  have hsz : s.size ≤ 100 := by rw [← size_data, hsl]; exact fmtL_le n h0 h1
  have hp := fmt_parse n
  rw [← hsl] at hp
  have HS := Lib.hid hs
  clear hs hsl
  by_cases ho : 268435456 < n.natAbs
  · rw [if_pos ho] at hp
    unfold ovfV at hp
    have HP := Lib.hid hp
    clear hp
    by_cases hn : n ≤ 268435456
    · have hn2 : decide (-268435456 ≤ n) = false := decide_eq_false (by omega)
      clear ho
      go_enter Tryd.func3, Tryd.ntmps3
      go_wp2_with fail
      refine (formatS_of n s _ (by omega) (by omega) HT HS).mono ?_
      rintro e w1 ⟨rfl, hb1⟩
      have T1 : Hid (Tab w1) := Lib.hid (tab_below HT.out hb1)
      go_wp2_with fail
      refine (parse_of s _ _ (by omega) HP).mono ?_
      rintro e w' ⟨rfl, rfl⟩
      go_wp2_with fail
      refine (refParse_of s _ _ (by omega) HP).mono ?_
      rintro e w' ⟨rfl, rfl⟩
      go_wp2_with fail
      refine (refFormat_of n s _ (by omega) (by omega) HS).mono ?_
      rintro e w' ⟨rfl, rfl⟩
      go_wp2_with fail
      refine (awake_any _ T1).mono ?_
      rintro e w' ⟨rfl, hb⟩
      go_wp2
      go_ret
      exact ⟨rfl, hb1.trans (hb.mono hb1.size)⟩
    · clear ho
      go_enter Tryd.func3, Tryd.ntmps3
      go_wp2_with fail
      refine (formatS_of n s _ (by omega) (by omega) HT HS).mono ?_
      rintro e w1 ⟨rfl, hb1⟩
      have T1 : Hid (Tab w1) := Lib.hid (tab_below HT.out hb1)
      go_wp2_with fail
      refine (parse_of s _ _ (by omega) HP).mono ?_
      rintro e w' ⟨rfl, rfl⟩
      go_wp2_with fail
      refine (refParse_of s _ _ (by omega) HP).mono ?_
      rintro e w' ⟨rfl, rfl⟩
      go_wp2_with fail
      refine (refFormat_of n s _ (by omega) (by omega) HS).mono ?_
      rintro e w' ⟨rfl, rfl⟩
      go_wp2_with fail
      refine (awake_any _ T1).mono ?_
      rintro e w' ⟨rfl, hb⟩
      go_wp2
      go_ret
      exact ⟨rfl, hb1.trans (hb.mono hb1.size)⟩
  · rw [if_neg ho] at hp
    have HP := Lib.hid hp
    have hn1 : n ≤ 268435456 := by omega
    have hn2 : -268435456 ≤ n := by omega
    clear hp ho
    go_enter Tryd.func3, Tryd.ntmps3
    go_wp2_with fail
    refine (formatS_of n s _ (by omega) (by omega) HT HS).mono ?_
    rintro e w1 ⟨rfl, hb1⟩
    have T1 : Hid (Tab w1) := Lib.hid (tab_below HT.out hb1)
    go_wp2_with fail
    refine (parse_of s _ _ (by omega) HP).mono ?_
    rintro e w' ⟨rfl, rfl⟩
    go_wp2_with fail
    refine (refParse_of s _ _ (by omega) HP).mono ?_
    rintro e w' ⟨rfl, rfl⟩
    go_wp2_with fail
    refine (refFormat_of n s _ (by omega) (by omega) HS).mono ?_
    rintro e w' ⟨rfl, rfl⟩
    go_wp2_with fail
    refine (awake_any _ T1).mono ?_
    rintro e w' ⟨rfl, hb⟩
    go_wp2
    go_ret
    exact ⟨rfl, hb1.trans (hb.mono hb1.size)⟩

set_option maxRecDepth 100000 in
theorem lifted (os : Os) (started : os.Started) (H : Type) (enc : TypeId × Value → H) :
    ReturnsInHanded {} Tryd.checked os 3 .any (fun w args => (Rows.fixedFormatsSpec.pre enc Tryd.prog Tryd.f3 Rows.fixedFormatsRow.domain false w args ∧ laidMetH Tryd.prog laid5 w) ∧ sizedMet enc Tryd.prog Tryd.f3 (OpenSpec.ofChange Rows.fixedFormatsSpec) false w args)
      (Rows.fixedFormatsSpec.post enc Tryd.prog Tryd.f3 false true false false) := by
  refine returnsInHanded_of_change_and (C := Tryd.checked) (X := fun w _ => laidMetH Tryd.prog laid5 w) (fun _ _ _ hh h => h.of_heap hh) own started (by kernel_rfl) Tryd.func3
    (ChangeSpec.witness_shaped (enc := enc) (C := Tryd.checked) (os := os) (X := fun w _ => laidMetH Tryd.prog laid5 w) false (World.laidAll Tryd.prog os laid5) #[.int .i64 0] 8 (World.laidAll_os _ _ _)
      (World.shaped_of_ZipB (by kernel_rfl) (by kernel_rfl)) (by kernel_rfl) (by kernel_rfl) (by kernel_rfl)
      (by rw [MakeChecks.laidMetH_plain _ _ _ (by kernel_rfl)]; exact laidMet_laidAll _ (by kernel_rfl) (by kernel_rfl))) ?_
  intro W base args ds gs before hval0 hW hcnd _ hL _
  have hval : ∀ (j : Nat) t v, Tryd.f3.params[j]? = some t → args[j]? = some v → Value.okWide Tryd.prog W .any base t v := hval0
  have hW' := hW
  obtain ⟨p, q, hA0, hV, rfl, hfz, hnd⟩ := hW
  have hA : DataW.TrodAll enc Tryd.prog W 0 (fun _ => true) true Tryd.f3.params.toList args.toList ds p := hA0
  rw [Tryd.params3] at hA hval
  obtain ⟨v0, d0, rfl, rfl, h0⟩ := trodAll_one hA
  obtain ⟨rfl, rfl⟩ := trodVars_none hV
  obtain ⟨x0, rfl, rfl, rfl, wx0⟩ := open_int Tryd.underlying3 (hval 0 3 v0 rfl rfl) h0
  have bx0 := bounds_i64 wx0
  clear hA0 hval0
  simp only [List.append_nil] at hW'
  refine (top x0 bx0.1 bx0.2 W (tab_is hL)).mono fun e W' ⟨he, hb⟩ => ?_
  subst he
  exact ⟨_, rfl, _, _, _, [], [], [], hW', trodAll_mk1 (shut_bool Tryd.underlying4 _), trodAll_mk1 (shut_int Tryd.underlying3 wx0), rfl, hb.frame _, fun h => by cases h⟩

theorem holds : Rows.FixedFormatsSaid :=
  OpenClaim.holds_of_wide 3 Tryd.f3 rfl rfl rfl rfl rfl rfl rfl ⟨rfl, rfl, rfl, rfl, rfl⟩ rfl rfl rfl rfl rfl (by kernel_rfl) Tryd.func3 (by kernel_rfl)
    (of_decide_eq_true (by kernel_rfl)) (by unfold Func.isWrapper; first | (rw [if_pos (by decide +kernel)]; kernel_rfl) | (rw [if_neg (by decide +kernel)]; exact ⟨rfl, rfl⟩))
    (fun os started H enc _ => lifted os started H enc)

theorem plain (f : FuncId) (fn : Func) (hf : Tryd.pinned.checked.prog.funcNamed Rows.fixedFormatsRow.func = some f) (hfn : Tryd.pinned.checked.prog.funcs[f]? = some fn) :
    false = Tryd.pinned.checked.prog.looks [] ∧ ∀ (j : Nat) t, fn.params[j]? = some t → Tryd.pinned.checked.prog.wantsStandIn t = false := by
  obtain rfl : f = 3 := Option.some.inj ((show Tryd.prog.funcNamed Rows.fixedFormatsRow.func = some 3 by kernel_rfl).symm.trans hf) |>.symm
  obtain rfl : fn = Tryd.f3 := (Option.some.inj (Tryd.func3.symm.trans hfn)).symm
  refine ⟨by kernel_rfl, fun j t ht => ?_⟩
  rw [Tryd.params3] at ht
  have hm : t ∈ [3] := by simpa using Array.mem_of_getElem? ht
  have hall : ([3].all fun u => !Tryd.prog.wantsStandIn u) = true := by kernel_rfl
  exact (show Tryd.prog.wantsStandIn t = false by simpa using List.all_eq_true.1 hall t hm)

/-- The statement. -/
theorem card : Rows.FixedFormatsCardSaid :=
  Claim7.holds_tied_plain_at .later [] _ _ _ _ holds (fun _ h => by cases h) (by kernel_rfl) (fun _ h => by cases h) fixedFormats_row_tie rfl ⟨rfl, rfl⟩ (by kernel_rfl) rfl plain (by kernel_rfl)
#print axioms card
end Go.Proofs.YtgacapebngllnaaDoor.formats
