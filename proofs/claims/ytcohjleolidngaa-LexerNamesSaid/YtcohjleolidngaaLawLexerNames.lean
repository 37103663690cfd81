/-
  LexerNames: for every text, IsName and IsKeyword answer as the reference does, and no text is both, as the statement says. No condition.
-/
import Derived.Test.YtcohjleolidngaaLexFrame
import Derived.Test.YtcohjleolidngaaRefLex1
import Derived.Test.YtcohjleolidngaaLexCode
namespace Go.Proofs.Ytcohjleolidngaa.lnames
open Go.ChangeShapes Go.WideShapes Go.ChangeAt Go.RowKit Go.Joins lex
open Go.ChangeMaps (open_string shut_string)

theorem nm_kw (l : List UInt8) (h : isNm l = true) : isKw l = false := by
  unfold isNm at h; simp only [Bool.and_eq_true, Bool.not_eq_true'] at h; exact h.2
set_option maxHeartbeats 4000000 in
theorem yes (C : LexOk) (s : ByteArray) (w : World) (hs : s.size ≤ maxLen) (HN : Hid (isNm s.data.toList = true)) (HK : Hid (isKw s.data.toList = false)) :
    Calls Try.prog 3 #[.string s] w fun e w' => e = .returned (.bool true) ∧ Below w.heap.size w w' := by
  go_enter Try.func3, Try.ntmps3
  go_wp2_with fail
  refine (C.name_of _ _ _ hs HN).mono ?_
  rintro e w1 ⟨rfl, hb1⟩
  go_wp2_with fail
  refine (rname_of _ _ _ hs HN).mono ?_
  rintro e w' ⟨rfl, rfl⟩
  go_wp2_with fail
  refine (C.kw_of _ _ _ hs HK).mono ?_
  rintro e w2 ⟨rfl, hb2⟩
  have hb2 := below_keep hb2 hb1
  clear hb1
  go_wp2_with fail
  refine (rkw_of _ _ _ HK).mono ?_
  rintro e w' ⟨rfl, rfl⟩
  go_wp2_with fail
  refine (C.name_of _ _ _ hs HN).mono ?_
  rintro e w3 ⟨rfl, hb3⟩
  have hb3 := below_keep hb3 hb2
  clear hb2
  go_wp2_with fail
  refine (C.kw_of _ _ _ hs HK).mono ?_
  rintro e w4 ⟨rfl, hb4⟩
  have hb4 := below_keep hb4 hb3
  clear hb3
  go_wp2_with fail
  refine (awake_any C _).mono ?_
  rintro e w5 ⟨rfl, hb5⟩
  have hb5 := below_keep hb5 hb4
  clear hb4
  go_wp2
  go_ret
  exact ⟨rfl, hb5⟩

set_option maxHeartbeats 4000000 in
theorem no (C : LexOk) (s : ByteArray) (k : Bool) (w : World) (hs : s.size ≤ maxLen) (HN : Hid (isNm s.data.toList = false)) (HK : Hid (isKw s.data.toList = k)) :
    Calls Try.prog 3 #[.string s] w fun e w' => e = .returned (.bool true) ∧ Below w.heap.size w w' := by
  go_enter Try.func3, Try.ntmps3
  go_wp2_with fail
  refine (C.name_of _ _ _ hs HN).mono ?_
  rintro e w1 ⟨rfl, hb1⟩
  go_wp2_with fail
  refine (rname_of _ _ _ hs HN).mono ?_
  rintro e w' ⟨rfl, rfl⟩
  go_wp2_with fail
  refine (C.kw_of _ _ _ hs HK).mono ?_
  rintro e w2 ⟨rfl, hb2⟩
  have hb2 := below_keep hb2 hb1
  clear hb1
  go_wp2_with fail
  refine (rkw_of _ _ _ HK).mono ?_
  rintro e w' ⟨rfl, rfl⟩
  go_wp2_with fail
  refine (C.name_of _ _ _ hs HN).mono ?_
  rintro e w3 ⟨rfl, hb3⟩
  have hb3 := below_keep hb3 hb2
  clear hb2
  go_wp2_with fail
  refine (awake_any C _).mono ?_
  rintro e w4 ⟨rfl, hb4⟩
  have hb4 := below_keep hb4 hb3
  clear hb3
  go_wp2
  go_ret
  exact ⟨rfl, hb4⟩

theorem top (C : LexOk) (s : ByteArray) (hs : s.size ≤ maxLen) (w : World) :
    Calls Try.prog 3 #[.string s] w fun e w' => e = .returned (.bool true) ∧ Below w.heap.size w w' := by
  cases hn : isNm s.data.toList
  · exact no C s _ w hs (Lib.hid hn) (Lib.hid rfl)
  · exact yes C s w hs (Lib.hid hn) (Lib.hid (nm_kw _ hn))


set_option maxRecDepth 100000 in
theorem lifted (os : Os) (started : os.Started) (H : Type) (enc : TypeId × Value → H) :
    ReturnsInHanded {} Try.checked os 3 .any (Rows.lexerNamesSpec.pre6 enc Try.prog Try.f3 Rows.lexerNamesRow.domain false) (Rows.lexerNamesSpec.post enc Try.prog Try.f3 false true false false) := by
  refine returnsInHanded_of_change (C := Try.checked) own started (by kernel_rfl) Try.func3
    (ChangeSpec.witness6 (enc := enc) (C := Try.checked) false ⟨#[], #[.string ByteArray.empty], []⟩ 8 (by kernel_rfl) (by kernel_rfl) (by kernel_rfl) (by kernel_rfl)) ?_
  intro W base args ds gs before hval0 hW _ _
  have hval : ∀ (j : Nat) t v, Try.f3.params[j]? = some t → args[j]? = some v → Value.okWide Try.prog W .any base t v := hval0
  have hW' := hW
  obtain ⟨p, q, hA0, hV, rfl, hfz, hnd⟩ := hW
  have hA : DataW.TrodAll enc Try.prog W 0 (fun _ => true) true Try.f3.params.toList args.toList ds p := hA0
  rw [Try.params3] at hA hval
  obtain ⟨v0, d0, rfl, rfl, h0⟩ := trodAll_one hA
  obtain ⟨rfl, rfl⟩ := trodVars_none hV
  obtain ⟨x0, rfl, rfl, rfl, wx0⟩ := open_string Try.underlying9 (hval 0 9 v0 rfl rfl) h0
  clear hA0 hval0
  simp only [List.append_nil] at hW'
  refine (top lexOk x0 wx0 W).mono fun e W' ⟨he, hb⟩ => ?_
  subst he
  exact ⟨_, rfl, _, _, _, [], [], [], hW', trodAll_mk1 (shut_bool Try.underlying4 _), trodAll_mk1 (shut_string Try.underlying9 wx0), rfl, hb.frame _, fun h => by cases h⟩

/-- The statement. -/
theorem holds : Rows.LexerNamesSaid :=
  OpenClaim.holds_of_wide 3 Try.f3 rfl rfl rfl rfl rfl rfl rfl ⟨rfl, rfl, rfl, rfl, rfl⟩ rfl rfl rfl rfl rfl (by kernel_rfl) Try.func3 (by kernel_rfl)
    (of_decide_eq_true (by kernel_rfl)) (by unfold Func.isWrapper; first | (rw [if_pos (by decide +kernel)]; kernel_rfl) | (rw [if_neg (by decide +kernel)]; exact ⟨rfl, rfl⟩))
    (fun os started H enc _ => lifted os started H enc)
#print axioms holds

end Go.Proofs.Ytcohjleolidngaa.lnames
