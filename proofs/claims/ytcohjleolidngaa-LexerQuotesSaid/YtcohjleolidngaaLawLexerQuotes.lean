/-
  LexerQuotes: for every text Quote answers as the reference does, and its text is tokenized to one string with these contents, as the statement says. No condition.
-/
import Derived.Test.YtcohjleolidngaaLexFrame
import Derived.Test.YtcohjleolidngaaRefLex1
import Derived.Test.YtcohjleolidngaaLexCode
import Derived.Test.YtcohjleolidngaaRefSame
namespace Go.Proofs.Ytcohjleolidngaa.lquotes
open Go.ChangeShapes Go.WideShapes Go.ChangeAt Go.RowKit Go.Joins lex
open Go.ChangeMaps (open_string shut_string)

set_option maxHeartbeats 4000000 in
theorem bad (C : LexOk) (s : ByteArray) (q : List UInt8) (e0 : Int) (w : World) (hs : s.size ≤ maxLen) (HE : Hid (quoE s.data.toList = (q, e0))) (h2 : (e0 != 0) = true) :
    Calls Try.prog 4 #[.string s] w fun e w' => e = .returned (.bool true) ∧ Below w.heap.size w w' := by
  go_enter Try.func4, Try.ntmps4
  go_wp2_with fail
  refine (C.quote _ _ _ _ hs HE).mono ?_
  rintro e w1 ⟨rfl, hb1⟩
  go_wp2_with fail
  refine (rquote_of _ _ _ _ hs HE).mono ?_
  rintro e w' ⟨rfl, rfl⟩
  go_wp2_with fail
  refine (awake_any C _).mono ?_
  rintro e w2 ⟨rfl, hb2⟩
  have hb2 := below_keep hb2 hb1
  clear hb1
  go_wp2
  go_ret
  exact ⟨rfl, hb2⟩

set_option maxHeartbeats 4000000 in
theorem good (C : LexOk) (s : ByteArray) (q : List UInt8) (w : World) (hs : s.size ≤ maxLen) (HE : Hid (quoE s.data.toList = (q, 0))) (hz : (ba q).size ≤ maxLen) (HT : Hid (tokE (ba q).data.toList = ([⟨4, s.data.toList, 0, 1⟩], 0, 0))) :
    Calls Try.prog 4 #[.string s] w fun e w' => e = .returned (.bool true) ∧ Below w.heap.size w w' := by
  go_enter Try.func4, Try.ntmps4
  go_wp2_with fail
  refine (C.quote _ _ _ _ hs HE).mono ?_
  rintro e w1 ⟨rfl, hb1⟩
  go_wp2_with fail
  refine (rquote_of _ _ _ _ hs HE).mono ?_
  rintro e w' ⟨rfl, rfl⟩
  go_wp2_with fail
  refine (C.tokenize _ _ _ _ _ hz HT).mono ?_
  rintro e w2 ⟨v, rfl, hT, hb2⟩
  have hb2 := below_keep hb2 hb1
  clear hb1
  go_wp2_with fail
  refine (rsame_of _ _ [⟨4, s.data.toList, 0, 1⟩] _ (by simp) (Lib.hid (hT.keep (al1 ..))) (Lib.hid (Tl.lit _ _ _ _ _ _ _ rfl))).mono ?_
  rintro e w9 ⟨rfl, hb9⟩
  have hb3 := below_keep hb9 (below_keep (al1 ..) hb2)
  clear hb9
  go_wp2_with fail
  refine (awake_any C _).mono ?_
  rintro e w4 ⟨rfl, hb4⟩
  have hb4 := below_keep hb4 hb3
  clear hb3
  go_wp2
  go_ret
  exact ⟨ret_bool (by simp), hb4⟩

theorem top (C : LexOk) (s : ByteArray) (hs : s.size ≤ maxLen) (w : World) :
    Calls Try.prog 4 #[.string s] w fun e w' => e = .returned (.bool true) ∧ Below w.heap.size w w' := by
  by_cases h32 : 32 < s.data.toList.length
  · exact bad C s [] 2 w hs (Lib.hid (by unfold quoE; rw [if_pos h32])) (by decide)
  · cases hp : s.data.toList.all isPl
    · exact bad C s [] 1 w hs (Lib.hid (by unfold quoE; rw [if_neg h32, hp]; rfl)) (by decide)
    · have hl := esc_len s.data.toList
      have hq : (quoL s.data.toList).length ≤ 100 := by unfold quoL; simp only [List.length_cons, List.length_append, List.length_nil]; omega
      refine good C s (quoL s.data.toList) w hs (Lib.hid (by unfold quoE; rw [if_neg h32, if_pos hp])) (by rw [ba_size]; unfold maxLen; omega) (Lib.hid ?_)
      rw [ba_list, tokE_small (by omega)]
      exact tkz_quote prL fmtL _ (by omega) hp fmt_ok


set_option maxRecDepth 100000 in
theorem lifted (os : Os) (started : os.Started) (H : Type) (enc : TypeId × Value → H) :
    ReturnsInHanded {} Try.checked os 4 .any (Rows.lexerQuotesSpec.pre6 enc Try.prog Try.f4 Rows.lexerQuotesRow.domain false) (Rows.lexerQuotesSpec.post enc Try.prog Try.f4 false true false false) := by
  refine returnsInHanded_of_change (C := Try.checked) own started (by kernel_rfl) Try.func4
    (ChangeSpec.witness6 (enc := enc) (C := Try.checked) false ⟨#[], #[.string ByteArray.empty], []⟩ 8 (by kernel_rfl) (by kernel_rfl) (by kernel_rfl) (by kernel_rfl)) ?_
  intro W base args ds gs before hval0 hW _ _
  have hval : ∀ (j : Nat) t v, Try.f4.params[j]? = some t → args[j]? = some v → Value.okWide Try.prog W .any base t v := hval0
  have hW' := hW
  obtain ⟨p, q, hA0, hV, rfl, hfz, hnd⟩ := hW
  have hA : DataW.TrodAll enc Try.prog W 0 (fun _ => true) true Try.f4.params.toList args.toList ds p := hA0
  rw [Try.params4] at hA hval
  obtain ⟨v0, d0, rfl, rfl, h0⟩ := trodAll_one hA
  obtain ⟨rfl, rfl⟩ := trodVars_none hV
  obtain ⟨x0, rfl, rfl, rfl, wx0⟩ := open_string Try.underlying9 (hval 0 9 v0 rfl rfl) h0
  clear hA0 hval0
  simp only [List.append_nil] at hW'
  refine (top lexOk x0 wx0 W).mono fun e W' ⟨he, hb⟩ => ?_
  subst he
  exact ⟨_, rfl, _, _, _, [], [], [], hW', trodAll_mk1 (shut_bool Try.underlying4 _), trodAll_mk1 (shut_string Try.underlying9 wx0), rfl, hb.frame _, fun h => by cases h⟩

/-- The statement. -/
theorem holds : Rows.LexerQuotesSaid :=
  OpenClaim.holds_of_wide 4 Try.f4 rfl rfl rfl rfl rfl rfl rfl ⟨rfl, rfl, rfl, rfl, rfl⟩ rfl rfl rfl rfl rfl (by kernel_rfl) Try.func4 (by kernel_rfl)
    (of_decide_eq_true (by kernel_rfl)) (by unfold Func.isWrapper; first | (rw [if_pos (by decide +kernel)]; kernel_rfl) | (rw [if_neg (by decide +kernel)]; exact ⟨rfl, rfl⟩))
    (fun os started H enc _ => lifted os started H enc)
#print axioms holds

end Go.Proofs.Ytcohjleolidngaa.lquotes
