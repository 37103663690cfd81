/-
  LexerTokenizes: for every source of at most 3000 bytes Tokenize answers as the reference does, as the statement says. No condition.
-/
import Derived.Test.YtcohjleolidngaaLexFrame
import Derived.Test.YtcohjleolidngaaRefLex1
import Derived.Test.YtcohjleolidngaaLexCode
import Derived.Test.YtcohjleolidngaaRefTok
import Derived.Test.YtcohjleolidngaaRefSame
namespace Go.Proofs.Ytcohjleolidngaa.ltokenizes
open Go.ChangeShapes Go.WideShapes Go.ChangeAt Go.RowKit Go.Joins lex
open Go.ChangeMaps (open_string shut_string)

theorem far (C : LexOk) (s : ByteArray) (w : World) (h : (3000 : Int) < (s.size : Int)) :
    Calls Try.prog 5 #[.string s] w fun e w' => e = .returned (.bool true) ∧ Below w.heap.size w w' := by
  go_enter Try.func5, Try.ntmps5
  go_wp2_with fail
  refine (awake_any C _).mono ?_
  rintro e w1 ⟨rfl, hb1⟩
  go_wp2
  go_ret
  exact ⟨rfl, hb1⟩

set_option maxHeartbeats 4000000 in
theorem near (C : LexOk) (s : ByteArray) (L : List lex.Tok) (l0 e0 : Int) (w : World) (h : (s.size : Int) ≤ 3000) (hs : s.size ≤ maxLen) (hs2 : s.size ≤ 16384) (hL : L.length ≤ 1000000) (HE : Hid (tokE s.data.toList = (L, l0, e0))) (HR : Hid (tkz prL s.data.toList 1 false = (L, l0, e0))) :
    Calls Try.prog 5 #[.string s] w fun e w' => e = .returned (.bool true) ∧ Below w.heap.size w w' := by
  go_enter Try.func5, Try.ntmps5
  go_wp2_with fail
  refine (C.tokenize _ _ _ _ _ hs HE).mono ?_
  rintro e w1 ⟨v, rfl, hT, hb1⟩
  go_wp2_with fail
  refine (rtokenize_of _ _ _ _ _ hs2 HR).mono ?_
  rintro e w2 ⟨u, rfl, hU, hb2⟩
  have hT := (hT).keep hb2
  have hb2 := below_keep hb2 hb1
  clear hb1
  have HT := Lib.hid hT
  have HU := Lib.hid hU
  clear hT hU
  go_wp2_with fail
  refine (rsame_of _ _ _ _ hL HT HU).mono ?_
  rintro e w3 ⟨rfl, hb3⟩
  have hb3 := below_keep hb3 hb2
  clear hb2
  go_wp2_with fail
  refine (awake_any C _).mono ?_
  rintro e w4 ⟨rfl, hb4⟩
  have hb4 := below_keep hb4 hb3
  clear hb3
  go_wp2
  go_ret
  exact ⟨ret_bool (by simp), hb4⟩

theorem top (C : LexOk) (s : ByteArray) (hs : s.size ≤ maxLen) (w : World) :
    Calls Try.prog 5 #[.string s] w fun e w' => e = .returned (.bool true) ∧ Below w.heap.size w w' := by
  rcases Nat.lt_or_ge 3000 s.size with h | h
  · exact far C s w (by omega)
  · obtain ⟨L, l0, e0, ht⟩ : ∃ L l0 e0, tkz prL s.data.toList 1 false = (L, l0, e0) := ⟨_, _, _, rfl⟩
    have hc := tkz_count prL s.data.toList.length s.data.toList 1 false (Nat.le_refl _)
    rw [ht, size_list] at hc
    exact near C s L l0 e0 w (by omega) hs (by omega) (by simp only at hc; omega) (Lib.hid (by rw [tokE_small (by rw [size_list]; omega)]; exact ht)) (Lib.hid ht)


set_option maxRecDepth 100000 in
theorem lifted (os : Os) (started : os.Started) (H : Type) (enc : TypeId × Value → H) :
    ReturnsInHanded {} Try.checked os 5 .any (Rows.lexerTokenizesSpec.pre6 enc Try.prog Try.f5 Rows.lexerTokenizesRow.domain false) (Rows.lexerTokenizesSpec.post enc Try.prog Try.f5 false true false false) := by
  refine returnsInHanded_of_change (C := Try.checked) own started (by kernel_rfl) Try.func5
    (ChangeSpec.witness6 (enc := enc) (C := Try.checked) false ⟨#[], #[.string ByteArray.empty], []⟩ 8 (by kernel_rfl) (by kernel_rfl) (by kernel_rfl) (by kernel_rfl)) ?_
  intro W base args ds gs before hval0 hW _ _
  have hval : ∀ (j : Nat) t v, Try.f5.params[j]? = some t → args[j]? = some v → Value.okWide Try.prog W .any base t v := hval0
  have hW' := hW
  obtain ⟨p, q, hA0, hV, rfl, hfz, hnd⟩ := hW
  have hA : DataW.TrodAll enc Try.prog W 0 (fun _ => true) true Try.f5.params.toList args.toList ds p := hA0
  rw [Try.params5] at hA hval
  obtain ⟨v0, d0, rfl, rfl, h0⟩ := trodAll_one hA
  obtain ⟨rfl, rfl⟩ := trodVars_none hV
  obtain ⟨x0, rfl, rfl, rfl, wx0⟩ := open_string Try.underlying9 (hval 0 9 v0 rfl rfl) h0
  clear hA0 hval0
  simp only [List.append_nil] at hW'
  refine (top lexOk x0 wx0 W).mono fun e W' ⟨he, hb⟩ => ?_
  subst he
  exact ⟨_, rfl, _, _, _, [], [], [], hW', trodAll_mk1 (shut_bool Try.underlying4 _), trodAll_mk1 (shut_string Try.underlying9 wx0), rfl, hb.frame _, fun h => by cases h⟩

/-- The statement. -/
theorem holds : Rows.LexerTokenizesSaid :=
  OpenClaim.holds_of_wide 5 Try.f5 rfl rfl rfl rfl rfl rfl rfl ⟨rfl, rfl, rfl, rfl, rfl⟩ rfl rfl rfl rfl rfl (by kernel_rfl) Try.func5 (by kernel_rfl)
    (of_decide_eq_true (by kernel_rfl)) (by unfold Func.isWrapper; first | (rw [if_pos (by decide +kernel)]; kernel_rfl) | (rw [if_neg (by decide +kernel)]; exact ⟨rfl, rfl⟩))
    (fun os started H enc _ => lifted os started H enc)
#print axioms holds

end Go.Proofs.Ytcohjleolidngaa.ltokenizes
