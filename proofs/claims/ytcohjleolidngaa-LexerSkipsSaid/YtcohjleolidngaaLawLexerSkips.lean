/-
  LexerSkips: a comment and blanks before a source change only the lines of its tokens, and of its first error; a comment behind a correct source changes nothing, as the statement says. No condition.
-/
import Derived.Test.YtcohjleolidngaaLexFrame
import Derived.Test.YtcohjleolidngaaRefLex1
import Derived.Test.YtcohjleolidngaaLexCode
import Derived.Test.YtcohjleolidngaaRefSame
namespace Go.Proofs.Ytcohjleolidngaa.lskips
open Go.ChangeShapes Go.WideShapes Go.ChangeAt Go.RowKit Go.Joins lex
open Go.ChangeMaps (open_string shut_string)

/-- The lines of the tokens, and of the first error, lie within the source. -/
theorem tkz_lines (pr : List UInt8 → Int × Int) : ∀ (m : Nat) (l : List UInt8) (line : Int) (com : Bool), l.length ≤ m → (∀ t ∈ (tkz pr l line com).1, line ≤ t.line ∧ t.line ≤ line + l.length) ∧ ((tkz pr l line com).2.2 ≠ 0 → line ≤ (tkz pr l line com).2.1 ∧ (tkz pr l line com).2.1 ≤ line + l.length) := by
  intro m
  induction m with
  | zero =>
    intro l line com hm
    have : l = [] := List.length_eq_zero_iff.1 (by omega)
    subst this
    rw [tkz_nil]; exact ⟨fun t ht => (by cases ht), fun h => absurd rfl h⟩
  | succ m ih =>
    intro l line com hm
    cases l with
    | nil => rw [tkz_nil]; exact ⟨fun t ht => (by cases ht), fun h => absurd rfl h⟩
    | cons c t =>
      simp only [List.length_cons] at hm ⊢
      by_cases h1 : c.toNat = 10
      · rw [tkz_lf pr c t _ com h1]
        obtain ⟨a, b⟩ := ih t (line + 1) false (by omega)
        exact ⟨fun u hu => (by have := a u hu; omega), fun h => by have := b h; omega⟩
      · by_cases h2 : (com || isBl c) = true
        · rw [tkz_skip pr c t _ com h1 h2]
          obtain ⟨a, b⟩ := ih t line (com || decide (c.toNat = 35)) (by omega)
          exact ⟨fun u hu => (by have := a u hu; omega), fun h => by have := b h; omega⟩
        · simp only [Bool.or_eq_true, not_or, Bool.not_eq_true] at h2
          obtain ⟨rfl, h3⟩ := h2
          by_cases he : (oneL pr (c :: t)).2.2 = 0
          · have hn := (oneL_len pr (c :: t) (by simp) he).1
            have hd : ((c :: t).drop (oneL pr (c :: t)).2.1).length ≤ t.length := by simp only [List.length_drop, List.length_cons]; omega
            obtain ⟨a, b⟩ := ih ((c :: t).drop (oneL pr (c :: t)).2.1) line false (by omega)
            rw [tkz_tok pr c t _ h1 h3 he]
            unfold comb
            split
            · rename_i hx
              exact ⟨fun u hu => (by cases hu), fun h => by have := b h; dsimp only; omega⟩
            · refine ⟨fun u hu => ?_, fun h => absurd rfl h⟩
              rcases List.mem_cons.1 hu with rfl | hu
              · simp only; omega
              · have := a u hu; omega
          · rw [tkz_err pr c t _ h1 h3 he]; exact ⟨fun u hu => (by cases hu), fun h => by dsimp only; omega⟩
/-- The tokens two lines down. -/
def down (l : List lex.Tok) : List lex.Tok := l.map fun t => { t with line := t.line + 2 }
theorem down_len (l : List lex.Tok) : (down l).length = l.length := by unfold down; rw [List.length_map]
theorem down_at (l : List lex.Tok) (i : Nat) (h : i < l.length) : tokAt (down l) i = { tokAt l i with line := (tokAt l i).line + 2 } := by
  unfold tokAt down
  rw [List.getD_eq_getElem?_getD, List.getD_eq_getElem?_getD, List.getElem?_map, List.getElem?_eq_getElem h]
  rfl

theorem far (C : LexOk) (s : ByteArray) (w : World) (h : (3000 : Int) < (s.size : Int)) :
    Calls Try.prog 7 #[.string s] w fun e w' => e = .returned (.bool true) ∧ Below w.heap.size w w' := by
  go_enter Try.func7, Try.ntmps7
  go_wp2_with fail
  refine (awake_any C _).mono ?_
  rintro e w1 ⟨rfl, hb1⟩
  go_wp2
  go_ret
  exact ⟨rfl, hb1⟩

set_option maxRecDepth 100000 in
set_option maxHeartbeats 4000000 in
theorem bad (C : LexOk) (s : ByteArray) (l0 e0 : Int) (w : World) (h : (s.size : Int) ≤ 3000) (hs : s.size ≤ maxLen) (hs2 : (ba [9, 35, 32, 34, 120, 10, 32, 10] ++ s).size ≤ maxLen) (hl : 1 ≤ l0 ∧ l0 ≤ 5000) (h2 : (e0 != 0) = true) (HE : Hid (tokE s.data.toList = ([], l0, e0))) (HF : Hid (tokE (ba [9, 35, 32, 34, 120, 10, 32, 10] ++ s).data.toList = ([], l0 + 2, e0))) :
    Calls Try.prog 7 #[.string s] w fun e w' => e = .returned (.bool true) ∧ Below w.heap.size w w' := by
  go_enter Try.func7, Try.ntmps7
  go_wp2_with fail
  refine (C.tokenize _ _ _ _ _ hs HE).mono ?_
  rintro e w1 ⟨v, rfl, hT, hb1⟩
  go_wp2_with fail
  refine (C.tokenize _ _ _ _ _ hs2 HF).mono ?_
  rintro e w2 ⟨u, rfl, hU, hb2⟩
  have hb2 := below_keep hb2 hb1
  clear hb1
  obtain ⟨ao, cap, rfl, hcap, hA⟩ := hT
  obtain ⟨bo, dap, rfl, hdap, hB⟩ := hU
  clear hA hB hcap hdap
  go_wp2_with fail
  go_loopw [9] (fun i wr => i = .int .i64 0 ∧ w2 = wr) (fun _ _ => 0)
  case atStart => exact ⟨rfl, rfl⟩
  case round =>
    obtain ⟨rfl, rfl⟩ := hrel
    go_wp2_with fail
    refine (awake_any C _).mono ?_
    rintro e w3 ⟨rfl, hb3⟩
    have hb3 := below_keep hb3 hb2
    clear hb2
    go_wp2
    go_ret
    exact ⟨rfl, hb3⟩

set_option maxRecDepth 100000 in
set_option maxHeartbeats 8000000 in
theorem good (C : LexOk) (s : ByteArray) (L : List lex.Tok) (w : World) (h : (s.size : Int) ≤ 3000) (hs : s.size ≤ maxLen) (hs2 : (ba [9, 35, 32, 34, 120, 10, 32, 10] ++ s).size ≤ maxLen) (hs3 : (s ++ ba [32, 35, 32, 125]).size ≤ maxLen) (hm : L.length ≤ 1000000) (hl : ∀ t ∈ L, 1 ≤ t.line ∧ t.line ≤ 5000) (HE : Hid (tokE s.data.toList = (L, 0, 0))) (HF : Hid (tokE (ba [9, 35, 32, 34, 120, 10, 32, 10] ++ s).data.toList = (down L, 0, 0))) (HG : Hid (tokE (s ++ ba [32, 35, 32, 125]).data.toList = (L, 0, 0))) :
    Calls Try.prog 7 #[.string s] w fun e w' => e = .returned (.bool true) ∧ Below w.heap.size w w' := by
  have hg := guard_tok
  go_enter Try.func7, Try.ntmps7
  go_wp2_with fail
  refine (C.tokenize _ _ _ _ _ hs HE).mono ?_
  rintro e w1 ⟨v, rfl, hT, hb1⟩
  go_wp2_with fail
  refine (C.tokenize _ _ _ _ _ hs2 HF).mono ?_
  rintro e w2 ⟨u, rfl, hU, hb2⟩
  have hT := (hT).keep hb2
  have hb2 := below_keep hb2 hb1
  clear hb1
  obtain ⟨ao, cap, rfl, _, _⟩ := id hT
  obtain ⟨bo, dap, rfl, _, _⟩ := id hU
  rw [down_len] at hU ⊢
  have HT := Lib.hid hT
  have HU := Lib.hid hU
  clear hT hU
  go_wp2_with fail
  go_loopw [9] (fun i wr => ∃ k : Nat, k ≤ L.length ∧ i = .int .i64 k ∧ Below w2.heap.size w2 wr) (fun i _ => L.length - (intOf i).toNat)
  case atStart => exact ⟨0, Nat.zero_le _, rfl, Below.refl _ _⟩
  case round =>
    obtain ⟨k, hk, rfl, hB⟩ := hrel
    rename World => wr
    by_cases hlt : k < L.length
    · obtain ⟨A', eA, _, a0, a1, a2, a3⟩ := (HT.out.keep hB).at' hlt
      obtain ⟨B', eB, e1, b0, b1, b2, b3⟩ := (HU.out.keep hB).at' (l := down L) (by rw [down_len]; exact hlt)
      clear e1
      obtain rfl := eA
      obtain rfl := eB
      rw [down_at L k hlt] at b0 b1 b2 b3
      simp only at b0 b1 b2 b3
      obtain ⟨l1, l2⟩ := hl _ (tokAt_mem hlt)
      have z0 : (0 : Int) ≤ (k : Int) := by omega
      have z1 : (k : Int) < (L.length : Int) := by omega
      go_wp2_with fail
      go_quiet (fail)
      have hB2 := below_keep (below_drewT wr nq) hB
      generalize wr.drewN nq = wn at hB2 ⊢
      go_wp2
      go_roundw
      case rel => exact ⟨k + 1, by omega, by go_num, hB2⟩
      case measure => simp [intOf]; omega
    · obtain rfl : k = L.length := by omega
      have hb3 := below_keep hB hb2
      go_wp2_with fail
      refine (C.tokenize _ _ _ _ _ hs3 HG).mono ?_
      rintro e w4 ⟨x, rfl, hX, hb4⟩
      have hT2 := (HT.out.keep hB).keep hb4
      have hb4 := below_keep hb4 hb3
      clear hb3
      have HT2 := Lib.hid hT2
      have HX := Lib.hid hX
      clear hX
      go_wp2_with fail
      refine (rsame_of _ _ _ _ hm HX HT2).mono ?_
      rintro e w5 ⟨rfl, hb5⟩
      have hb5 := below_keep hb5 hb4
      clear hb4
      go_wp2_with fail
      refine (awake_any C _).mono ?_
      rintro e w6 ⟨rfl, hb6⟩
      have hb6 := below_keep hb6 hb5
      clear hb5
      go_wp2
      go_ret
      exact ⟨ret_bool (by simp), hb6⟩

theorem pre_list (s : ByteArray) (l : List UInt8) : (ba l ++ s).data.toList = l ++ s.data.toList := by
  simp [ba, ByteArray.data_append]
theorem suf_list (s : ByteArray) (l : List UInt8) : (s ++ ba l).data.toList = s.data.toList ++ l := by
  simp [ba, ByteArray.data_append]
theorem top (C : LexOk) (s : ByteArray) (hs : s.size ≤ maxLen) (w : World) :
    Calls Try.prog 7 #[.string s] w fun e w' => e = .returned (.bool true) ∧ Below w.heap.size w w' := by
  rcases Nat.lt_or_ge 3000 s.size with h | h
  · exact far C s w (by omega)
  · have hz : s.data.toList.length = s.size := size_list s
    have hp : (ba [9, 35, 32, 34, 120, 10, 32, 10] ++ s).size = 8 + s.size := by rw [← size_list, pre_list, List.length_append, hz]; rfl
    have hq : (s ++ ba [32, 35, 32, 125]).size = s.size + 4 := by rw [← size_list, suf_list, List.length_append, hz]; rfl
    obtain ⟨L, l0, e0, ht⟩ : ∃ L l0 e0, tkz prL s.data.toList 1 false = (L, l0, e0) := ⟨_, _, _, rfl⟩
    have hc := tkz_count prL s.data.toList.length s.data.toList 1 false (Nat.le_refl _)
    have hn := tkz_lines prL s.data.toList.length s.data.toList 1 false (Nat.le_refl _)
    have hE : tokE s.data.toList = (L, l0, e0) := by rw [tokE_small (by omega)]; exact ht
    have hF : tokE (ba [9, 35, 32, 34, 120, 10, 32, 10] ++ s).data.toList = (down L, if e0 ≠ 0 then l0 + 2 else 0, e0) := by
      rw [pre_list, tokE_small (by rw [List.length_append]; simp only [List.length_cons, List.length_nil]; omega), tkz_prefix, ht]; rfl
    by_cases he : e0 = 0
    · subst he
      have h0 : l0 = 0 := by have := tkz_line0 prL s.data.toList.length s.data.toList 1 false (Nat.le_refl _); rw [ht] at this; exact this rfl
      subst h0
      have hG : tokE (s ++ ba [32, 35, 32, 125]).data.toList = (L, 0, 0) := by
        rw [suf_list, tokE_small (by rw [List.length_append]; simp only [List.length_cons, List.length_nil]; omega), tkz_suffix _ _ (by rw [ht]), ht]
      rw [ht] at hc hn
      simp only at hc hn
      exact good C s L w (by omega) hs (by unfold maxLen; omega) (by unfold maxLen; omega) (by omega) (fun t h => by have := hn.1 t h; omega) (Lib.hid hE) (Lib.hid hF) (Lib.hid hG)
    · have hL : L = [] := by have := tkz_none prL s.data.toList.length s.data.toList 1 false (Nat.le_refl _); rw [ht] at this; exact this he
      subst hL
      rw [ht] at hn
      have hn2 := hn.2 he
      simp only at hn2
      rw [if_pos he] at hF
      exact bad C s l0 e0 w (by omega) hs (by unfold maxLen; omega) (by omega) (by simpa using he) (Lib.hid hE) (Lib.hid hF)


set_option maxRecDepth 100000 in
theorem lifted (os : Os) (started : os.Started) (H : Type) (enc : TypeId × Value → H) :
    ReturnsInHanded {} Try.checked os 7 .any (Rows.lexerSkipsSpec.pre6 enc Try.prog Try.f7 Rows.lexerSkipsRow.domain false) (Rows.lexerSkipsSpec.post enc Try.prog Try.f7 false true false false) := by
  refine returnsInHanded_of_change (C := Try.checked) own started (by kernel_rfl) Try.func7
    (ChangeSpec.witness6 (enc := enc) (C := Try.checked) false ⟨#[], #[.string ByteArray.empty], []⟩ 8 (by kernel_rfl) (by kernel_rfl) (by kernel_rfl) (by kernel_rfl)) ?_
  intro W base args ds gs before hval0 hW _ _
  have hval : ∀ (j : Nat) t v, Try.f7.params[j]? = some t → args[j]? = some v → Value.okWide Try.prog W .any base t v := hval0
  have hW' := hW
  obtain ⟨p, q, hA0, hV, rfl, hfz, hnd⟩ := hW
  have hA : DataW.TrodAll enc Try.prog W 0 (fun _ => true) true Try.f7.params.toList args.toList ds p := hA0
  rw [Try.params7] at hA hval
  obtain ⟨v0, d0, rfl, rfl, h0⟩ := trodAll_one hA
  obtain ⟨rfl, rfl⟩ := trodVars_none hV
  obtain ⟨x0, rfl, rfl, rfl, wx0⟩ := open_string Try.underlying9 (hval 0 9 v0 rfl rfl) h0
  clear hA0 hval0
  simp only [List.append_nil] at hW'
  refine (top lexOk x0 wx0 W).mono fun e W' ⟨he, hb⟩ => ?_
  subst he
  exact ⟨_, rfl, _, _, _, [], [], [], hW', trodAll_mk1 (shut_bool Try.underlying4 _), trodAll_mk1 (shut_string Try.underlying9 wx0), rfl, hb.frame _, fun h => by cases h⟩

/-- The statement. -/
theorem holds : Rows.LexerSkipsSaid :=
  OpenClaim.holds_of_wide 7 Try.f7 rfl rfl rfl rfl rfl rfl rfl ⟨rfl, rfl, rfl, rfl, rfl⟩ rfl rfl rfl rfl rfl (by kernel_rfl) Try.func7 (by kernel_rfl)
    (of_decide_eq_true (by kernel_rfl)) (by unfold Func.isWrapper; first | (rw [if_pos (by decide +kernel)]; kernel_rfl) | (rw [if_neg (by decide +kernel)]; exact ⟨rfl, rfl⟩))
    (fun os started H enc _ => lifted os started H enc)
#print axioms holds

end Go.Proofs.Ytcohjleolidngaa.lskips
