/-
  LexerJoins: Join answers as the reference does, as the statement says. No condition.
-/
import Derived.Test.YtcohjleolidngaaDoorLexDoor
import Derived.Test.YtcohjleolidngaaDoorLexSmall
import Derived.Test.YtcohjleolidngaaDoorRefJoin
import Derived.Test.YtcohjleolidngaaDoorTokOpen
import Derived.Test.YtcohjleolidngaaDoorLexCode
namespace Go.Proofs.YtcohjleolidngaaDoor.ljoins
open Go.ChangeShapes Go.WideShapes Go.ChangeAt Go.RowKit Go.Joins lex
open Go.ChangeMaps (open_string shut_string)


theorem far (C : LexOk) (v : Value) (l : List lex.Tok) (w : World) (hT : Tl w v l) (HS : Hid (smallT l = false)) :
    Calls Tryd.prog 3 #[v] w fun e w' => e = .returned (.bool true) ∧ Below w.heap.size w w' := by
  go_enter Tryd.func3, Tryd.ntmps3
  go_wp2_with fail
  refine (small_of _ _ _ _ (Lib.hid hT) HS).mono ?_
  rintro e w1 ⟨rfl, hb1⟩
  go_wp2_with fail
  refine (awake_any C _).mono ?_
  rintro e w2 ⟨rfl, hb2⟩
  have hb2 := below_keep hb2 hb1
  clear hb1
  go_wp2
  go_ret
  exact ⟨rfl, hb2⟩

set_option maxHeartbeats 4000000 in
theorem near (C : LexOk) (v : Value) (l : List lex.Tok) (q0 : List UInt8) (e0 : Int) (w : World) (hT : Tl w v l) (htab : Tab w) (HS : Hid (smallT l = true)) (hl : l.length ≤ 200) (ht : Hid (∀ t ∈ l, t.text.length ≤ 200)) (hn : Hid (∀ t ∈ l, numR t)) (HJ : Hid (joinE l = (q0, e0))) :
    Calls Tryd.prog 3 #[v] w fun e w' => e = .returned (.bool true) ∧ Below w.heap.size w w' := by
  go_enter Tryd.func3, Tryd.ntmps3
  go_wp2_with fail
  refine (small_of _ _ _ _ (Lib.hid hT) HS).mono ?_
  rintro e w1 ⟨rfl, hb1⟩
  have hT := (hT).keep hb1
  have htab := tab_below htab hb1
  have HT := Lib.hid hT
  have HB := Lib.hid htab
  clear hT htab
  go_wp2_with fail
  refine (C.join _ _ _ _ _ HB hl ht hn HT HJ).mono ?_
  rintro e w2 ⟨rfl, hb2⟩
  have hT := (HT.out).keep hb2
  have hb2 := below_keep hb2 hb1
  clear hb1
  have HT2 := Lib.hid hT
  clear hT
  go_wp2_with fail
  refine (rjoin_of _ _ _ _ _ hl ht HT2 HJ).mono ?_
  rintro e w3 ⟨rfl, hb3⟩
  have hb3 := below_keep hb3 hb2
  clear hb2
  go_wp2_with fail
  refine (awake_any C _).mono ?_
  rintro e w4 ⟨rfl, hb4⟩
  have hb4 := below_keep hb4 hb3
  clear hb3
  go_wp2
  go_ret
  exact ⟨ret_bool (by simp), hb4⟩

theorem top (C : LexOk) (v : Value) (l : List lex.Tok) (w : World) (hT : Tl w v l) (hn : ∀ t ∈ l, numR t) (htab : Tab w) :
    Calls Tryd.prog 3 #[v] w fun e w' => e = .returned (.bool true) ∧ Below w.heap.size w w' := by
  cases hs : smallT l
  · exact far C v l w hT (Lib.hid hs)
  · obtain ⟨h1, h2⟩ := (smallT_iff l).1 hs
    exact near C v l (joinE l).1 (joinE l).2 w hT htab (Lib.hid hs) h1 (Lib.hid h2) (Lib.hid hn) (Lib.hid rfl)


set_option maxRecDepth 100000 in
theorem lifted (os : Os) (started : os.Started) (H : Type) (enc : TypeId × Value → H) :
    ReturnsInHanded {} Tryd.checked os 3 .any (fun w args => (Rows.lexerJoinsSpec.pre enc Tryd.prog Tryd.f3 Rows.lexerJoinsRow.domain false w args ∧ laidMetH Tryd.prog laid5 w) ∧ sizedMet enc Tryd.prog Tryd.f3 (OpenSpec.ofChange Rows.lexerJoinsSpec) false w args)
      (Rows.lexerJoinsSpec.post enc Tryd.prog Tryd.f3 false true false false) := by
  refine returnsInHanded_of_change_and (C := Tryd.checked) (X := fun w _ => laidMetH Tryd.prog laid5 w) (fun _ _ _ hh h => h.of_heap hh) own started (by kernel_rfl) Tryd.func3
    (ChangeSpec.witness_shaped (enc := enc) (C := Tryd.checked) (os := os) (X := fun w _ => laidMetH Tryd.prog laid5 w) false (World.laidAll Tryd.prog os laid5) #[.slice none 0 0] 8 (World.laidAll_os _ _ _)
      (World.shaped_of_ZipB (by kernel_rfl) (by kernel_rfl)) (by kernel_rfl) (by kernel_rfl) (by kernel_rfl)
      (by rw [MakeChecks.laidMetH_plain _ _ _ (by kernel_rfl)]; exact laidMet_laidAll _ (by kernel_rfl) (by kernel_rfl))) ?_
  intro W base args ds gs before hval0 hW hcnd _ hL _
  have hval : ∀ (j : Nat) t v, Tryd.f3.params[j]? = some t → args[j]? = some v → Value.okWide Tryd.prog W .any base t v := hval0
  have hW' := hW
  obtain ⟨p, q, hA0, hV, rfl, hfz, hnd⟩ := hW
  have hA : DataW.TrodAll enc Tryd.prog W 0 (fun _ => true) true Tryd.f3.params.toList args.toList ds p := hA0
  rw [Tryd.params3] at hA hval
  obtain ⟨v0, d0, rfl, rfl, h0⟩ := trodAll_one hA
  obtain ⟨rfl, rfl⟩ := trodVars_none hV
  obtain ⟨l0, s0, _, n0⟩ := open_tokens (hval 0 22 v0 rfl rfl) h0
  clear hA0 hval0
  simp only [List.append_nil] at hW'
  have hlt0 : ∀ x ∈ p, x.block < W.heap.size := fun x hx => by simpa using hW'.lt x (by simp [hx])
  refine (top lexOk v0 l0 W s0 n0 (tab_is hL)).mono fun e W' ⟨he, hb⟩ => ?_
  subst he
  exact ⟨_, rfl, _, _, _, [], p, [], hW', trodAll_mk1 (shut_bool Tryd.underlying4 _), trodAll_mk1 (Below.trod laidOut (by kernel_rfl) (of_decide_eq_true (by kernel_rfl)) h0 hb hlt0), rfl, hb.frame _, fun h => by cases h⟩

theorem holds : Rows.LexerJoinsSaid :=
  OpenClaim.holds_of_wide 3 Tryd.f3 rfl rfl rfl rfl rfl rfl rfl ⟨rfl, rfl, rfl, rfl, rfl⟩ rfl rfl rfl rfl rfl (by kernel_rfl) Tryd.func3 (by kernel_rfl)
    (of_decide_eq_true (by kernel_rfl)) (by unfold Func.isWrapper; first | (rw [if_pos (by decide +kernel)]; kernel_rfl) | (rw [if_neg (by decide +kernel)]; exact ⟨rfl, rfl⟩))
    (fun os started H enc _ => lifted os started H enc)

theorem plain (f : FuncId) (fn : Func) (hf : Tryd.pinned.checked.prog.funcNamed Rows.lexerJoinsRow.func = some f) (hfn : Tryd.pinned.checked.prog.funcs[f]? = some fn) :
    false = Tryd.pinned.checked.prog.looks [] ∧ ∀ (j : Nat) t, fn.params[j]? = some t → Tryd.pinned.checked.prog.wantsStandIn t = false := by
  obtain rfl : f = 3 := Option.some.inj ((show Tryd.prog.funcNamed Rows.lexerJoinsRow.func = some 3 by kernel_rfl).symm.trans hf) |>.symm
  obtain rfl : fn = Tryd.f3 := (Option.some.inj (Tryd.func3.symm.trans hfn)).symm
  refine ⟨by kernel_rfl, fun j t ht => ?_⟩
  rw [Tryd.params3] at ht
  have hm : t ∈ [22] := by simpa using Array.mem_of_getElem? ht
  have hall : ([22].all fun u => !Tryd.prog.wantsStandIn u) = true := by kernel_rfl
  exact (show Tryd.prog.wantsStandIn t = false by simpa using List.all_eq_true.1 hall t hm)

/-- The statement. -/
theorem card : Rows.LexerJoinsCardSaid :=
  Claim7.holds_tied_plain_at .later [] _ _ _ _ holds (fun _ h => by cases h) (by kernel_rfl) (fun _ h => by cases h) lexerJoins_row_tie rfl ⟨rfl, rfl⟩ (by kernel_rfl) rfl plain (by kernel_rfl)
#print axioms card

end Go.Proofs.YtcohjleolidngaaDoor.ljoins
