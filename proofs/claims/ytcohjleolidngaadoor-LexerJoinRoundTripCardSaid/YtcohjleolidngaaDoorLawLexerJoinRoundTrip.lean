/-
  LexerJoinRoundTrip: joined tokens are tokenized to the same tokens, all on line 1, as the statement says. No condition.
-/
import Derived.Test.YtcohjleolidngaaDoorLexDoor
import Derived.Test.YtcohjleolidngaaDoorLexSmall
import Derived.Test.YtcohjleolidngaaDoorRefJoin
import Derived.Test.YtcohjleolidngaaDoorTokOpen
import Derived.Test.YtcohjleolidngaaDoorLexCode
import Derived.Test.YtcohjleolidngaaDoorRefSame
namespace Go.Proofs.YtcohjleolidngaaDoor.ljoinroundtrip
open Go.ChangeShapes Go.WideShapes Go.ChangeAt Go.RowKit Go.Joins lex
open Go.ChangeMaps (open_string shut_string)


def ones (l : List lex.Tok) : List lex.Tok := l.map fun t => { t with line := 1 }
theorem ones_len (l : List lex.Tok) : (ones l).length = l.length := by unfold ones; rw [List.length_map]
theorem ones_at (l : List lex.Tok) (i : Nat) (h : i < l.length) : tokAt (ones l) i = { tokAt l i with line := 1 } := by
  unfold tokAt ones
  rw [List.getD_eq_getElem?_getD, List.getD_eq_getElem?_getD, List.getElem?_map, List.getElem?_eq_getElem h]
  rfl
theorem far (C : LexOk) (v : Value) (l : List lex.Tok) (w : World) (hT : Tl w v l) (HS : Hid (smallT l = false)) :
    Calls Tryd.prog 4 #[v] w fun e w' => e = .returned (.bool true) ∧ Below w.heap.size w w' := by
  go_enter Tryd.func4, Tryd.ntmps4
  go_wp2_with fail
  refine (small_of _ _ _ _ (Lib.hid hT) HS).mono ?_
  rintro e w1 ⟨rfl, hb1⟩
  go_wp2_with fail
  refine (awake_any C _).mono ?_
  rintro e w2 ⟨rfl, hb2⟩
  have hb2 := below_keep hb2 hb1
  clear hb1
  go_wp2
  go_ret
  exact ⟨rfl, hb2⟩

set_option maxHeartbeats 4000000 in
theorem bad1 (C : LexOk) (v : Value) (l : List lex.Tok) (w : World) (hT : Tl w v l) (htab : Tab w) (HS : Hid (smallT l = true)) (hl : l.length ≤ 200) (ht : Hid (∀ t ∈ l, t.text.length ≤ 200)) (hn : Hid (∀ t ∈ l, numR t)) (HJ : Hid (joinE l = ([], 1))) :
    Calls Tryd.prog 4 #[v] w fun e w' => e = .returned (.bool true) ∧ Below w.heap.size w w' := by
  go_enter Tryd.func4, Tryd.ntmps4
  go_wp2_with fail
  refine (small_of _ _ _ _ (Lib.hid hT) HS).mono ?_
  rintro e w1 ⟨rfl, hb1⟩
  have hT := (hT).keep hb1
  have htab := tab_below htab hb1
  have HT := Lib.hid hT
  have HB := Lib.hid htab
  clear hT htab
  go_wp2_with fail
  refine (C.join _ _ _ _ _ HB hl ht hn HT HJ).mono ?_
  rintro e w2 ⟨rfl, hb2⟩
  have hT := (HT.out).keep hb2
  have hb2 := below_keep hb2 hb1
  clear hb1
  clear hT
  go_wp2_with fail
  refine (awake_any C _).mono ?_
  rintro e w3 ⟨rfl, hb3⟩
  have hb3 := below_keep hb3 hb2
  clear hb2
  go_wp2
  go_ret
  exact ⟨rfl, hb3⟩

set_option maxHeartbeats 4000000 in
theorem bad2 (C : LexOk) (v : Value) (l : List lex.Tok) (w : World) (hT : Tl w v l) (htab : Tab w) (HS : Hid (smallT l = true)) (hl : l.length ≤ 200) (ht : Hid (∀ t ∈ l, t.text.length ≤ 200)) (hn : Hid (∀ t ∈ l, numR t)) (HJ : Hid (joinE l = ([], 2))) :
    Calls Tryd.prog 4 #[v] w fun e w' => e = .returned (.bool true) ∧ Below w.heap.size w w' := by
  go_enter Tryd.func4, Tryd.ntmps4
  go_wp2_with fail
  refine (small_of _ _ _ _ (Lib.hid hT) HS).mono ?_
  rintro e w1 ⟨rfl, hb1⟩
  have hT := (hT).keep hb1
  have htab := tab_below htab hb1
  have HT := Lib.hid hT
  have HB := Lib.hid htab
  clear hT htab
  go_wp2_with fail
  refine (C.join _ _ _ _ _ HB hl ht hn HT HJ).mono ?_
  rintro e w2 ⟨rfl, hb2⟩
  have hT := (HT.out).keep hb2
  have hb2 := below_keep hb2 hb1
  clear hb1
  clear hT
  go_wp2_with fail
  refine (awake_any C _).mono ?_
  rintro e w3 ⟨rfl, hb3⟩
  have hb3 := below_keep hb3 hb2
  clear hb2
  go_wp2
  go_ret
  exact ⟨rfl, hb3⟩

set_option maxRecDepth 100000 in
set_option maxHeartbeats 8000000 in
theorem good (C : LexOk) (v : Value) (l : List lex.Tok) (q0 : List UInt8) (w : World) (hT : Tl w v l) (htab : Tab w) (HS : Hid (smallT l = true)) (hl : l.length ≤ 200) (ht : Hid (∀ t ∈ l, t.text.length ≤ 200)) (hn : Hid (∀ t ∈ l, numR t)) (HJ : Hid (joinE l = (q0, 0))) (hz : (ba q0).size ≤ maxLen) (HE : Hid (tokE (ba q0).data.toList = (ones l, 0, 0))) :
    Calls Tryd.prog 4 #[v] w fun e w' => e = .returned (.bool true) ∧ Below w.heap.size w w' := by
  have hg := guard_tok
  go_enter Tryd.func4, Tryd.ntmps4
  go_wp2_with fail
  refine (small_of _ _ _ _ (Lib.hid hT) HS).mono ?_
  rintro e w1 ⟨rfl, hb1⟩
  have hT := (hT).keep hb1
  have htab := tab_below htab hb1
  have HT := Lib.hid hT
  have HB := Lib.hid htab
  clear hT htab
  go_wp2_with fail
  refine (C.join _ _ _ _ _ HB hl ht hn HT HJ).mono ?_
  rintro e w2 ⟨rfl, hb2⟩
  have hT := (HT.out).keep hb2
  have hb2 := below_keep hb2 hb1
  clear hb1
  go_wp2_with fail
  refine (C.tokenize _ _ _ _ _ hz HE).mono ?_
  rintro e w3 ⟨u, rfl, hU, hb3⟩
  have hT := (hT).keep hb3
  have hb3 := below_keep hb3 hb2
  clear hb2
  obtain ⟨ao, cap, rfl, _, _⟩ := id hT
  obtain ⟨bo, dap, rfl, _, _⟩ := id hU
  rw [ones_len] at hU ⊢
  have HT2 := Lib.hid hT
  have HU := Lib.hid hU
  clear hT hU
  go_wp2_with fail
  go_loopw [8] (fun i wr => ∃ k : Nat, k ≤ l.length ∧ i = .int .i64 k ∧ Below w3.heap.size w3 wr) (fun i _ => l.length - (intOf i).toNat)
  case atStart => exact ⟨0, Nat.zero_le _, rfl, Below.refl _ _⟩
  case round =>
    obtain ⟨k, hk, rfl, hB⟩ := hrel
    rename World => wr
    by_cases hlt : k < l.length
    · obtain ⟨A', eA, _, a0, a1, a2, a3⟩ := (HT2.out.keep hB).at' hlt
      obtain ⟨B', eB, e1, b0, b1, b2, b3⟩ := (HU.out.keep hB).at' (l := ones l) (by rw [ones_len]; exact hlt)
      clear e1
      obtain rfl := eA
      obtain rfl := eB
      rw [ones_at l k hlt] at b0 b1 b2 b3
      simp only at b0 b1 b2 b3
      have z0 : (0 : Int) ≤ (k : Int) := by omega
      have z1 : (k : Int) < (l.length : Int) := by omega
      go_wp2_with fail
      go_quiet (fail)
      have hB2 := below_keep (below_drewT wr nq) hB
      generalize wr.drewN nq = wn at hB2 ⊢
      go_wp2
      go_roundw
      case rel => exact ⟨k + 1, by omega, by go_num, hB2⟩
      case measure => simp [intOf]; omega
    · obtain rfl : k = l.length := by omega
      have hb3 := below_keep hB hb3
      go_wp2_with fail
      refine (awake_any C _).mono ?_
      rintro e w4 ⟨rfl, hb4⟩
      have hb4 := below_keep hb4 hb3
      clear hb3
      go_wp2
      go_ret
      exact ⟨ret_bool (by simp), hb4⟩

theorem top (C : LexOk) (v : Value) (l : List lex.Tok) (w : World) (hT : Tl w v l) (hn : ∀ t ∈ l, numR t) (htab : Tab w) :
    Calls Tryd.prog 4 #[v] w fun e w' => e = .returned (.bool true) ∧ Below w.heap.size w w' := by
  cases hs : smallT l
  · exact far C v l w hT (Lib.hid hs)
  · obtain ⟨h1, h2⟩ := (smallT_iff l).1 hs
    by_cases hv : l.all valB = false
    · exact bad1 C v l w hT htab (Lib.hid hs) h1 (Lib.hid h2) (Lib.hid hn) (Lib.hid (by unfold joinE; rw [if_pos hv]))
    · by_cases hz : 16384 < (joinL fmtL l).length
      · exact bad2 C v l w hT htab (Lib.hid hs) h1 (Lib.hid h2) (Lib.hid hn) (Lib.hid (by unfold joinE; rw [if_neg hv, if_pos hz]))
      · refine good C v l (joinL fmtL l) w hT htab (Lib.hid hs) h1 (Lib.hid h2) (Lib.hid hn) (Lib.hid (by unfold joinE; rw [if_neg hv, if_neg hz])) (by rw [ba_size]; unfold maxLen; omega) (Lib.hid ?_)
        rw [ba_list, tokE_small (by omega)]
        exact tkz_join prL fmtL fmt_ok 1 l (fun t ht => (valB_iff t).1 (List.all_eq_true.1 (by simpa using hv) t ht))


set_option maxRecDepth 100000 in
theorem lifted (os : Os) (started : os.Started) (H : Type) (enc : TypeId × Value → H) :
    ReturnsInHanded {} Tryd.checked os 4 .any (fun w args => (Rows.lexerJoinRoundTripSpec.pre enc Tryd.prog Tryd.f4 Rows.lexerJoinRoundTripRow.domain false w args ∧ laidMetH Tryd.prog laid5 w) ∧ sizedMet enc Tryd.prog Tryd.f4 (OpenSpec.ofChange Rows.lexerJoinRoundTripSpec) false w args)
      (Rows.lexerJoinRoundTripSpec.post enc Tryd.prog Tryd.f4 false true false false) := by
  refine returnsInHanded_of_change_and (C := Tryd.checked) (X := fun w _ => laidMetH Tryd.prog laid5 w) (fun _ _ _ hh h => h.of_heap hh) own started (by kernel_rfl) Tryd.func4
    (ChangeSpec.witness_shaped (enc := enc) (C := Tryd.checked) (os := os) (X := fun w _ => laidMetH Tryd.prog laid5 w) false (World.laidAll Tryd.prog os laid5) #[.slice none 0 0] 8 (World.laidAll_os _ _ _)
      (World.shaped_of_ZipB (by kernel_rfl) (by kernel_rfl)) (by kernel_rfl) (by kernel_rfl) (by kernel_rfl)
      (by rw [MakeChecks.laidMetH_plain _ _ _ (by kernel_rfl)]; exact laidMet_laidAll _ (by kernel_rfl) (by kernel_rfl))) ?_
  intro W base args ds gs before hval0 hW hcnd _ hL _
  have hval : ∀ (j : Nat) t v, Tryd.f4.params[j]? = some t → args[j]? = some v → Value.okWide Tryd.prog W .any base t v := hval0
  have hW' := hW
  obtain ⟨p, q, hA0, hV, rfl, hfz, hnd⟩ := hW
  have hA : DataW.TrodAll enc Tryd.prog W 0 (fun _ => true) true Tryd.f4.params.toList args.toList ds p := hA0
  rw [Tryd.params4] at hA hval
  obtain ⟨v0, d0, rfl, rfl, h0⟩ := trodAll_one hA
  obtain ⟨rfl, rfl⟩ := trodVars_none hV
  obtain ⟨l0, s0, _, n0⟩ := open_tokens (hval 0 22 v0 rfl rfl) h0
  clear hA0 hval0
  simp only [List.append_nil] at hW'
  have hlt0 : ∀ x ∈ p, x.block < W.heap.size := fun x hx => by simpa using hW'.lt x (by simp [hx])
  refine (top lexOk v0 l0 W s0 n0 (tab_is hL)).mono fun e W' ⟨he, hb⟩ => ?_
  subst he
  exact ⟨_, rfl, _, _, _, [], p, [], hW', trodAll_mk1 (shut_bool Tryd.underlying4 _), trodAll_mk1 (Below.trod laidOut (by kernel_rfl) (of_decide_eq_true (by kernel_rfl)) h0 hb hlt0), rfl, hb.frame _, fun h => by cases h⟩

theorem holds : Rows.LexerJoinRoundTripSaid :=
  OpenClaim.holds_of_wide 4 Tryd.f4 rfl rfl rfl rfl rfl rfl rfl ⟨rfl, rfl, rfl, rfl, rfl⟩ rfl rfl rfl rfl rfl (by kernel_rfl) Tryd.func4 (by kernel_rfl)
    (of_decide_eq_true (by kernel_rfl)) (by unfold Func.isWrapper; first | (rw [if_pos (by decide +kernel)]; kernel_rfl) | (rw [if_neg (by decide +kernel)]; exact ⟨rfl, rfl⟩))
    (fun os started H enc _ => lifted os started H enc)

theorem plain (f : FuncId) (fn : Func) (hf : Tryd.pinned.checked.prog.funcNamed Rows.lexerJoinRoundTripRow.func = some f) (hfn : Tryd.pinned.checked.prog.funcs[f]? = some fn) :
    false = Tryd.pinned.checked.prog.looks [] ∧ ∀ (j : Nat) t, fn.params[j]? = some t → Tryd.pinned.checked.prog.wantsStandIn t = false := by
  obtain rfl : f = 4 := Option.some.inj ((show Tryd.prog.funcNamed Rows.lexerJoinRoundTripRow.func = some 4 by kernel_rfl).symm.trans hf) |>.symm
  obtain rfl : fn = Tryd.f4 := (Option.some.inj (Tryd.func4.symm.trans hfn)).symm
  refine ⟨by kernel_rfl, fun j t ht => ?_⟩
  rw [Tryd.params4] at ht
  have hm : t ∈ [22] := by simpa using Array.mem_of_getElem? ht
  have hall : ([22].all fun u => !Tryd.prog.wantsStandIn u) = true := by kernel_rfl
  exact (show Tryd.prog.wantsStandIn t = false by simpa using List.all_eq_true.1 hall t hm)

/-- The statement. -/
theorem card : Rows.LexerJoinRoundTripCardSaid :=
  Claim7.holds_tied_plain_at .later [] _ _ _ _ holds (fun _ h => by cases h) (by kernel_rfl) (fun _ h => by cases h) lexerJoinRoundTrip_row_tie rfl ⟨rfl, rfl⟩ (by kernel_rfl) rfl plain (by kernel_rfl)
#print axioms card

end Go.Proofs.YtcohjleolidngaaDoor.ljoinroundtrip
