/-
  What the reference's Known returns. No condition.
  What value, Mode and Side of the reference return. Condition: texts of at most 20000 bytes.
-/
import Derived.Test.YthcglcnhdgeaeaaDoorMAp
import Derived.Test.YthcglcnhdgeaeaaDoorTrees
import Derived.Test.YthcglcnhdgeaeaaDoorMRf
import Derived.Lib.QuietBelow
namespace Go.Proofs.YthcglcnhdgeaeaaDoor.att
open Go.RowKit lex tre

def ruV (x : Ru) : Value := .agg #[.int .i64 x.form, .int .i64 x.low, .int .i64 x.high, .int .i64 x.normal]
theorem drew_n (w : World) : ∀ n, Below w.heap.size w (w.drewN n)
  | 0 => Below.refl _ _
  | n + 1 => (drew_n w n).drew
theorem str_is (s : ByteArray) (c : List UInt8) : (s.toList == c) = decide (s.data.toList = c) := by
  rw [ByteArray.toList_eq]
  by_cases h : s.data.toList = c
  · simp [h]
  · simp [h]
theorem str_yes {s : ByteArray} {c : List UInt8} (h : s.data.toList = c) : (s.toList == c) = true := by rw [str_is]; exact decide_eq_true h
theorem str_no {s : ByteArray} {c : List UInt8} (h : ¬ s.data.toList = c) : (s.toList == c) = false := by rw [str_is]; exact decide_eq_false h
set_option maxRecDepth 100000 in
set_option maxHeartbeats 1600000 in
theorem rknown_1 (s : ByteArray) (x : Ru) (w : World) (h : Hid (ruN s.data.toList = x)) :
    Calls Tryd.prog 25 #[.int .i64 1, .string s] w fun e w' => e = .returned (ruV x) ∧ Below w.heap.size w w' := by
  have hr := h.out
  clear h
  unfold ruN at hr
  by_cases clabel : s.data.toList = wLabel
  · rw [if_pos clabel] at hr
    have blabel : (s.toList == ([108, 97, 98, 101, 108] : List UInt8)) = true := str_yes clabel
    clear clabel
    subst hr
    go_enter Tryd.func25, Tryd.ntmps25
    go_wp2
    refine bodyPost_ret (v := ruV _) (by simp [results, Tryd.results25, go_sem, ruV]) rfl ⟨rfl, al1 ..⟩
  · rw [if_neg clabel] at hr
    by_cases cwidth : s.data.toList = wWidth
    · rw [if_pos cwidth] at hr
      have blabel : (s.toList == ([108, 97, 98, 101, 108] : List UInt8)) = false := str_no clabel
      have bwidth : (s.toList == ([119, 105, 100, 116, 104] : List UInt8)) = true := str_yes cwidth
      clear clabel cwidth
      subst hr
      go_enter Tryd.func25, Tryd.ntmps25
      go_wp2
      refine bodyPost_ret (v := ruV _) (by simp [results, Tryd.results25, go_sem, ruV]) rfl ⟨rfl, al1 ..⟩
    · rw [if_neg cwidth] at hr
      by_cases cheight : s.data.toList = wHeight
      · rw [if_pos cheight] at hr
        have blabel : (s.toList == ([108, 97, 98, 101, 108] : List UInt8)) = false := str_no clabel
        have bwidth : (s.toList == ([119, 105, 100, 116, 104] : List UInt8)) = false := str_no cwidth
        have bheight : (s.toList == ([104, 101, 105, 103, 104, 116] : List UInt8)) = true := str_yes cheight
        clear clabel cwidth cheight
        subst hr
        go_enter Tryd.func25, Tryd.ntmps25
        go_wp2
        refine bodyPost_ret (v := ruV _) (by simp [results, Tryd.results25, go_sem, ruV]) rfl ⟨rfl, al1 ..⟩
      · rw [if_neg cheight] at hr
        by_cases cports : s.data.toList = wPorts
        · rw [if_pos cports] at hr
          have blabel : (s.toList == ([108, 97, 98, 101, 108] : List UInt8)) = false := str_no clabel
          have bwidth : (s.toList == ([119, 105, 100, 116, 104] : List UInt8)) = false := str_no cwidth
          have bheight : (s.toList == ([104, 101, 105, 103, 104, 116] : List UInt8)) = false := str_no cheight
          have bports : (s.toList == ([112, 111, 114, 116, 115] : List UInt8)) = true := str_yes cports
          clear clabel cwidth cheight cports
          subst hr
          go_enter Tryd.func25, Tryd.ntmps25
          go_wp2
          refine bodyPost_ret (v := ruV _) (by simp [results, Tryd.results25, go_sem, ruV]) rfl ⟨rfl, al1 ..⟩
        · rw [if_neg cports] at hr
          have blabel : (s.toList == ([108, 97, 98, 101, 108] : List UInt8)) = false := str_no clabel
          have bwidth : (s.toList == ([119, 105, 100, 116, 104] : List UInt8)) = false := str_no cwidth
          have bheight : (s.toList == ([104, 101, 105, 103, 104, 116] : List UInt8)) = false := str_no cheight
          have bports : (s.toList == ([112, 111, 114, 116, 115] : List UInt8)) = false := str_no cports
          clear clabel cwidth cheight cports
          subst hr
          go_enter Tryd.func25, Tryd.ntmps25
          go_wp2
          refine bodyPost_ret (v := ruV _) (by simp [results, Tryd.results25, go_sem, ruV]) rfl ⟨rfl, al1 ..⟩
set_option maxRecDepth 100000 in
set_option maxHeartbeats 1600000 in
theorem rknown_2 (s : ByteArray) (x : Ru) (w : World) (h : Hid (ruE s.data.toList = x)) :
    Calls Tryd.prog 25 #[.int .i64 2, .string s] w fun e w' => e = .returned (ruV x) ∧ Below w.heap.size w w' := by
  have hr := h.out
  clear h
  unfold ruE at hr
  by_cases clabel : s.data.toList = wLabel
  · rw [if_pos clabel] at hr
    have blabel : (s.toList == ([108, 97, 98, 101, 108] : List UInt8)) = true := str_yes clabel
    clear clabel
    subst hr
    go_enter Tryd.func25, Tryd.ntmps25
    go_wp2
    refine bodyPost_ret (v := ruV _) (by simp [results, Tryd.results25, go_sem, ruV]) rfl ⟨rfl, al1 ..⟩
  · rw [if_neg clabel] at hr
    by_cases cweight : s.data.toList = wWeight
    · rw [if_pos cweight] at hr
      have blabel : (s.toList == ([108, 97, 98, 101, 108] : List UInt8)) = false := str_no clabel
      have bweight : (s.toList == ([119, 101, 105, 103, 104, 116] : List UInt8)) = true := str_yes cweight
      clear clabel cweight
      subst hr
      go_enter Tryd.func25, Tryd.ntmps25
      go_wp2
      refine bodyPost_ret (v := ruV _) (by simp [results, Tryd.results25, go_sem, ruV]) rfl ⟨rfl, al1 ..⟩
    · rw [if_neg cweight] at hr
      by_cases clen : s.data.toList = wLen
      · rw [if_pos clen] at hr
        have blabel : (s.toList == ([108, 97, 98, 101, 108] : List UInt8)) = false := str_no clabel
        have bweight : (s.toList == ([119, 101, 105, 103, 104, 116] : List UInt8)) = false := str_no cweight
        have blen : (s.toList == ([108, 101, 110] : List UInt8)) = true := str_yes clen
        clear clabel cweight clen
        subst hr
        go_enter Tryd.func25, Tryd.ntmps25
        go_wp2
        refine bodyPost_ret (v := ruV _) (by simp [results, Tryd.results25, go_sem, ruV]) rfl ⟨rfl, al1 ..⟩
      · rw [if_neg clen] at hr
        have blabel : (s.toList == ([108, 97, 98, 101, 108] : List UInt8)) = false := str_no clabel
        have bweight : (s.toList == ([119, 101, 105, 103, 104, 116] : List UInt8)) = false := str_no cweight
        have blen : (s.toList == ([108, 101, 110] : List UInt8)) = false := str_no clen
        clear clabel cweight clen
        subst hr
        go_enter Tryd.func25, Tryd.ntmps25
        go_wp2
        refine bodyPost_ret (v := ruV _) (by simp [results, Tryd.results25, go_sem, ruV]) rfl ⟨rfl, al1 ..⟩
set_option maxRecDepth 100000 in
set_option maxHeartbeats 1600000 in
theorem rknown_4 (s : ByteArray) (x : Ru) (w : World) (h : Hid (ruS s.data.toList = x)) :
    Calls Tryd.prog 25 #[.int .i64 4, .string s] w fun e w' => e = .returned (ruV x) ∧ Below w.heap.size w w' := by
  have hr := h.out
  clear h
  unfold ruS at hr
  by_cases cmode : s.data.toList = wMode
  · rw [if_pos cmode] at hr
    have bmode : (s.toList == ([109, 111, 100, 101] : List UInt8)) = true := str_yes cmode
    clear cmode
    subst hr
    go_enter Tryd.func25, Tryd.ntmps25
    go_wp2
    refine bodyPost_ret (v := ruV _) (by simp [results, Tryd.results25, go_sem, ruV]) rfl ⟨rfl, al1 ..⟩
  · rw [if_neg cmode] at hr
    by_cases cnodesep : s.data.toList = wNodesep
    · rw [if_pos cnodesep] at hr
      have bmode : (s.toList == ([109, 111, 100, 101] : List UInt8)) = false := str_no cmode
      have bnodesep : (s.toList == ([110, 111, 100, 101, 115, 101, 112] : List UInt8)) = true := str_yes cnodesep
      clear cmode cnodesep
      subst hr
      go_enter Tryd.func25, Tryd.ntmps25
      go_wp2
      refine bodyPost_ret (v := ruV _) (by simp [results, Tryd.results25, go_sem, ruV]) rfl ⟨rfl, al1 ..⟩
    · rw [if_neg cnodesep] at hr
      by_cases cranksep : s.data.toList = wRanksep
      · rw [if_pos cranksep] at hr
        have bmode : (s.toList == ([109, 111, 100, 101] : List UInt8)) = false := str_no cmode
        have bnodesep : (s.toList == ([110, 111, 100, 101, 115, 101, 112] : List UInt8)) = false := str_no cnodesep
        have branksep : (s.toList == ([114, 97, 110, 107, 115, 101, 112] : List UInt8)) = true := str_yes cranksep
        clear cmode cnodesep cranksep
        subst hr
        go_enter Tryd.func25, Tryd.ntmps25
        go_wp2
        refine bodyPost_ret (v := ruV _) (by simp [results, Tryd.results25, go_sem, ruV]) rfl ⟨rfl, al1 ..⟩
      · rw [if_neg cranksep] at hr
        by_cases cmargin : s.data.toList = wMargin
        · rw [if_pos cmargin] at hr
          have bmode : (s.toList == ([109, 111, 100, 101] : List UInt8)) = false := str_no cmode
          have bnodesep : (s.toList == ([110, 111, 100, 101, 115, 101, 112] : List UInt8)) = false := str_no cnodesep
          have branksep : (s.toList == ([114, 97, 110, 107, 115, 101, 112] : List UInt8)) = false := str_no cranksep
          have bmargin : (s.toList == ([109, 97, 114, 103, 105, 110] : List UInt8)) = true := str_yes cmargin
          clear cmode cnodesep cranksep cmargin
          subst hr
          go_enter Tryd.func25, Tryd.ntmps25
          go_wp2
          refine bodyPost_ret (v := ruV _) (by simp [results, Tryd.results25, go_sem, ruV]) rfl ⟨rfl, al1 ..⟩
        · rw [if_neg cmargin] at hr
          by_cases crounds : s.data.toList = wRounds
          · rw [if_pos crounds] at hr
            have bmode : (s.toList == ([109, 111, 100, 101] : List UInt8)) = false := str_no cmode
            have bnodesep : (s.toList == ([110, 111, 100, 101, 115, 101, 112] : List UInt8)) = false := str_no cnodesep
            have branksep : (s.toList == ([114, 97, 110, 107, 115, 101, 112] : List UInt8)) = false := str_no cranksep
            have bmargin : (s.toList == ([109, 97, 114, 103, 105, 110] : List UInt8)) = false := str_no cmargin
            have brounds : (s.toList == ([114, 111, 117, 110, 100, 115] : List UInt8)) = true := str_yes crounds
            clear cmode cnodesep cranksep cmargin crounds
            subst hr
            go_enter Tryd.func25, Tryd.ntmps25
            go_wp2
            refine bodyPost_ret (v := ruV _) (by simp [results, Tryd.results25, go_sem, ruV]) rfl ⟨rfl, al1 ..⟩
          · rw [if_neg crounds] at hr
            have bmode : (s.toList == ([109, 111, 100, 101] : List UInt8)) = false := str_no cmode
            have bnodesep : (s.toList == ([110, 111, 100, 101, 115, 101, 112] : List UInt8)) = false := str_no cnodesep
            have branksep : (s.toList == ([114, 97, 110, 107, 115, 101, 112] : List UInt8)) = false := str_no cranksep
            have bmargin : (s.toList == ([109, 97, 114, 103, 105, 110] : List UInt8)) = false := str_no cmargin
            have brounds : (s.toList == ([114, 111, 117, 110, 100, 115] : List UInt8)) = false := str_no crounds
            clear cmode cnodesep cranksep cmargin crounds
            subst hr
            go_enter Tryd.func25, Tryd.ntmps25
            go_wp2
            refine bodyPost_ret (v := ruV _) (by simp [results, Tryd.results25, go_sem, ruV]) rfl ⟨rfl, al1 ..⟩
set_option maxRecDepth 100000 in
theorem rknown_of (k : Int) (s : ByteArray) (x : Ru) (w : World) (h : Hid (knownL k s.data.toList = x)) :
    Calls Tryd.prog 25 #[.int .i64 k, .string s] w fun e w' => e = .returned (ruV x) ∧ Below w.heap.size w w' := by
  have hr := h.out
  unfold knownL at hr
  by_cases k1 : k = 1
  · subst k1; rw [if_pos rfl] at hr; exact rknown_1 s x w (Lib.hid hr)
  rw [if_neg k1] at hr
  by_cases k2 : k = 2
  · subst k2; rw [if_pos rfl] at hr; exact rknown_2 s x w (Lib.hid hr)
  rw [if_neg k2] at hr
  by_cases k4 : k = 4
  · subst k4; rw [if_pos rfl] at hr; exact rknown_4 s x w (Lib.hid hr)
  rw [if_neg k4] at hr
  have b1 : (k == 1) = false := by rw [beq_eq_false_iff_ne]; exact k1
  have b2 : (k == 2) = false := by rw [beq_eq_false_iff_ne]; exact k2
  have b4 : (k == 4) = false := by rw [beq_eq_false_iff_ne]; exact k4
  clear h
  subst hr
  go_enter Tryd.func25, Tryd.ntmps25
  go_wp2
  refine bodyPost_ret (v := ruV _) (by simp [results, Tryd.results25, go_sem, ruV]) rfl ⟨rfl, al1 ..⟩
end Go.Proofs.YthcglcnhdgeaeaaDoor.att
namespace Go.Proofs.YthcglcnhdgeaeaaDoor.att
open Go.RowKit lex tre

set_option maxRecDepth 100000 in
set_option maxHeartbeats 1600000 in
theorem rvalue_of (f lo hi no : Int) (s : ByteArray) (n : Int) (b : Bool) (w : World) (hs : s.size ≤ 20000) (h : Hid (valR ⟨f, lo, hi, no⟩ s.data.toList = (n, b))) :
    Calls Tryd.prog 29 #[.agg #[.int .i64 f, .int .i64 lo, .int .i64 hi, .int .i64 no], .string s] w fun e w' => e = .returned (.tuple #[.int .i64 n, .bool b]) ∧ Below w.heap.size w w' := by
  have hr := h.out
  clear h
  unfold valR at hr
  have hrg := prL_range s.data.toList
  obtain ⟨pn, pe, hpe⟩ : ∃ a c, prL s.data.toList = (a, c) := ⟨_, _, rfl⟩
  have HP : Hid (parseV s.data.toList = .tuple #[.int .i64 pn, .int .i64 pe]) := Lib.hid (by rw [parseV_pr, hpe])
  rw [hpe] at hr hrg
  simp only at hr hrg
  clear hpe
  by_cases h0 : pe = 0
  case neg =>
    rw [if_pos h0] at hr
    cases hr
    have b0 : (pe != 0) = true := by rw [bne_iff_ne]; exact h0
    clear hrg h0
    go_enter Tryd.func29, Tryd.ntmps29
    go_wp2_with fail
    refine (refParse_of _ _ _ hs HP).mono ?_
    rintro e w1 ⟨rfl, rfl⟩
    go_wp2
    go_ret2
    exact ⟨rfl, al1 ..⟩
  rw [if_neg (fun e => e h0)] at hr
  have hg := hrg h0
  subst h0
  clear hrg
  by_cases h3 : f = 3
  case neg =>
    rw [if_neg h3] at hr
    have e1 := (Prod.mk.inj hr).1
    have e2 := (Prod.mk.inj hr).2
    subst e1
    subst e2
    clear hr
    have b3 : (f == 3) = false := by rw [beq_eq_false_iff_ne]; exact h3
    obtain ⟨q1, hq1⟩ : ∃ q, decide (lo ≤ pn) = q := ⟨_, rfl⟩
    obtain ⟨q2, hq2⟩ : ∃ q, decide (pn ≤ hi) = q := ⟨_, rfl⟩
    rw [hq1, hq2]
    clear h3 hg
    cases q1
    · go_enter Tryd.func29, Tryd.ntmps29
      go_wp2_with fail
      refine (refParse_of _ _ _ hs HP).mono ?_
      rintro e w1 ⟨rfl, rfl⟩
      go_wp2
      go_quiet (fail)
      have hB := below_keep (drew_n (w.alloc (.cells #[.int .i64 f, .int .i64 lo, .int .i64 hi, .int .i64 no] 45)) nq) (al1 ..)
      generalize (w.alloc (.cells #[.int .i64 f, .int .i64 lo, .int .i64 hi, .int .i64 no] 45)).drewN nq = wn at hB ⊢
      go_wp2
      go_ret2
      exact ⟨rfl, hB⟩
    · go_enter Tryd.func29, Tryd.ntmps29
      go_wp2_with fail
      refine (refParse_of _ _ _ hs HP).mono ?_
      rintro e w1 ⟨rfl, rfl⟩
      go_wp2
      go_quiet (fail)
      have hB := below_keep (drew_n (w.alloc (.cells #[.int .i64 f, .int .i64 lo, .int .i64 hi, .int .i64 no] 45)) nq) (al1 ..)
      generalize (w.alloc (.cells #[.int .i64 f, .int .i64 lo, .int .i64 hi, .int .i64 no] 45)).drewN nq = wn at hB ⊢
      go_wp2
      go_ret2
      exact ⟨rfl, hB⟩
  rw [if_pos h3] at hr
  subst h3
  have m1 : (pn.tmod 1000).natAbs = pn.natAbs % 1000 := by rw [Int.natAbs_tmod]; rfl
  have m2 : (pn.tdiv 1000).natAbs = pn.natAbs / 1000 := by rw [Int.natAbs_tdiv]; rfl
  have t1 : IntKind.i64.wrap (pn.tmod 1000) = pn.tmod 1000 := IntWalk.i64_in _ (by omega)
  have t2 : IntKind.i64.wrap (pn.tdiv 1000) = pn.tdiv 1000 := IntWalk.i64_in _ (by omega)
  by_cases h4 : pn.tmod 1000 = 0
  case neg =>
    rw [if_pos h4] at hr
    cases hr
    have b4 : (pn.tmod 1000 != 0) = true := by rw [bne_iff_ne]; exact h4
    clear h4 hg m1 m2
    go_enter Tryd.func29, Tryd.ntmps29
    go_wp2_with fail
    refine (refParse_of _ _ _ hs HP).mono ?_
    rintro e w1 ⟨rfl, rfl⟩
    go_wp2
    go_ret2
    exact ⟨rfl, al1 ..⟩
  rw [if_neg (fun e => e h4)] at hr
  have e1 := (Prod.mk.inj hr).1
  have e2 := (Prod.mk.inj hr).2
  subst e1
  subst e2
  clear hr
  have b4 : (pn.tmod 1000 != 0) = false := by rw [h4]; rfl
  obtain ⟨q1, hq1⟩ : ∃ q, decide (lo ≤ pn.tdiv 1000) = q := ⟨_, rfl⟩
  obtain ⟨q2, hq2⟩ : ∃ q, decide (pn.tdiv 1000 ≤ hi) = q := ⟨_, rfl⟩
  rw [hq1, hq2]
  clear h4 hg m1 m2
  cases q1
  · go_enter Tryd.func29, Tryd.ntmps29
    go_wp2_with fail
    refine (refParse_of _ _ _ hs HP).mono ?_
    rintro e w1 ⟨rfl, rfl⟩
    go_wp2
    go_quiet (fail)
    have hB := below_keep (drew_n (w.alloc (.cells #[.int .i64 3, .int .i64 lo, .int .i64 hi, .int .i64 no] 45)) nq) (al1 ..)
    generalize (w.alloc (.cells #[.int .i64 3, .int .i64 lo, .int .i64 hi, .int .i64 no] 45)).drewN nq = wn at hB ⊢
    go_wp2
    go_ret2
    exact ⟨rfl, hB⟩
  · go_enter Tryd.func29, Tryd.ntmps29
    go_wp2_with fail
    refine (refParse_of _ _ _ hs HP).mono ?_
    rintro e w1 ⟨rfl, rfl⟩
    go_wp2
    go_quiet (fail)
    have hB := below_keep (drew_n (w.alloc (.cells #[.int .i64 3, .int .i64 lo, .int .i64 hi, .int .i64 no] 45)) nq) (al1 ..)
    generalize (w.alloc (.cells #[.int .i64 3, .int .i64 lo, .int .i64 hi, .int .i64 no] 45)).drewN nq = wn at hB ⊢
    go_wp2
    go_ret2
    exact ⟨rfl, hB⟩
end Go.Proofs.YthcglcnhdgeaeaaDoor.att
