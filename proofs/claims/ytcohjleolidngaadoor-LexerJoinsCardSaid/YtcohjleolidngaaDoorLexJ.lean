/-
  What write and Join of the lexer return. Conditions: few tokens with short texts and ints as numbers; the table of powers of ten holds what the library lays.
-/
import Derived.Test.YtcohjleolidngaaDoorLexI
import Derived.Test.YtcohjleolidngaaDoorLexOk
import Derived.Test.YtcohjleolidngaaDoorLexC
import Derived.Test.YtcohjleolidngaaDoorFormat
import Derived.Lib.QuietBelow
import Derived.Lib.AppendStr
namespace Go.Proofs.YtcohjleolidngaaDoor
open Go.RowKit Go.Sort lex

/-- What write leaves: a text and whether the token is valid; the text is right if it is. -/
def WrtOut (t : Tok) (v : Bool) (w : World) (e : Ending) (w' : World) : Prop := (∃ q, e = .returned (.tuple #[.string q, .bool v]) ∧ (v = true → q = ba (wrt fmtL t))) ∧ Below w.heap.size w w'
theorem mark_self (l : List UInt8) : (!l.isEmpty && (markL l == l)) = isMk l := by
  rw [Bool.eq_iff_iff]
  constructor
  · intro h
    simp only [Bool.and_eq_true, Bool.not_eq_true', beq_iff_eq] at h
    obtain ⟨h1, h2⟩ := h
    unfold markL at h2
    by_cases c : 1 < l.length ∧ isMk (l.take 2) = true
    · rw [if_pos c] at h2; rw [← h2]; exact c.2
    · rw [if_neg c] at h2
      by_cases d : isMk (l.take 1) = true
      · rw [if_pos d] at h2; rw [← h2]; exact d
      · rw [if_neg d] at h2; rw [← h2] at h1; cases h1
  · intro h
    obtain ⟨k, hk, e⟩ : ∃ k, k < 10 ∧ mkAt k = l := by
      unfold isMk at h
      rw [List.contains_iff_mem] at h
      obtain ⟨k, hk, e⟩ := List.mem_iff_getElem.1 h
      exact ⟨k, hk, by unfold mkAt; rw [List.getD_eq_getElem?_getD, List.getElem?_eq_getElem hk, e]; rfl⟩
    have hp : Lib.hasPrefix l (mkAt k) = true := by rw [e]; unfold Lib.hasPrefix; exact List.isPrefixOf_iff_prefix.2 (List.prefix_refl l)
    have hm := mark_pre l k hk hp
    have hne : l.isEmpty = false := by
      have := (mk_none h).2.2.2
      cases l with
      | nil => simp at this
      | cons a t => rfl
    rw [hm, e, hne]
    simp
set_option maxHeartbeats 4000000 in
theorem write_of (kind num line : Int) (text : List UInt8) (v : Bool) (w : World) (htab : Hid (Tab w)) (hs : text.length ≤ 200) (hn : Hid (numR ⟨kind, text, num, line⟩)) (hv : Hid (valB ⟨kind, text, num, line⟩ = v)) :
    Calls Tryd.prog 11 #[.agg #[.int .i64 kind, .string (ba text), .int .i64 num, .int .i64 line]] w (WrtOut ⟨kind, text, num, line⟩ v w) := by
  have hmx : Tryd.prog.follows .mixedOrders = true := by kernel_rfl
  obtain ⟨X, hX⟩ : ∃ X, ba text = X := ⟨_, rfl⟩
  have hXd : X.data.toList = text := by rw [← hX]
  have hXz : X.size = text.length := by rw [← hX]; exact ba_size text
  have hXm : X.size ≤ maxLen := by unfold maxLen; omega
  have HX := Lib.hid hX
  rw [hX]
  have hr := hv.out
  unfold valB at hr
  simp only at hr
  clear hX
  have cells : owT (w.alloc (.cells #[.int .i64 kind, .string X, .int .i64 num, .int .i64 line] 31)) w.heap.size kind X num line := owT_new ..
  by_cases k1 : kind = 1
  · subst k1
    rw [if_pos rfl] at hr
    obtain ⟨a, ha⟩ : ∃ a, isNm text = a := ⟨_, rfl⟩
    obtain ⟨b, hb⟩ : ∃ b, (num == 0) = b := ⟨_, rfl⟩
    rw [ha, ← beq_dec, hb] at hr
    have HW : Hid (X = ba (wrt fmtL ⟨1, text, num, line⟩)) := Lib.hid (HX.out.symm)
    have HA : Hid (isNm X.data.toList = a) := Lib.hid (by rw [hXd]; exact ha)
    have HM := Lib.hid hXm
    go_enter Tryd.func11, Tryd.ntmps11
    go_wp2_with fail
    have hB := al1 w (.cells #[.int .i64 1, .string X, .int .i64 num, .int .i64 line] 31)
    have T0 : Hid (Tab (w.alloc (.cells #[.int .i64 1, .string X, .int .i64 num, .int .i64 line] 31))) := Lib.hid (tab_below htab.out hB)
    generalize w.alloc (.cells #[.int .i64 1, .string X, .int .i64 num, .int .i64 line] 31) = w0 at *
    obtain ⟨c0, c1, c2, c3, -, -, -, -⟩ := cells
    have t0 := fun d os => cell_regrown c0 d os
    have t1 := fun d os => cell_regrown c1 d os
    have t2 := fun d os => cell_regrown c2 d os
    have t3 := fun d os => cell_regrown c3 d os
    have cN := fun dd os => Calls.regrown_of (w := w0) (d := dd) (os := os) (isname_of X a _ HM.out HA)
    clear c0 c1 c2 c3 ha hXd hXz hXm hs
    cases a
    · subst hr
      refine wp_region_quiet_below hmx (by kernel_rfl) ?_
      repeat (go_big_quiet_step (with_reducible exact cN _ _))
      refine wpQuiet_nil ?_
      intro _ hw'
      obtain ⟨⟨dq, osq⟩, hw''⟩ := hw'
      subst hw''
      go_wp2
      go_ret2
      exact ⟨⟨_, rfl, fun _ => HW.out⟩, below_keep (below_regrown w0 dq osq) hB⟩
    · subst hr
      refine wp_region_quiet_below hmx (by kernel_rfl) ?_
      repeat (go_big_quiet_step (with_reducible exact cN _ _))
      refine wpQuiet_nil ?_
      intro _ hw'
      obtain ⟨⟨dq, osq⟩, hw''⟩ := hw'
      subst hw''
      go_wp2
      go_ret2
      exact ⟨⟨_, rfl, fun _ => HW.out⟩, below_keep (below_regrown w0 dq osq) hB⟩
  by_cases k2 : kind = 2
  · subst k2
    rw [if_neg (by decide), if_pos rfl] at hr
    obtain ⟨a, ha⟩ : ∃ a, isKw text = a := ⟨_, rfl⟩
    obtain ⟨b, hb⟩ : ∃ b, (num == 0) = b := ⟨_, rfl⟩
    rw [ha, ← beq_dec, hb] at hr
    have HW : Hid (X = ba (wrt fmtL ⟨2, text, num, line⟩)) := Lib.hid (HX.out.symm)
    have HA : Hid (isKw X.data.toList = a) := Lib.hid (by rw [hXd]; exact ha)
    go_enter Tryd.func11, Tryd.ntmps11
    go_wp2_with fail
    have hB := al1 w (.cells #[.int .i64 2, .string X, .int .i64 num, .int .i64 line] 31)
    have T0 : Hid (Tab (w.alloc (.cells #[.int .i64 2, .string X, .int .i64 num, .int .i64 line] 31))) := Lib.hid (tab_below htab.out hB)
    generalize w.alloc (.cells #[.int .i64 2, .string X, .int .i64 num, .int .i64 line] 31) = w0 at *
    obtain ⟨c0, c1, c2, c3, -, -, -, -⟩ := cells
    have t0 := fun d os => cell_regrown c0 d os
    have t1 := fun d os => cell_regrown c1 d os
    have t2 := fun d os => cell_regrown c2 d os
    have t3 := fun d os => cell_regrown c3 d os
    have cN := fun dd os => Calls.regrown_of (w := w0) (d := dd) (os := os) ((iskw_of X a _ HA).mono fun _ _ h => ⟨h.1, by rw [← h.2]; exact RowKit.Below.refl _ _⟩)
    clear c0 c1 c2 c3 ha hXd hXz hXm hs
    cases a
    · subst hr
      refine wp_region_quiet_below hmx (by kernel_rfl) ?_
      repeat (go_big_quiet_step (with_reducible exact cN _ _))
      refine wpQuiet_nil ?_
      intro _ hw'
      obtain ⟨⟨dq, osq⟩, hw''⟩ := hw'
      subst hw''
      go_wp2
      go_ret2
      exact ⟨⟨_, rfl, fun _ => HW.out⟩, below_keep (below_regrown w0 dq osq) hB⟩
    · subst hr
      refine wp_region_quiet_below hmx (by kernel_rfl) ?_
      repeat (go_big_quiet_step (with_reducible exact cN _ _))
      refine wpQuiet_nil ?_
      intro _ hw'
      obtain ⟨⟨dq, osq⟩, hw''⟩ := hw'
      subst hw''
      go_wp2
      go_ret2
      exact ⟨⟨_, rfl, fun _ => HW.out⟩, below_keep (below_regrown w0 dq osq) hB⟩
  by_cases k3 : kind = 3
  · subst k3
    rw [if_neg (by decide), if_neg (by decide), if_pos rfl] at hr
    obtain ⟨F, hF⟩ : ∃ F : ByteArray, (⟨(fmtL num).toArray⟩ : ByteArray) = F := ⟨_, rfl⟩
    have HW : Hid (F = ba (wrt fmtL ⟨3, text, num, line⟩)) := Lib.hid (by rw [← hF]; rfl)
    have hemp : (X.toList == []) = text.isEmpty := by rw [ByteArray.toList_eq, hXd]; cases text <;> rfl
    have HF : Hid (∀ w, Tab w → Calls Tryd.prog 18 #[.int .i64 num] w fun e w' => e = .returned (.string F) ∧ RowKit.Below w.heap.size w w') := Lib.hid (fun w ht => by
      rw [← hF]; exact format_any num w hn.out.1 hn.out.2 ht)
    go_enter Tryd.func11, Tryd.ntmps11
    go_wp2_with fail
    have hB := al1 w (.cells #[.int .i64 3, .string X, .int .i64 num, .int .i64 line] 31)
    have T0 : Hid (Tab (w.alloc (.cells #[.int .i64 3, .string X, .int .i64 num, .int .i64 line] 31))) := Lib.hid (tab_below htab.out hB)
    generalize w.alloc (.cells #[.int .i64 3, .string X, .int .i64 num, .int .i64 line] 31) = w0 at *
    obtain ⟨c0, c1, c2, c3, -, -, -, -⟩ := cells
    have t0 := fun d os => cell_regrown c0 d os
    have t1 := fun d os => cell_regrown c1 d os
    have t2 := fun d os => cell_regrown c2 d os
    have t3 := fun d os => cell_regrown c3 d os
    have cN := fun dd os => Calls.regrown_of (w := w0) (d := dd) (os := os) (HF.out _ (tab_below T0.out (below_regrown w0 dd os)))
    clear c0 c1 c2 c3 hXd hXz hXm hs hF
    cases htx : text.isEmpty
    · rw [htx] at hemp hr
      subst hr
      refine wp_region_quiet_below hmx (by kernel_rfl) ?_
      repeat (go_big_quiet_step (with_reducible exact cN _ _))
      refine wpQuiet_nil ?_
      intro _ hw'
      obtain ⟨⟨dq, osq⟩, hw''⟩ := hw'
      subst hw''
      go_wp2
      go_ret2
      exact ⟨⟨_, rfl, fun _ => HW.out⟩, below_keep (below_regrown w0 dq osq) hB⟩
    · rw [htx] at hemp hr
      by_cases l1 : -268435456 ≤ num
      · have d1 : decide (-268435456 ≤ num) = true := decide_eq_true l1
        by_cases l2 : num ≤ 268435456
        · have d2 : decide (num ≤ 268435456) = true := decide_eq_true l2
          rw [d1, d2] at hr
          subst hr
          refine wp_region_quiet_below hmx (by kernel_rfl) ?_
          repeat (go_big_quiet_step (with_reducible exact cN _ _))
          refine wpQuiet_nil ?_
          intro _ hw'
          obtain ⟨⟨dq, osq⟩, hw''⟩ := hw'
          subst hw''
          go_wp2
          go_ret2
          exact ⟨⟨_, rfl, fun _ => HW.out⟩, below_keep (below_regrown w0 dq osq) hB⟩
        · have d2 : decide (num ≤ 268435456) = false := decide_eq_false l2
          rw [d1, d2] at hr
          subst hr
          refine wp_region_quiet_below hmx (by kernel_rfl) ?_
          repeat (go_big_quiet_step (with_reducible exact cN _ _))
          refine wpQuiet_nil ?_
          intro _ hw'
          obtain ⟨⟨dq, osq⟩, hw''⟩ := hw'
          subst hw''
          go_wp2
          go_ret2
          exact ⟨⟨_, rfl, fun _ => HW.out⟩, below_keep (below_regrown w0 dq osq) hB⟩
      · have d1 : decide (-268435456 ≤ num) = false := decide_eq_false l1
        rw [d1] at hr
        subst hr
        refine wp_region_quiet_below hmx (by kernel_rfl) ?_
        repeat (go_big_quiet_step (with_reducible exact cN _ _))
        refine wpQuiet_nil ?_
        intro _ hw'
        obtain ⟨⟨dq, osq⟩, hw''⟩ := hw'
        subst hw''
        go_wp2
        go_ret2
        exact ⟨⟨_, rfl, fun _ => HW.out⟩, below_keep (below_regrown w0 dq osq) hB⟩
  by_cases k4 : kind = 4
  · subst k4
    rw [if_neg (by decide), if_neg (by decide), if_neg (by decide), if_pos rfl] at hr
    obtain ⟨b, hb⟩ : ∃ b, (num == 0) = b := ⟨_, rfl⟩
    rw [← beq_dec, hb] at hr
    obtain ⟨q, e0, hq⟩ : ∃ q e0, quoE text = (q, e0) := ⟨_, _, rfl⟩
    have HQ : Hid (quoE X.data.toList = (q, e0)) := Lib.hid (by rw [hXd]; exact hq)
    have hqe : (e0 == 0) = (decide (text.length ≤ 32) && text.all isPl) ∧ ((e0 == 0) = true → q = quoL text) := by
      unfold quoE at hq
      by_cases h32 : 32 < text.length
      · rw [if_pos h32] at hq
        obtain ⟨rfl, rfl⟩ := Prod.mk.inj hq
        exact ⟨by rw [decide_eq_false (by omega)]; rfl, fun h => by cases h⟩
      · rw [if_neg h32] at hq
        rw [decide_eq_true (by omega)]
        cases hp : text.all isPl
        · rw [hp, if_neg (by decide)] at hq
          obtain ⟨rfl, rfl⟩ := Prod.mk.inj hq
          exact ⟨rfl, fun h => by cases h⟩
        · rw [hp, if_pos rfl] at hq
          obtain ⟨rfl, rfl⟩ := Prod.mk.inj hq
          exact ⟨rfl, fun _ => rfl⟩
    obtain ⟨a, ha⟩ : ∃ a, (e0 == 0) = a := ⟨_, rfl⟩
    rw [← hqe.1, ha] at hr
    have HW : Hid (a = true → ba q = ba (wrt fmtL ⟨4, text, num, line⟩)) := Lib.hid (fun h => by rw [hqe.2 (by rw [ha]; exact h)]; rfl)
    have HM := Lib.hid hXm
    clear hqe hq
    go_enter Tryd.func11, Tryd.ntmps11
    go_wp2_with fail
    have hB := al1 w (.cells #[.int .i64 4, .string X, .int .i64 num, .int .i64 line] 31)
    have T0 : Hid (Tab (w.alloc (.cells #[.int .i64 4, .string X, .int .i64 num, .int .i64 line] 31))) := Lib.hid (tab_below htab.out hB)
    generalize w.alloc (.cells #[.int .i64 4, .string X, .int .i64 num, .int .i64 line] 31) = w0 at *
    obtain ⟨c0, c1, c2, c3, -, -, -, -⟩ := cells
    have t0 := fun d os => cell_regrown c0 d os
    have t1 := fun d os => cell_regrown c1 d os
    have t2 := fun d os => cell_regrown c2 d os
    have t3 := fun d os => cell_regrown c3 d os
    clear c0 t0 t3 c3 hXd hXz hXm hs
    refine (quote_any X q e0 _ HM.out HQ).mono ?_
    rintro e w1 ⟨rfl, hb1⟩
    have hB1 := below_keep hb1 hB
    have c1 := cell_keep hb1 c1
    have c2 := cell_keep hb1 c2
    have t1 := fun d os => cell_regrown c1 d os
    have t2 := fun d os => cell_regrown c2 d os
    clear c1 c2 hb1 hB
    go_wp2_with fail
    cases a
    · subst hr
      refine wp_region_quiet_below hmx (by kernel_rfl) ?_
      repeat (go_big_quiet_step (fail))
      refine wpQuiet_nil ?_
      intro _ hw'
      obtain ⟨⟨dq, osq⟩, hw''⟩ := hw'
      subst hw''
      go_wp2
      go_ret2
      exact ⟨⟨_, rfl, fun h => by cases h⟩, below_keep (below_regrown w1 dq osq) hB1⟩
    · subst hr
      have HW1 := Lib.hid (HW.out rfl)
      clear HW
      refine wp_region_quiet_below hmx (by kernel_rfl) ?_
      repeat (go_big_quiet_step (fail))
      refine wpQuiet_nil ?_
      intro _ hw'
      obtain ⟨⟨dq, osq⟩, hw''⟩ := hw'
      subst hw''
      go_wp2
      go_ret2
      exact ⟨⟨_, rfl, fun _ => HW1.out⟩, below_keep (below_regrown w1 dq osq) hB1⟩
  by_cases k5 : kind = 5
  · subst k5
    rw [if_neg (by decide), if_neg (by decide), if_neg (by decide), if_neg (by decide), if_pos rfl] at hr
    obtain ⟨b, hb⟩ : ∃ b, (num == 0) = b := ⟨_, rfl⟩
    obtain ⟨m, hm⟩ : ∃ m, markL text = m := ⟨_, rfl⟩
    rw [← beq_dec, hb, ← mark_self, hm] at hr
    have HW : Hid (X = ba (wrt fmtL ⟨5, text, num, line⟩)) := Lib.hid (HX.out.symm)
    have HA : Hid (markL X.data.toList = m) := Lib.hid (by rw [hXd]; exact hm)
    obtain ⟨M, hM⟩ : ∃ M, ba m = M := ⟨_, rfl⟩
    have hemp : X.toList.isEmpty = text.isEmpty := by rw [ByteArray.toList_eq, hXd]
    have hsame : (M.toList == X.toList) = (m == text) := by rw [ByteArray.toList_eq, ByteArray.toList_eq, hXd, ← hM, ba_list]
    have HC : Hid (∀ w, Calls Tryd.prog 20 #[.string X] w fun e w' => e = .returned (.string M) ∧ RowKit.Below w.heap.size w w') := Lib.hid (fun w => by
      rw [← hM]; exact (leadingMark_of X m w HA).mono fun _ _ h => ⟨h.1, by rw [← h.2]; exact RowKit.Below.refl _ _⟩)
    go_enter Tryd.func11, Tryd.ntmps11
    go_wp2_with fail
    have hB := al1 w (.cells #[.int .i64 5, .string X, .int .i64 num, .int .i64 line] 31)
    have T0 : Hid (Tab (w.alloc (.cells #[.int .i64 5, .string X, .int .i64 num, .int .i64 line] 31))) := Lib.hid (tab_below htab.out hB)
    generalize w.alloc (.cells #[.int .i64 5, .string X, .int .i64 num, .int .i64 line] 31) = w0 at *
    obtain ⟨c0, c1, c2, c3, -, -, -, -⟩ := cells
    have t0 := fun d os => cell_regrown c0 d os
    have t1 := fun d os => cell_regrown c1 d os
    have t2 := fun d os => cell_regrown c2 d os
    have t3 := fun d os => cell_regrown c3 d os
    have cN := fun dd os => Calls.regrown_of (w := w0) (d := dd) (os := os) (HC.out (grow (redrawn w0 dd) os))
    clear c0 c1 c2 c3 hXd hXz hXm hs hM hm
    cases htx : text.isEmpty
    · rw [htx] at hemp hr
      obtain ⟨a, ha⟩ : ∃ a, (m == text) = a := ⟨_, rfl⟩
      rw [ha] at hsame hr
      cases a
      · subst hr
        refine wp_region_quiet_below hmx (by kernel_rfl) ?_
        repeat (go_big_quiet_step (with_reducible exact cN _ _))
        refine wpQuiet_nil ?_
        intro _ hw'
        obtain ⟨⟨dq, osq⟩, hw''⟩ := hw'
        subst hw''
        go_wp2
        go_ret2
        exact ⟨⟨_, rfl, fun _ => HW.out⟩, below_keep (below_regrown w0 dq osq) hB⟩
      · subst hr
        refine wp_region_quiet_below hmx (by kernel_rfl) ?_
        repeat (go_big_quiet_step (with_reducible exact cN _ _))
        refine wpQuiet_nil ?_
        intro _ hw'
        obtain ⟨⟨dq, osq⟩, hw''⟩ := hw'
        subst hw''
        go_wp2
        go_ret2
        exact ⟨⟨_, rfl, fun _ => HW.out⟩, below_keep (below_regrown w0 dq osq) hB⟩
    · rw [htx] at hemp hr
      subst hr
      refine wp_region_quiet_below hmx (by kernel_rfl) ?_
      repeat (go_big_quiet_step (with_reducible exact cN _ _))
      refine wpQuiet_nil ?_
      intro _ hw'
      obtain ⟨⟨dq, osq⟩, hw''⟩ := hw'
      subst hw''
      go_wp2
      go_ret2
      exact ⟨⟨_, rfl, fun _ => HW.out⟩, below_keep (below_regrown w0 dq osq) hB⟩
  · rw [if_neg k1, if_neg k2, if_neg k3, if_neg k4, if_neg k5] at hr
    subst hr
    have e1 : (kind == 1) = false := by rw [beq_eq_false_iff_ne]; exact k1
    have e2 : (kind == 2) = false := by rw [beq_eq_false_iff_ne]; exact k2
    have e3 : (kind == 3) = false := by rw [beq_eq_false_iff_ne]; exact k3
    have e4 : (kind == 4) = false := by rw [beq_eq_false_iff_ne]; exact k4
    have e5 : (kind == 5) = false := by rw [beq_eq_false_iff_ne]; exact k5
    clear k1 k2 k3 k4 k5 cells hXd hXz hXm hs
    go_enter Tryd.func11, Tryd.ntmps11
    go_wp2
    go_ret2
    exact ⟨⟨_, rfl, fun h => by cases h⟩, al1 ..⟩
/-- A string's bytes behind a row. -/
theorem app_str {w : World} {ops : Array Oper} {rest : List Oper} {o : Oper} {a : Act} {Q : Exit → Act → World → Prop} (hg : o.guard = none) (x y : Operand) (ho : o.op = .call { callee := .builtin .append, args := #[x, y], argTypes := #[33, 9] })
    (B : Nat) (v : Value) (l : List UInt8) (s : ByteArray) (hs : a.eval x = v) (hx : a.eval y = .string s) (h : Hid (Byt w B v l)) (hl : l.length ≤ 1000000) (hz : s.size ≤ 1000000) (hB : B ≤ w.heap.size)
    (hK : ∀ v' w', Byt w' B v' (l ++ s.data.toList) → w.grownBy w' v.ownBlock → wpList Tryd.prog ops Q rest (a.put o.dst v') w') : wpList Tryd.prog ops Q (o :: rest) a w := by
  obtain ⟨i0, hi, hz0, hz1, hz2⟩ := info_byte
  refine Lib.wpList_append_own_string w hg x y 33 9 ho B 5 i0 Tryd.underlying33 Tryd.underlying9 hi hz0 hz1 hz2 v l.length _ hs h.out s hx (by unfold maxLen; omega) (by omega) hB ?_
  intro v' w' hown hgrow _
  refine hK v' w' ?_ hgrow
  have e : Lib.byteCells (l ++ s.data.toList) = Lib.byteCells l ++ Lib.strCells s := by unfold Lib.byteCells; rw [List.map_append]; rfl
  unfold Byt
  rw [e, List.length_append, size_list]
  exact hown
set_option maxRecDepth 100000 in
set_option maxHeartbeats 8000000 in
theorem join_some (A : Addr) (cap : Nat) (l : List Tok) (q0 : List UInt8) (e0 : Int) (w : World) (htab : Hid (Tab w)) (h0 : 0 < l.length) (hl : l.length ≤ 200) (ht : Hid (∀ t ∈ l, t.text.length ≤ 200)) (hn : Hid (∀ t ∈ l, numR t)) (hT : Hid (Tl w (.slice (some A) l.length cap) l)) (hj : Hid (joinE l = (q0, e0))) :
    Calls Tryd.prog 7 #[.slice (some A) l.length cap] w fun e w' => e = .returned (.tuple #[.string (ba q0), .int .i64 e0]) ∧ RowKit.Below w.heap.size w w' := by
  go_enter Tryd.func7, Tryd.ntmps7
  go_wp2_with fail
  go_loopw [4, 11] (fun out i wr => ∃ (k : Nat) (o : List UInt8) (ao : Option Addr) (oc : Nat), k ≤ l.length ∧ i = .int .i64 k ∧ out = .slice ao o.length oc ∧ (l.take k).all valB = true ∧ o.length ≤ 20000 ∧
    (o = joinL fmtL (l.take k) ∨ (16384 < o.length ∧ 16384 < (joinL fmtL l).length)) ∧ Byt wr w.heap.size (.slice ao o.length oc) o ∧ RowKit.Below w.heap.size w wr) (fun _ i _ => l.length - (intOf i).toNat)
  case atStart => exact ⟨0, [], none, 0, Nat.zero_le _, rfl, rfl, rfl, Nat.zero_le _, Or.inl rfl, Byt.nil _ _, Below.refl _ _⟩
  case round =>
    obtain ⟨k, o, ao, oc, hk, rfl, rfl, hall, hol, hjn, hby, hB⟩ := hrel
    rename World => wr
    have HALL := Lib.hid hall
    have HJN := Lib.hid hjn
    have HBY := Lib.hid hby
    clear hall hjn hby
    by_cases hlt : k < l.length
    · obtain ⟨A', eA, _, a0, a1, a2, a3⟩ := (hT.out.keep hB).at' hlt
      obtain rfl : A = A' := Option.some.inj eA
      have hx := ht.out _ (tokAt_mem hlt)
      have hnr := hn.out _ (tokAt_mem hlt)
      obtain ⟨v, hv⟩ : ∃ v, valB (tokAt l k) = v := ⟨_, rfl⟩
      have HV := Lib.hid hv
      have HT0 : Hid (valB (tokAt l k) = v) := HV
      clear hv eA
      have z0 : (0 : Int) ≤ (k : Int) := by omega
      have z1 : (k : Int) < (l.length : Int) := by omega
      obtain ⟨t, hte⟩ : ∃ t, tokAt l k = t := ⟨_, rfl⟩
      rw [hte] at a0 a1 a2 a3 hx HV hnr
      have HTE := Lib.hid hte
      clear hte
      obtain ⟨kd, tx, nm, ln⟩ := t
      simp only at a0 a1 a2 a3 hx
      have HNR := Lib.hid hnr
      have HX := Lib.hid hx
      clear hnr hx
      have T1 := Lib.hid (tab_below (tab_below htab.out hB) (al1 wr (.cells #[.int .i64 kd, .string (ba tx), .int .i64 nm, .int .i64 ln] 31)))
      have hB1 := below_keep (al1 wr (.cells #[.int .i64 kd, .string (ba tx), .int .i64 nm, .int .i64 ln] 31)) hB
      have HBY1 := Lib.hid (HBY.out.later (al1 wr (.cells #[.int .i64 kd, .string (ba tx), .int .i64 nm, .int .i64 ln] 31)))
      clear hB
      cases v
      · obtain ⟨rfl, rfl⟩ : q0 = [] ∧ e0 = 1 := by
          have := hj.out
          unfold joinE at this
          rw [if_pos (all_no hlt HT0.out)] at this
          simp only [Prod.mk.injEq] at this
          exact ⟨this.1.symm, this.2.symm⟩
        go_wp2_with (go_at_call 11; refine (write_of _ _ _ _ _ _ T1 HX.out HNR HV).mono ?_; rintro e w1 ⟨⟨q, rfl, hq⟩, hb1⟩)
        go_ret2
        exact ⟨rfl, below_keep hb1 hB1⟩
      · have hw := wrt_len _ HX.out HV.out
        have HW := Lib.hid hw
        clear hw
        have HA1 := Lib.hid (all_take hlt HALL.out HT0.out)
        by_cases hbig : 16384 < o.length
        · have hbi : (16384 : Int) < (o.length : Int) := by omega
          have HN : Hid (16384 < o.length ∧ 16384 < (joinL fmtL l).length) := Lib.hid (by
            rcases HJN.out with e | e
            · have := joinL_take fmtL l k; rw [← e] at this; exact ⟨hbig, by omega⟩
            · exact e)
          clear hbig
          go_wp2_with (go_at_call 11; refine (write_of _ _ _ _ _ _ T1 HX.out HNR HV).mono ?_; rintro e w1 ⟨⟨q, rfl, hq⟩, hb1⟩)
          go_roundw
          case rel => exact ⟨k + 1, o, ao, oc, by omega, by go_num, rfl, HA1.out, hol, Or.inr HN.out, HBY1.out.later hb1, below_keep hb1 hB1⟩
          case measure => simp [intOf]; omega
        · have hbi : ¬ (16384 : Int) < (o.length : Int) := by omega
          have ho : o = joinL fmtL (l.take k) := by
            rcases HJN.out with e | e
            · exact e
            · exact absurd e.1 hbig
          have HO := Lib.hid ho
          clear ho
          go_wp2_with fail
          refine (write_of _ _ _ _ _ _ T1 HX.out HNR HV).mono ?_
          rintro e w1 ⟨⟨q, rfl, hq⟩, hb1⟩
          have hq' := hq rfl
          have hql : q.data.toList = wrt fmtL ⟨kd, tx, nm, ln⟩ := by rw [hq', ba_list]
          have hqs : q.size ≤ 500 := by rw [← size_list, hql]; exact HW.out
          have HQL := Lib.hid hql
          have HBY2 := Lib.hid (HBY1.out.later hb1)
          have hB2 := below_keep hb1 hB1
          have hsw := hB2.size
          clear hq hq' hql hb1
          by_cases hk0 : k = 0
          · have HN : Hid (o ++ q.data.toList = joinL fmtL (l.take (k + 1))) := Lib.hid (by
              rw [take_tok hlt, joinL_snoc, HTE.out, if_pos (by rw [hk0]; rfl), HO.out, HQL.out, hk0]; rfl)
            have hki : ¬ (0 : Int) < (k : Int) := by omega
            have hd0 : decide ((0 : Int) < (k : Int)) = false := by simp; omega
            have hd1 : decide (0 < k) = false := by simp; omega
            clear hk0
            go_wp2_with (at_builtin; refine app_str rfl (.tmp 31) (.tmp 32) rfl w.heap.size _ o q rfl rfl HBY2 (by omega) (by omega) hsw ?_; intro v3 w3 hby3 hgrow3; have hB3 := hB2.grown hgrow3 hsw (fun g hg => (World.ownsRow.lt HBY2.out g hg).1); have hlen3 : (o ++ q.data.toList).length ≤ 20000 := (by rw [List.length_append, size_list]; omega); have HLEN := Lib.hid hlen3; obtain ⟨a3, c3, rfl, _, _⟩ := hby3.len; have HBY3 := Lib.hid hby3; clear hby3 hgrow3 hlen3)
            go_roundw
            case rel => exact ⟨k + 1, o ++ q.data.toList, a3, c3, by omega, by go_num, congrArg (fun n => Value.slice a3 n c3) (by rw [List.length_append, size_list]), HA1.out, HLEN.out, Or.inl HN.out, HBY3.out, hB3⟩
            case measure => simp [intOf]; omega
          · have hkp : 0 < k := by omega
            have HN : Hid (o ++ [32] ++ q.data.toList = joinL fmtL (l.take (k + 1))) := Lib.hid (by
              rw [take_tok hlt, joinL_snoc, HTE.out, if_neg (take_ne hkp h0), HO.out, HQL.out]; simp)
            have hki : (0 : Int) < (k : Int) := by omega
            have hd0 : decide ((0 : Int) < (k : Int)) = true := by simp; omega
            have hd1 : decide (0 < k) = true := by simp; omega
            clear hk0
            go_wp2_with (first | (at_builtin; refine app_byte rfl (.tmp 28) (.tmp 29) rfl w.heap.size _ o 32 _ rfl rfl HBY2 (Lib.hid rfl) (by omega) hsw ?_; intro v3 w3 hby3 hgrow3; have hB3 := hB2.grown hgrow3 hsw (fun g hg => (World.ownsRow.lt HBY2.out g hg).1); have hs3 := hB3.size; have HBY3 := Lib.hid hby3; clear hby3 hgrow3) | (at_builtin; refine app_str rfl (.tmp 31) (.tmp 32) rfl w.heap.size _ (o ++ [32]) q rfl rfl HBY3 (by simp; omega) (by omega) hs3 ?_; intro v4 w4 hby4 hgrow4; have hB4 := hB3.grown hgrow4 hs3 (fun g hg => (World.ownsRow.lt HBY3.out g hg).1); have hlen4 : (o ++ [32] ++ q.data.toList).length ≤ 20000 := (by rw [List.length_append, List.length_append, size_list]; simp; omega); have HLEN := Lib.hid hlen4; obtain ⟨a4, c4, rfl, _, _⟩ := hby4.len; have HBY4 := Lib.hid hby4; clear hby4 hgrow4 hlen4))
            go_roundw
            case rel => exact ⟨k + 1, o ++ [32] ++ q.data.toList, a4, c4, by omega, by go_num, congrArg (fun n => Value.slice a4 n c4) (by rw [List.length_append, List.length_append, size_list, List.length_singleton]; omega), HA1.out, HLEN.out, Or.inl HN.out, HBY4.out, hB4⟩
            case measure => simp [intOf]; omega
    · obtain rfl : k = l.length := by omega
      have HV : Hid (l.all valB = true) := Lib.hid (by have := HALL.out; rw [List.take_of_length_le (Nat.le_refl _)] at this; exact this)
      have HJ : Hid ((if 16384 < (joinL fmtL l).length then ([], 2) else (joinL fmtL l, 0)) = (q0, e0)) := Lib.hid (by
        have := hj.out
        unfold joinE at this
        rw [if_neg (by rw [HV.out]; simp)] at this
        exact this)
      clear hj HALL
      by_cases hbig : 16384 < o.length
      · have hbi : (16384 : Int) < (o.length : Int) := by omega
        obtain ⟨rfl, rfl⟩ : q0 = [] ∧ e0 = 2 := by
          have hz : 16384 < (joinL fmtL l).length := by
            rcases HJN.out with e | e
            · rw [List.take_of_length_le (Nat.le_refl _)] at e; rw [← e]; exact hbig
            · exact e.2
          have := HJ.out
          rw [if_pos hz] at this
          simp only [Prod.mk.injEq] at this
          exact ⟨this.1.symm, this.2.symm⟩
        clear hbig
        go_wp2
        go_ret2
        exact ⟨rfl, hB⟩
      · have hbi : ¬ (16384 : Int) < (o.length : Int) := by omega
        have HE : Hid (q0 = o ∧ e0 = 0) := Lib.hid (by
          have ho : o = joinL fmtL l := by
            rcases HJN.out with e | e
            · rw [List.take_of_length_le (Nat.le_refl _)] at e; exact e
            · exact absurd e.1 hbig
          have := HJ.out
          rw [← ho, if_neg hbig] at this
          simp only [Prod.mk.injEq] at this
          exact ⟨this.1.symm, this.2.symm⟩)
        obtain ⟨rfl, rfl⟩ := HE.out
        have hcv := HBY.out.conv
        clear hbig HE HJ HJN
        go_wp2
        go_ret2
        exact ⟨rfl, hB⟩
theorem join_none (ao : Option Addr) (cap : Nat) (w : World) :
    Calls Tryd.prog 7 #[.slice ao 0 cap] w fun e w' => e = .returned (.tuple #[.string (ba []), .int .i64 0]) ∧ RowKit.Below w.heap.size w w' := by
  go_enter Tryd.func7, Tryd.ntmps7
  go_wp2_with fail
  go_loopw [4, 11] (fun o i wr => o = .slice none 0 0 ∧ i = .int .i64 0 ∧ w = wr) (fun _ _ _ => 0)
  case atStart => exact ⟨rfl, rfl, rfl⟩
  case round =>
    obtain ⟨rfl, rfl, rfl⟩ := hrel
    have hcv := (Byt.nil w 0).conv
    go_wp2
    go_ret2
    exact ⟨rfl, Below.refl _ _⟩
theorem join_any (v : Value) (l : List Tok) (q0 : List UInt8) (e0 : Int) (w : World) (htab : Hid (Tab w)) (hl : l.length ≤ 200) (ht : Hid (∀ t ∈ l, t.text.length ≤ 200)) (hn : Hid (∀ t ∈ l, numR t)) (hT : Hid (Tl w v l)) (hj : Hid (joinE l = (q0, e0))) :
    Calls Tryd.prog 7 #[v] w fun e w' => e = .returned (.tuple #[.string (ba q0), .int .i64 e0]) ∧ RowKit.Below w.heap.size w w' := by
  obtain ⟨ao, c, rfl, _, hA⟩ := hT.out
  rcases Nat.eq_zero_or_pos l.length with h | h
  · obtain rfl : l = [] := List.length_eq_zero_iff.1 h
    obtain ⟨rfl, rfl⟩ : q0 = [] ∧ e0 = 0 := by
      have := hj.out
      unfold joinE at this
      rw [if_neg (by simp), if_neg (by simp [joinL])] at this
      simp only [Prod.mk.injEq, joinL] at this
      exact ⟨this.1.symm, this.2.symm⟩
    exact join_none ao c w
  · obtain ⟨A, rfl, _⟩ := hA h
    exact join_some A c l q0 e0 w htab h hl ht hn hT hj
end Go.Proofs.YtcohjleolidngaaDoor
