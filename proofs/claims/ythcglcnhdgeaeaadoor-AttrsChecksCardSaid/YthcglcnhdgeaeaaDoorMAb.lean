/-
  What number of a rule of the landed code answers. Condition: the text's length.
  What Get of the landed code answers: the library's iterator over a list of attributes from its end, and the loop over it. Condition: a list's length.
  What Number of the landed code answers. Condition: a list's length, a text's length.
-/
import Derived.Test.YthcglcnhdgeaeaaDoorMAm
import Derived.Test.YthcglcnhdgeaeaaDoorMAv
import Derived.Test.YthcglcnhdgeaeaaDoorParse
import Derived.Lib.QuietBelow
import Derived.Test.YthcglcnhdgeaeaaDoorAttSq
import Derived.Test.YthcglcnhdgeaeaaDoorMAf
import Derived.Test.YthcglcnhdgeaeaaDoorMAx
import Derived.Laws.EntriesVeiled
namespace Go.Proofs.YthcglcnhdgeaeaaDoor.att
open Go.RowKit lex tre

/-- How many units a text is, and whether a rule has this number. -/
def numC (u lo hi : Int) (s : List UInt8) : Int × Bool :=
  if (prL s).2 ≠ 0 ∨ u = 0 ∨ (prL s).1.tmod u ≠ 0 then (0, false) else ((prL s).1.tdiv u, decide (lo ≤ (prL s).1.tdiv u) && decide ((prL s).1.tdiv u ≤ hi))
set_option maxRecDepth 100000 in
set_option maxHeartbeats 4000000 in
theorem number_0 (lo hi us : Int) (fv : Value) (s : ByteArray) (n : Int) (b : Bool) (w : World) (hs : s.size ≤ maxLen) (h : Hid (numC 0 lo hi s.data.toList = (n, b))) :
    Calls Tryd.prog 38 #[.agg #[.int .i64 0, .int .i64 lo, .int .i64 hi, .int .i64 us, fv], .string s] w fun e w' => e = .returned (.tuple #[.int .i64 n, .bool b]) ∧ Below w.heap.size w w' := by
  have hs' : s.size ≤ 9223372036854775807 := by unfold maxLen at hs; omega
  have hr := h.out
  clear h hs
  unfold numC at hr
  have hrg := prL_range s.data.toList
  obtain ⟨pn, pe, hpe⟩ : ∃ a c, prL s.data.toList = (a, c) := ⟨_, _, rfl⟩
  have HP : Hid (parseV s.data.toList = .tuple #[.int .i64 pn, .int .i64 pe]) := Lib.hid (by rw [parseV_pr, hpe])
  rw [hpe] at hr hrg
  simp only at hr hrg
  clear hpe
  by_cases h0 : pe = 0
  case neg =>
    rw [if_pos (Or.inl h0)] at hr
    cases hr
    have b0 : (pe != 0) = true := by rw [bne_iff_ne]; exact h0
    clear hrg h0
    go_enter Tryd.func38, Tryd.ntmps38
    go_wp2_with fail
    refine (parse_any _ _ hs').mono ?_
    rintro e w1 ⟨rfl, rfl⟩
    rw [HP.out]
    go_wp2
    go_ret2
    exact ⟨rfl, al1 ..⟩
  have hg := hrg h0
  subst h0
  clear hrg
  rw [if_pos (Or.inr (Or.inl trivial))] at hr
  cases hr
  clear hg
  go_enter Tryd.func38, Tryd.ntmps38
  go_wp2_with fail
  refine (parse_any _ _ hs').mono ?_
  rintro e w1 ⟨rfl, rfl⟩
  rw [HP.out]
  go_wp2
  go_ret2
  exact ⟨rfl, al1 ..⟩
set_option maxRecDepth 100000 in
set_option maxHeartbeats 4000000 in
theorem number_1 (lo hi us : Int) (fv : Value) (s : ByteArray) (n : Int) (b : Bool) (w : World) (hs : s.size ≤ maxLen) (h : Hid (numC 1 lo hi s.data.toList = (n, b))) :
    Calls Tryd.prog 38 #[.agg #[.int .i64 1, .int .i64 lo, .int .i64 hi, .int .i64 us, fv], .string s] w fun e w' => e = .returned (.tuple #[.int .i64 n, .bool b]) ∧ Below w.heap.size w w' := by
  have hs' : s.size ≤ 9223372036854775807 := by unfold maxLen at hs; omega
  have hr := h.out
  clear h hs
  unfold numC at hr
  have hrg := prL_range s.data.toList
  obtain ⟨pn, pe, hpe⟩ : ∃ a c, prL s.data.toList = (a, c) := ⟨_, _, rfl⟩
  have HP : Hid (parseV s.data.toList = .tuple #[.int .i64 pn, .int .i64 pe]) := Lib.hid (by rw [parseV_pr, hpe])
  rw [hpe] at hr hrg
  simp only at hr hrg
  clear hpe
  by_cases h0 : pe = 0
  case neg =>
    rw [if_pos (Or.inl h0)] at hr
    cases hr
    have b0 : (pe != 0) = true := by rw [bne_iff_ne]; exact h0
    clear hrg h0
    go_enter Tryd.func38, Tryd.ntmps38
    go_wp2_with fail
    refine (parse_any _ _ hs').mono ?_
    rintro e w1 ⟨rfl, rfl⟩
    rw [HP.out]
    go_wp2
    go_ret2
    exact ⟨rfl, al1 ..⟩
  have hg := hrg h0
  subst h0
  clear hrg
  rw [if_neg (by simp [Int.tmod_one])] at hr
  rw [Int.tdiv_one] at hr
  have t1 : IntKind.i64.wrap pn = pn := IntWalk.i64_in _ (by omega)
  have u1 : pn.tmod 1 = 0 := Int.tmod_one pn
  have u2 : pn.tdiv 1 = pn := Int.tdiv_one pn
  have e1 := (Prod.mk.inj hr).1
  have e2 := (Prod.mk.inj hr).2
  subst e1
  subst e2
  clear hr hg
  obtain ⟨q1, hq1⟩ : ∃ q, decide (lo ≤ pn) = q := ⟨_, rfl⟩
  obtain ⟨q2, hq2⟩ : ∃ q, decide (pn ≤ hi) = q := ⟨_, rfl⟩
  rw [hq1, hq2]
  cases q1
  · go_enter Tryd.func38, Tryd.ntmps38
    go_wp2_with fail
    refine (parse_any _ _ hs').mono ?_
    rintro e w1 ⟨rfl, rfl⟩
    rw [HP.out]
    go_wp2
    go_quiet (fail)
    have hB := below_keep (drew_n (w.alloc (.cells #[.int .i64 1, .int .i64 lo, .int .i64 hi, .int .i64 us, fv] 53)) nq) (al1 ..)
    generalize (w.alloc (.cells #[.int .i64 1, .int .i64 lo, .int .i64 hi, .int .i64 us, fv] 53)).drewN nq = wn at hB ⊢
    go_wp2
    go_ret2
    exact ⟨rfl, hB⟩
  · go_enter Tryd.func38, Tryd.ntmps38
    go_wp2_with fail
    refine (parse_any _ _ hs').mono ?_
    rintro e w1 ⟨rfl, rfl⟩
    rw [HP.out]
    go_wp2
    go_quiet (fail)
    have hB := below_keep (drew_n (w.alloc (.cells #[.int .i64 1, .int .i64 lo, .int .i64 hi, .int .i64 us, fv] 53)) nq) (al1 ..)
    generalize (w.alloc (.cells #[.int .i64 1, .int .i64 lo, .int .i64 hi, .int .i64 us, fv] 53)).drewN nq = wn at hB ⊢
    go_wp2
    go_ret2
    exact ⟨rfl, hB⟩
set_option maxRecDepth 100000 in
set_option maxHeartbeats 4000000 in
theorem number_1000 (lo hi us : Int) (fv : Value) (s : ByteArray) (n : Int) (b : Bool) (w : World) (hs : s.size ≤ maxLen) (h : Hid (numC 1000 lo hi s.data.toList = (n, b))) :
    Calls Tryd.prog 38 #[.agg #[.int .i64 1000, .int .i64 lo, .int .i64 hi, .int .i64 us, fv], .string s] w fun e w' => e = .returned (.tuple #[.int .i64 n, .bool b]) ∧ Below w.heap.size w w' := by
  have hs' : s.size ≤ 9223372036854775807 := by unfold maxLen at hs; omega
  have hr := h.out
  clear h hs
  unfold numC at hr
  have hrg := prL_range s.data.toList
  obtain ⟨pn, pe, hpe⟩ : ∃ a c, prL s.data.toList = (a, c) := ⟨_, _, rfl⟩
  have HP : Hid (parseV s.data.toList = .tuple #[.int .i64 pn, .int .i64 pe]) := Lib.hid (by rw [parseV_pr, hpe])
  rw [hpe] at hr hrg
  simp only at hr hrg
  clear hpe
  by_cases h0 : pe = 0
  case neg =>
    rw [if_pos (Or.inl h0)] at hr
    cases hr
    have b0 : (pe != 0) = true := by rw [bne_iff_ne]; exact h0
    clear hrg h0
    go_enter Tryd.func38, Tryd.ntmps38
    go_wp2_with fail
    refine (parse_any _ _ hs').mono ?_
    rintro e w1 ⟨rfl, rfl⟩
    rw [HP.out]
    go_wp2
    go_ret2
    exact ⟨rfl, al1 ..⟩
  have hg := hrg h0
  subst h0
  clear hrg
  have m1 : (pn.tmod 1000).natAbs = pn.natAbs % 1000 := by rw [Int.natAbs_tmod]; rfl
  have m2 : (pn.tdiv 1000).natAbs = pn.natAbs / 1000 := by rw [Int.natAbs_tdiv]; rfl
  have t1 : IntKind.i64.wrap (pn.tmod 1000) = pn.tmod 1000 := IntWalk.i64_in _ (by omega)
  have t2 : IntKind.i64.wrap (pn.tdiv 1000) = pn.tdiv 1000 := IntWalk.i64_in _ (by omega)
  by_cases h4 : pn.tmod 1000 = 0
  case neg =>
    rw [if_pos (Or.inr (Or.inr h4))] at hr
    cases hr
    have b4 : (pn.tmod 1000 != 0) = true := by rw [bne_iff_ne]; exact h4
    clear h4 hg m1 m2
    go_enter Tryd.func38, Tryd.ntmps38
    go_wp2_with fail
    refine (parse_any _ _ hs').mono ?_
    rintro e w1 ⟨rfl, rfl⟩
    rw [HP.out]
    go_wp2
    go_ret2
    exact ⟨rfl, al1 ..⟩
  rw [if_neg (by simp [h4])] at hr
  have b4 : (pn.tmod 1000 != 0) = false := by rw [h4]; rfl
  have e1 := (Prod.mk.inj hr).1
  have e2 := (Prod.mk.inj hr).2
  subst e1
  subst e2
  clear hr h4 hg m1 m2
  obtain ⟨q1, hq1⟩ : ∃ q, decide (lo ≤ pn.tdiv 1000) = q := ⟨_, rfl⟩
  obtain ⟨q2, hq2⟩ : ∃ q, decide (pn.tdiv 1000 ≤ hi) = q := ⟨_, rfl⟩
  rw [hq1, hq2]
  cases q1
  · go_enter Tryd.func38, Tryd.ntmps38
    go_wp2_with fail
    refine (parse_any _ _ hs').mono ?_
    rintro e w1 ⟨rfl, rfl⟩
    rw [HP.out]
    go_wp2
    go_quiet (fail)
    have hB := below_keep (drew_n (w.alloc (.cells #[.int .i64 1000, .int .i64 lo, .int .i64 hi, .int .i64 us, fv] 53)) nq) (al1 ..)
    generalize (w.alloc (.cells #[.int .i64 1000, .int .i64 lo, .int .i64 hi, .int .i64 us, fv] 53)).drewN nq = wn at hB ⊢
    go_wp2
    go_ret2
    exact ⟨rfl, hB⟩
  · go_enter Tryd.func38, Tryd.ntmps38
    go_wp2_with fail
    refine (parse_any _ _ hs').mono ?_
    rintro e w1 ⟨rfl, rfl⟩
    rw [HP.out]
    go_wp2
    go_quiet (fail)
    have hB := below_keep (drew_n (w.alloc (.cells #[.int .i64 1000, .int .i64 lo, .int .i64 hi, .int .i64 us, fv] 53)) nq) (al1 ..)
    generalize (w.alloc (.cells #[.int .i64 1000, .int .i64 lo, .int .i64 hi, .int .i64 us, fv] 53)).drewN nq = wn at hB ⊢
    go_wp2
    go_ret2
    exact ⟨rfl, hB⟩
theorem number_of (u lo hi us : Int) (fv : Value) (s : ByteArray) (n : Int) (b : Bool) (w : World) (hs : s.size ≤ maxLen) (hu : u = 0 ∨ u = 1 ∨ u = 1000) (h : Hid (numC u lo hi s.data.toList = (n, b))) :
    Calls Tryd.prog 38 #[.agg #[.int .i64 u, .int .i64 lo, .int .i64 hi, .int .i64 us, fv], .string s] w fun e w' => e = .returned (.tuple #[.int .i64 n, .bool b]) ∧ Below w.heap.size w w' := by
  rcases hu with rfl | rfl | rfl
  · exact number_0 lo hi us fv s n b w hs h
  · exact number_1 lo hi us fv s n b w hs h
  · exact number_1000 lo hi us fv s n b w hs h
end Go.Proofs.YthcglcnhdgeaeaaDoor.att
namespace Go.Proofs.YthcglcnhdgeaeaaDoor.att
open Go.RowKit lex tre
attribute [local go_sem] Oper.semAt_some

/-- A list's places from its end, with what lies there. -/
def bkL (l : List Pr) : List (Nat × Pr) := (List.range l.length).map fun j => (l.length - 1 - j, l.getD (l.length - 1 - j) ([], []))
theorem bk_len (l : List Pr) : (bkL l).length = l.length := by simp [bkL]
theorem bk_at (l : List Pr) (j : Nat) (h : j < l.length) : (bkL l)[j]'(by rw [bk_len]; exact h) = (l.length - 1 - j, l[l.length - 1 - j]'(by omega)) := by
  simp only [bkL, List.getElem_map, List.getElem_range, Prod.mk.injEq, true_and]
  rw [List.getD_eq_getElem?_getD, List.getElem?_eq_getElem (by omega)]; rfl
theorem bk_next {l : List Pr} {pre : List (Nat × Pr)} {x : Nat × Pr} (h : pre ++ [x] <+: bkL l) : ∃ hp : pre.length < l.length, x = (l.length - 1 - pre.length, l[l.length - 1 - pre.length]'(by omega)) := by
  obtain ⟨t, ht⟩ := h
  have hl := congrArg List.length ht
  rw [bk_len] at hl
  simp at hl
  have hp : pre.length < l.length := by omega
  refine ⟨hp, ?_⟩
  rw [← bk_at l pre.length hp]
  simp only [← ht]
  simp
theorem bk_take (l : List Pr) (j : Nat) (h : j < l.length) : (bkL l).take (j + 1) = (bkL l).take j ++ [(l.length - 1 - j, l[l.length - 1 - j]'(by omega))] := by
  rw [List.take_succ_eq_append_getElem (by rw [bk_len]; exact h), bk_at l j h]
theorem bk_step (l : List Pr) (i : Nat) (h : i < l.length) : (bkL l).take (l.length - i) = (bkL l).take (l.length - (i + 1)) ++ [(i, l[i])] := by
  have h1 := bk_take l (l.length - (i + 1)) (by omega)
  have e1 : l.length - 1 - (l.length - (i + 1)) = i := by omega
  have e2 : l.length - (i + 1) + 1 = l.length - i := by omega
  rw [e2] at h1
  simp only [e1] at h1
  exact h1
def bkV (x : Nat × Pr) : Array Value := #[.int .i64 x.1, .agg #[.string (bb x.2.1), .string (bb x.2.2)]]

set_option maxRecDepth 100000 in
set_option maxHeartbeats 4000000 in
theorem bk1_in (n l c m : Nat) (v : Value) (L : List Pr) (hL : L.length ≤ 1000) (J Jx : List (Nat × Pr) → World → Prop)
    (hY : ∀ k pre x X, J pre X → pre ++ [x] <+: bkL L → YieldAt Fence.wide k Tryd.prog l (bkV x) X fun e Y =>
      (e = .returned (.bool true) ∧ J (pre ++ [x]) Y ∧ KpC m c X Y) ∨ (e = .returned (.bool false) ∧ Jx (pre ++ [x]) Y))
    (W : World) (hP : ∀ Y, Below m W Y → Prs Y v L) (hB : Boxed W (c + 2) 22 v) (h0 : J [] W) :
    CallsIn Fence.wide n Tryd.prog 53 #[.func (.yield l) #[] #[], .pointer (some ⟨c + 2, 0, none⟩)] W fun e W' => (∃ v, e = .returned v) ∧
      (J (bkL L) W' ∨ ∃ pre, pre <+: bkL L ∧ Jx pre W') := by
  obtain ⟨ao, cap, rfl, _, _, _⟩ := id (hP W (Below.refl _ _))
  have c0 := hB.cell
  refine callsIn_of_wp Tryd.func53 rfl trivial ?_ rfl
  simp only [Tryd.ntmps53, List.size_toArray, List.length_cons, List.length_nil, Nat.reduceAdd, Nat.reduceSub, Array.replicate_succ, Array.replicate_zero, List.push_toArray, List.append_toArray, List.nil_append, List.cons_append]
  gi_wp2
  clear c0
  gi_loopw [3] (fun iv wr => ∃ k : Nat, iv = .int .i64 ((k : Int) - 1) ∧ k ≤ L.length ∧ J ((bkL L).take (L.length - k)) wr ∧ Below m W wr ∧ Boxed wr (c + 2) 22 (.slice ao L.length cap)) (fun iv _ => (intOf iv + 1).toNat)
  case atStart => exact ⟨L.length, by go_num, Nat.le_refl _, by rw [Nat.sub_self]; exact h0, Below.refl _ _, hB⟩
  case round =>
    obtain ⟨k, rfl, hk, hJs, hbw, hbx⟩ := hrel
    rename World => wr
    have cb := hbx.cell
    cases k with
    | zero =>
      rw [Nat.sub_zero, ← bk_len, List.take_length] at hJs
      have HJ := Lib.hid hJs
      clear hJs
      gi_wp2
      go_end0
      exact ⟨⟨_, rfl⟩, Or.inl HJ.out⟩
    | succ i =>
      have em : ((i + 1 : Nat) : Int) - 1 = (i : Int) := by omega
      rw [em]
      have hlt : i < L.length := by omega
      have hq := hP wr hbw
      obtain ⟨A, rfl, q0, q1, -, -⟩ := hq.get hlt
      have hst := bk_step L i hlt
      have hpre : (bkL L).take (L.length - (i + 1)) ++ [(i, L[i])] <+: bkL L := by rw [← hst]; exact List.take_prefix _ _
      obtain ⟨fn, tmps, assign, body, hy, hR⟩ := hY (n - 1) _ (i, L[i]) wr hJs hpre
      have HST := Lib.hid hst
      have HPRE := Lib.hid hpre
      have i0 : (0 : Int) ≤ (i : Int) := by omega
      have i1 : (i : Int) < (L.length : Int) := by omega
      dsimp only [bkV] at hy
      clear hst em hq hpre hJs
      gi_wp2
      refine ⟨fun h => (by cases h), ?_⟩
      refine hR.mono ?_
      rintro e W3 (⟨rfl, hJ3, hk3⟩ | ⟨rfl, hJx3⟩)
      · have HJ3 := Lib.hid hJ3
        have HB3 := Lib.hid (hbw.trans hk3.1)
        have HX3 := Lib.hid ((hk3.2 (c + 2) (by omega) (by omega)).trans hbx)
        clear hJ3
        gi_wp2
        go_roundw
        case rel => exact ⟨i, by go_num, by omega, by rw [HST.out]; exact HJ3.out, HB3.out, HX3.out⟩
        case measure => simp [intOf]
      · gi_wp2
        refine bodyPost_ret (results_none rfl _ _ _) rfl ?_
        exact ⟨⟨_, rfl⟩, Or.inr ⟨_, HPRE.out, hJx3⟩⟩
theorem bk_seq (v : Value) (L : List Pr) (hL : L.length ≤ 1000) (c m b : Nat) (w : World) (hm : m ≤ w.heap.size) (hP : ∀ Y, Below m w Y → Prs Y v L) (hbc : b = c + 2) (hB : Boxed w b 22 v) :
    SeqC Tryd.prog 53 #[.pointer (some ⟨b, 0, none⟩)] bkV m c none (bkL L) w := fun n l J Jx W hW _ hY h0 => by
  subst hbc
  exact bk1_in n l c m v L hL J Jx hY W (fun Y hY' => hP Y ((hW.mono hm).trans hY')) ((hW.block _ hB.lt).trans hB) h0
set_option maxHeartbeats 1000000 in
theorem bkw_of (ao : Option Addr) (n cap : Nat) (w : World) :
    Calls Tryd.prog 33 #[.slice ao n cap] w fun e w' => e = .returned (.func (.func 53) #[] #[.pointer (some ⟨w.heap.size, 0, none⟩)]) ∧ w' = w.alloc (.cells #[.slice ao n cap] 22) := by
  go_enter Tryd.func33, Tryd.ntmps33
  go_wp2
  go_ret
  exact ⟨rfl, rfl⟩
/-- What holds between two rounds of Get. -/
def GeI (w : World) (g : Nat) (s : ByteArray) (L : List Pr) (x : List UInt8) (r : Bool) (pre : List (Nat × Pr)) (W : World) : Prop :=
  getL (L.take (L.length - pre.length)) s.data.toList = (x, r) ∧ Boxed W g 9 (.string s) ∧ Boxed W (g + 1) 9 (.string ⟨#[]⟩) ∧ Boxed W (g + 1 + 1) 4 (.bool false) ∧ Below g w W
def GeX (w : World) (g : Nat) (x : List UInt8) (r : Bool) (W : World) : Prop := Boxed W (g + 1) 9 (.string (bb x)) ∧ Boxed W (g + 1 + 1) 4 (.bool r) ∧ Below g w W
theorem GeI.step {w : World} {g : Nat} {s : ByteArray} {L : List Pr} {x : List UInt8} {r : Bool} {pre : List (Nat × Pr)} {X Y : World} {row : Option Nat} (h : GeI w g s L x r pre X) (hg : X.grownBy Y row) (hr : ∀ q, row = some q → g + 3 ≤ q) : GeI w g s L x r pre Y := by
  obtain ⟨h1, h2, h3, h4, h5⟩ := h
  exact ⟨h1, h2.kept hg (fun e => by have := hr _ e.symm; omega), h3.kept hg (fun e => by have := hr _ e.symm; omega), h4.kept hg (fun e => by have := hr _ e.symm; omega), h5.grown hg (Nat.le_of_lt h2.lt) (fun k e => by have := hr k e; omega)⟩
theorem GeX.step {w : World} {g : Nat} {x : List UInt8} {r : Bool} {X Y : World} {row : Option Nat} (h : GeX w g x r X) (hg : X.grownBy Y row) (hr : ∀ q, row = some q → g + 3 ≤ q) : GeX w g x r Y := by
  obtain ⟨h3, h4, h5⟩ := h
  exact ⟨h3.kept hg (fun e => by have := hr _ e.symm; omega), h4.kept hg (fun e => by have := hr _ e.symm; omega), h5.grown hg (by have := h3.lt; omega) (fun k e => by have := hr k e; omega)⟩
/-- A block of an attribute. -/
def Blk2 (W : World) (g : Nat) (u : Pr) : Prop := W.heap[g]? = some (.cells #[.string (bb u.1), .string (bb u.2)] 28 (0, 0))

set_option maxRecDepth 100000 in
set_option maxHeartbeats 4000000 in
theorem get_of (v : Value) (L : List Pr) (s : ByteArray) (x : List UInt8) (r : Bool) (w : World) (h : Hid (Prs w v L)) (hL : L.length ≤ 60) (hr : Hid (getL L s.data.toList = (x, r))) :
    Calls Tryd.prog 15 #[v, .string s] w fun e w' => e = .returned (.tuple #[.string (bb x), .bool r]) ∧ Below w.heap.size w w' := by
  obtain ⟨ao, cap, rfl, _, _, _⟩ := id h.out
  obtain ⟨g, hg⟩ : ∃ g, w.heap.size = g := ⟨_, rfl⟩
  have hP : ∀ Y, Below g w Y → Prs Y (.slice ao L.length cap) L := fun Y hY => h.out.keep (by rw [hg]; exact hY)
  have HPP := Lib.hid hP
  clear hP
  refine (callsIn_wide (n := 9)).1 ?_
  refine callsIn_of_wp_marks Tryd.func15 rfl trivial ?_ rfl
  simp only [Tryd.ntmps15, List.size_toArray, List.length_cons, List.length_nil, Nat.reduceAdd, Nat.reduceSub, Array.replicate_succ, Array.replicate_zero, List.push_toArray, List.append_toArray, List.nil_append, List.cons_append]
  gi_wp2
  have bK := ((Boxed.new w 9 (.string s)).alloc (.cells #[.string ⟨#[]⟩] 9)).alloc (.cells #[.bool false] 4)
  have bV := (Boxed.new (w.alloc (.cells #[.string s] 9)) 9 (.string ⟨#[]⟩)).alloc (.cells #[.bool false] 4)
  have bF := Boxed.new ((w.alloc (.cells #[.string s] 9)).alloc (.cells #[.string ⟨#[]⟩] 9)) 4 (.bool false)
  have hB0 := al3 w (.cells #[.string s] 9) (.cells #[.string ⟨#[]⟩] 9) (.cells #[.bool false] 4)
  simp only [World.size_alloc] at bV bF
  have hsz : (((w.alloc (.cells #[.string s] 9)).alloc (.cells #[.string ⟨#[]⟩] 9)).alloc (.cells #[.bool false] 4)).heap.size = w.heap.size + 3 := by simp
  generalize ((w.alloc (.cells #[.string s] 9)).alloc (.cells #[.string ⟨#[]⟩] 9)).alloc (.cells #[.bool false] 4) = w0 at bK bV bF hB0 hsz ⊢
  rw [hg] at bK bV bF hB0 hsz
  refine ⟨trivial, ?_⟩
  refine (callsIn_wide.2 (bkw_of _ _ _ w0)).mono ?_
  rintro e W0' ⟨rfl, rfl⟩
  have bS := Boxed.new w0 22 (.slice ao L.length cap)
  have bK1 := bK.alloc (.cells #[.slice ao L.length cap] 22)
  have bV1 := bV.alloc (.cells #[.slice ao L.length cap] 22)
  have bF1 := bF.alloc (.cells #[.slice ao L.length cap] 22)
  have hB1 : Below g w (w0.alloc (.cells #[.slice ao L.length cap] 22)) := hB0.trans ((al1 w0 _).mono (by omega))
  have hz1 : (w0.alloc (.cells #[.slice ao L.length cap] 22)).heap.size = g + 3 + 1 := by simp [hsz]
  simp only [hsz] at bS ⊢
  generalize w0.alloc (.cells #[.slice ao L.length cap] 22) = W0 at bS bK1 bV1 bF1 hB1 hz1 ⊢
  clear bK bV bF hB0 hsz
  gi_wp2
  refine range_c rfl (enters_of Tryd.func53 (by kernel_rfl) rfl) (bk_seq (.slice ao L.length cap) L (by omega) (g + 1) g (g + 3) W0 (by omega) (fun Y hY => HPP.out Y (hB1.trans hY)) rfl bS) (fun r e => by cases e) (by omega) (by omega) (fun _ => rfl)
    (GeI w g s L x r) (fun _ => GeX w g x r) (fun pre X Y row h hg' hr' => h.step hg' (fun q e => by rcases hr' q e with e | e; cases e; omega)) (fun pre X Y row h hg' hr' => h.step hg' (fun q e => by have := hr' q e; omega))
    ⟨by rw [List.length_nil, Nat.sub_zero, List.take_length]; exact hr.out, bK1, bV1, bF1, hB1⟩
    (fun y a' W => ∃ Bx, W0.heap.size + 2 ≤ Bx ∧ Blk2 W Bx y.2 ∧ a' = { tmps := #[.slice ao L.length cap, .string s, undef, .pointer (some ⟨g, 0, none⟩), .pointer (some ⟨g + 1, 0, none⟩), .pointer (some ⟨g + 1 + 1, 0, none⟩), undef, .pointer (some ⟨Bx, 0, none⟩), .slice ao L.length cap, .func (.func 53) #[] #[.pointer (some ⟨g + 3, 0, none⟩)], .int .i64 y.1, .agg #[.string (bb y.2.1), .string (bb y.2.2)], undef, undef, undef, undef, undef, undef], defers := [] })
    (fun y a' X Y h hg' => by
      obtain ⟨Bx, h1, h2, h3⟩ := h
      exact ⟨Bx, h1, (hg'.block Bx (Array.getElem?_eq_some_iff.1 h2).1 (fun e => by cases e; omega)).trans h2, h3⟩) ?assign ?body ?done ?stop
  case assign =>
    rintro k l pre y W K hI hz hK
    dsimp only [bkV]
    gi_wp2
    exact hK _ _ (Kp3.of (by omega) (by omega) (by omega) (al1 _ _)) (hI.step (World.grownBy_alloc W _ none) (fun q e => by cases e)) ⟨W.heap.size, by omega, heap_alloc_new W _, rfl⟩
  case body =>
    rintro k l pre y a' W ⟨hi, bK, bV, bF, hB⟩ hz ⟨Bx, hBx, bX, rfl⟩ hpre
    obtain ⟨hlt, rfl⟩ := bk_next hpre
    have e1 : L.length - pre.length = (L.length - 1 - pre.length) + 1 := by omega
    have hjl : L.length - 1 - pre.length < L.length := by omega
    have hn : L.length - (pre.length + 1) = L.length - 1 - pre.length := by omega
    rw [e1, List.take_succ_eq_append_getElem hjl, getL_snoc] at hi
    simp only at bX hi
    obtain ⟨u, hu⟩ : ∃ u, L[L.length - 1 - pre.length] = u := ⟨_, rfl⟩
    simp only [hu] at bX hi ⊢
    obtain ⟨u1, u2⟩ := u
    simp only at bX hi ⊢
    obtain ⟨o0, o1, _, _⟩ := own2_of bX
    have cK := bK.cell
    have cV := bV.cell
    have fV := bV.frozen
    obtain ⟨Y, hY⟩ : ∃ Y, bb u1 = Y := ⟨_, rfl⟩
    rw [hY] at o0
    have hY2 : Y.data.toList = u1 := by rw [← hY]
    clear hu e1 bX
    by_cases hxy : u1 = s.data.toList
    · have b1 : (Y.toList == s.toList) = true := by rw [ByteArray.toList_eq, ByteArray.toList_eq, hY2, beq_iff_eq]; exact hxy
      rw [if_pos hxy] at hi
      obtain ⟨rfl, rfl⟩ := Prod.mk.inj hi
      have cF := (bF.other (B' := g + 1) (by omega) (.string (bb u2))).cell
      have fF := (bF.other (B' := g + 1) (by omega) (.string (bb u2))).frozen
      clear hi hY hY2 hxy hn hjl
      gi_wp2
      have k3 : Kp3 g (g + 1 + 2) W0.heap.size W ((W.setCell ⟨g + 1, 0, none⟩ (.string (bb u2))).setCell ⟨g + 1 + 1, 0, none⟩ (.bool true)) :=
        (Kp3.set (b := g + 1) (o := 0) (v := .string (bb u2)) (by omega) (by omega) (by omega) (by omega)).t (Kp3.set (b := g + 1 + 1) (o := 0) (v := .bool true) (by omega) (by omega) (by omega) (by omega))
      rw [hz1] at k3
      exact ⟨k3.2.2.1, k3.2.2.2, (bV.set _).other (by omega) _, (bF.other (by omega) _).set _, hB.trans k3.1⟩
    · have b1 : (Y.toList == s.toList) = false := by rw [ByteArray.toList_eq, ByteArray.toList_eq, hY2, beq_eq_false_iff_ne]; exact hxy
      rw [if_neg hxy] at hi
      have HF : Hid (getL (L.take (L.length - (pre.length + 1))) s.data.toList = (x, r)) := Lib.hid (by rw [hn]; exact hi)
      clear hi hY hY2 hxy hn hjl
      gi_wp2
      exact ⟨⟨Below.refl _ _, fun _ _ _ => rfl, rfl, rfl⟩, by rw [List.length_append]; exact HF.out, bK, bV, bF, hB⟩
  case done =>
    rintro W ⟨hi, bK, bV, bF, hB⟩ hK
    rw [bk_len, Nat.sub_self] at hi
    obtain ⟨rfl, rfl⟩ := Prod.mk.inj hi
    have cV := bV.cell
    have fV := bV.frozen
    have cF := (bF.other (B' := g + 1) (by omega) (.string ⟨#[]⟩)).cell
    have fF := (bF.other (B' := g + 1) (by omega) (.string ⟨#[]⟩)).frozen
    have hK1 := ((KeepsOthers.setCell W ⟨g + 1, 0, none⟩ (.string ⟨#[]⟩)).trans (KeepsOthers.setCell _ ⟨g + 1 + 1, 0, none⟩ (.bool false))).same W0.heap.size _ hK rfl
    have bV2 := (((bV.set (.string ⟨#[]⟩)).other (B' := g + 1 + 1) (by omega) (.bool false)).kept (grownBy_putObj' _ W0.heap.size (.deferred none)) (by simp; omega))
    have bF2 := (((bF.other (B' := g + 1) (by omega) (.string ⟨#[]⟩)).set (.bool false)).kept (grownBy_putObj' _ W0.heap.size (.deferred none)) (by simp; omega))
    have hB2 := (((hB.setCell (p := ⟨g + 1, 0, none⟩) (by simp) (.string ⟨#[]⟩)).setCell (p := ⟨g + 1 + 1, 0, none⟩) (by simp; omega) (.bool false)).grown (grownBy_putObj' _ W0.heap.size (.deferred none)) (by have := bF2.lt; simp at this ⊢; omega) (fun k e => by cases e; omega))
    have cV2 := bV2.cell
    have cF2 := bF2.cell
    have HB2 := Lib.hid hB2
    clear hB2 hB hi
    gi_wp2
    refine ⟨by simp, .inl ⟨_, _, rfl, run_takeDeferred hK1, ?_⟩⟩
    exact ⟨.tuple #[.string ⟨#[]⟩, .bool false], by simp [results, Tryd.results15, go_sem, cV2, cF2], rfl, by rw [hg]; exact HB2.out⟩
  case stop =>
    rintro pre W hpre ⟨bV, bF, hB⟩ hK
    have bV2 := bV.kept (grownBy_putObj' _ W0.heap.size (.deferred none)) (by simp; omega)
    have bF2 := bF.kept (grownBy_putObj' _ W0.heap.size (.deferred none)) (by simp; omega)
    have hB2 := hB.grown (grownBy_putObj' _ W0.heap.size (.deferred none)) (by have := bV.lt; omega) (fun k e => by cases e; omega)
    have cV2 := bV2.cell
    have cF2 := bF2.cell
    have HB2 := Lib.hid hB2
    clear hB2 hB
    gi_wp2
    refine ⟨by simp, .inl ⟨_, _, rfl, run_takeDeferred hK, ?_⟩⟩
    exact ⟨.tuple #[.string (bb x), .bool r], by simp [results, Tryd.results15, go_sem, cV2, cF2], rfl, by rw [hg]; exact HB2.out⟩
end Go.Proofs.YthcglcnhdgeaeaaDoor.att
namespace Go.Proofs.YthcglcnhdgeaeaaDoor.att
open Go.RowKit lex tre

/-- The rule that the code has of a known rule. -/
def ruU (x : Ru) : Int := if x.form = 2 then 1 else if x.form = 3 then 1000 else 0
def ruF (x : Ru) : Value := if x.form = 1 then fTx else if x.form = 4 then fPo else if x.form = 5 then fMo else .nilFunc
def ruC (x : Ru) : Value × Bool := (RV (ruU x) x.low x.high x.normal (ruF x), decide (x.form ≠ 0))
theorem rv_known (k : Int) (c : List UInt8) : rvK k c = ruC (knownL k c) := by
  unfold rvK knownL
  by_cases h1 : k = 1
  · rw [if_pos h1, if_pos h1]
    unfold rvN ruN
    by_cases a : c = wLabel
    · rw [if_pos a, if_pos a]; rfl
    rw [if_neg a, if_neg a]
    by_cases a : c = wWidth
    · rw [if_pos a, if_pos a]; rfl
    rw [if_neg a, if_neg a]
    by_cases a : c = wHeight
    · rw [if_pos a, if_pos a]; rfl
    rw [if_neg a, if_neg a]
    by_cases a : c = wPorts
    · rw [if_pos a, if_pos a]; rfl
    rw [if_neg a, if_neg a]; rfl
  rw [if_neg h1, if_neg h1]
  by_cases h2 : k = 2
  · rw [if_pos h2, if_pos h2]
    unfold rvE ruE
    by_cases a : c = wLabel
    · rw [if_pos a, if_pos a]; rfl
    rw [if_neg a, if_neg a]
    by_cases a : c = wWeight
    · rw [if_pos a, if_pos a]; rfl
    rw [if_neg a, if_neg a]
    by_cases a : c = wLen
    · rw [if_pos a, if_pos a]; rfl
    rw [if_neg a, if_neg a]; rfl
  rw [if_neg h2, if_neg h2]
  by_cases h4 : k = 4
  · rw [if_pos h4, if_pos h4]
    unfold rvS ruS
    by_cases a : c = wMode
    · rw [if_pos a, if_pos a]; rfl
    rw [if_neg a, if_neg a]
    by_cases a : c = wNodesep
    · rw [if_pos a, if_pos a]; rfl
    rw [if_neg a, if_neg a]
    by_cases a : c = wRanksep
    · rw [if_pos a, if_pos a]; rfl
    rw [if_neg a, if_neg a]
    by_cases a : c = wMargin
    · rw [if_pos a, if_pos a]; rfl
    rw [if_neg a, if_neg a]
    by_cases a : c = wRounds
    · rw [if_pos a, if_pos a]; rfl
    rw [if_neg a, if_neg a]; rfl
  rw [if_neg h4, if_neg h4]; rfl
theorem ruU_of (x : Ru) : ruU x = 0 ∨ ruU x = 1 ∨ ruU x = 1000 := by
  unfold ruU
  repeat' split
  all_goals simp
theorem ruF_of (x : Ru) : ruF x = .nilFunc ∨ ruF x = fTx ∨ ruF x = fPo ∨ ruF x = fMo := by
  unfold ruF
  repeat' split
  all_goals simp
/-- What is no number has no default, and no limits. -/
theorem known_zero (k : Int) (c : List UInt8) (h2 : (knownL k c).form ≠ 2) (h3 : (knownL k c).form ≠ 3) : (knownL k c).low = 0 ∧ (knownL k c).high = 0 ∧ (knownL k c).normal = 0 := by
  revert h2 h3
  unfold knownL
  split
  · unfold ruN
    repeat' split
    all_goals simp
  · split
    · unfold ruE
      repeat' split
      all_goals simp
    · split
      · unfold ruS
        repeat' split
        all_goals simp
      · simp
theorem known_good {k : Int} (c : List UInt8) (h : goodK k = false) : knownL k c = ⟨0, 0, 0, 0⟩ := by
  unfold goodK at h
  simp only [Bool.or_eq_false_iff, decide_eq_false_iff_not] at h
  unfold knownL
  rw [if_neg h.1.1, if_neg h.1.2, if_neg h.2]
/-- What the code's rule makes of a text is what the chapter's makes of it. -/
theorem numC_val (k : Int) (c s : List UInt8) : numC (ruU (knownL k c)) (knownL k c).low (knownL k c).high s = if (knownL k c).form ≠ 2 ∧ (knownL k c).form ≠ 3 then (0, false) else valR (knownL k c) s := by
  generalize knownL k c = x
  unfold numC valR ruU
  by_cases h2 : x.form = 2
  · rw [if_pos h2, if_neg (show ¬ (x.form ≠ 2 ∧ x.form ≠ 3) from fun e => e.1 h2)]
    by_cases h0 : (prL s).2 ≠ 0
    · rw [if_pos (Or.inl h0), if_pos h0]
    · rw [if_neg (show ¬ ((prL s).2 ≠ 0 ∨ (1 : Int) = 0 ∨ (prL s).1.tmod 1 ≠ 0) by rintro (e | e | e); exact h0 e; exact absurd e (by decide); exact e (Int.tmod_one _)), if_neg h0, if_neg (show ¬ x.form = 3 by omega), Int.tdiv_one]
  · rw [if_neg h2]
    by_cases h3 : x.form = 3
    · rw [if_pos h3, if_neg (show ¬ (x.form ≠ 2 ∧ x.form ≠ 3) from fun e => e.2 h3)]
      by_cases h0 : (prL s).2 ≠ 0
      · rw [if_pos (Or.inl h0), if_pos h0]
      · rw [if_neg h0, if_pos h3]
        by_cases h4 : (prL s).1.tmod 1000 ≠ 0
        · rw [if_pos (Or.inr (Or.inr h4)), if_pos h4]
        · rw [if_neg (show ¬ ((prL s).2 ≠ 0 ∨ (1000 : Int) = 0 ∨ (prL s).1.tmod 1000 ≠ 0) by rintro (e | e | e); exact h0 e; exact absurd e (by decide); exact h4 e), if_neg h4]
    · rw [if_neg h3, if_pos (show x.form ≠ 2 ∧ x.form ≠ 3 from ⟨h2, h3⟩), if_pos (Or.inr (Or.inl rfl))]
/-- The rules of a kind as the code hands them over. -/
def RuV (w : World) (v : Value) (k : Int) : Prop := (goodK k = true ∧ ∃ b, v = .map (some b) ∧ RuM w b k) ∨ (goodK k = false ∧ v = .map none)
theorem RuV.look {w : World} {v : Value} {k : Int} (h : RuV w v k) (s : ByteArray) (hs : s.size ≤ maxLen) : (Instr.lookup 50 v (.string s) false).run Tryd.prog w = .ok (ruC (knownL k s.data.toList)).1 w := by
  rcases h with ⟨_, b, rfl, h⟩ | ⟨h, rfl⟩
  · rw [← rv_known]; exact h.look s hs
  · rw [known_good _ h]
    have := Maps.look_nil (w := w) false (Maps.string_keyed Tryd.underlying9) Tryd.underlying50 (rz_zero w) (WideMaps.keyOf_string_mk Tryd.underlying9 hs)
    exact this
theorem rules_of (k : Int) (w : World) : Calls Tryd.prog 27 #[.int .i64 k] w fun e w' => (∃ v, e = .returned v ∧ RuV w' v k) ∧ Below w.heap.size w w' := by
  cases h : goodK k with
  | true => exact (rules_yes k w h).mono fun _ _ ⟨⟨b, h1, h2⟩, h3⟩ => ⟨⟨_, h1, Or.inl ⟨h, b, rfl, h2⟩⟩, h3⟩
  | false => exact (rules_no k w h).mono fun _ _ ⟨h1, h3⟩ => ⟨⟨_, h1, Or.inr ⟨h, rfl⟩⟩, h3⟩
/-- A block of a rule. -/
def Own5 (W : World) (g : Nat) (u lo hi us : Int) (f : Value) : Prop := W.cell? ⟨g, 0, none⟩ = some (.int .i64 u) ∧ W.cell? ⟨g, 1, none⟩ = some (.int .i64 lo) ∧ W.cell? ⟨g, 2, none⟩ = some (.int .i64 hi) ∧ W.cell? ⟨g, 3, none⟩ = some (.int .i64 us) ∧ W.cell? ⟨g, 4, none⟩ = some f
theorem own5_of {W : World} {g : Nat} {u lo hi us : Int} {f : Value} {t : TypeId} (h : W.heap[g]? = some (.cells #[.int .i64 u, .int .i64 lo, .int .i64 hi, .int .i64 us, f] t (0, 0))) : Own5 W g u lo hi us f := by
  refine ⟨?_, ?_, ?_, ?_, ?_⟩ <;> simp [World.cell?, h]
theorem Own5.keep {w1 w2 : World} {b : Nat} {u lo hi us : Int} {f : Value} (h : Own5 w1 b u lo hi us f) (h2 : Below w1.heap.size w1 w2) : Own5 w2 b u lo hi us f :=
  ⟨cell_keep h2 h.1, cell_keep h2 h.2.1, cell_keep h2 h.2.2.1, cell_keep h2 h.2.2.2.1, cell_keep h2 h.2.2.2.2⟩
theorem getL_val : ∀ {l : List Pr} {k q : List UInt8}, getL l k = (q, true) → ∃ a ∈ l, a.2 = q
  | [], k, q, h => by unfold getL at h; cases h
  | a :: t, k, q, h => by
    unfold getL at h
    split at h
    · obtain ⟨b, hb, e⟩ := getL_val h
      exact ⟨b, List.mem_cons_of_mem _ hb, e⟩
    · split at h
      · cases h; exact ⟨a, List.mem_cons_self, rfl⟩
      · cases h
theorem prs_bnd2 {w : World} {v : Value} {l : List Pr} (h : Prs w v l) : Bnd l := by
  obtain ⟨ao, cap, rfl, h1, h2, h3⟩ := h
  intro r hr
  obtain ⟨i, hi, rfl⟩ := List.mem_iff_getElem.1 hr
  obtain ⟨A, _, h4⟩ := h3 (by omega)
  exact (h4 i hi).2.2
/-- What Number answers, by the code's rule. -/
theorem num_C (k : Int) (l : List Pr) (c : List UInt8) : numL k l c = if (getL l c).2 = false then (knownL k c).normal else if (numC (ruU (knownL k c)) (knownL k c).low (knownL k c).high (getL l c).1).2 then (numC (ruU (knownL k c)) (knownL k c).low (knownL k c).high (getL l c).1).1 else (knownL k c).normal := by
  rw [numC_val]
  unfold numL
  by_cases h : (knownL k c).form ≠ 2 ∧ (knownL k c).form ≠ 3
  · rw [if_pos h, if_pos h, (known_zero k c h.1 h.2).2.2]
    split <;> simp
  · rw [if_neg h, if_neg h]
set_option maxRecDepth 100000 in
set_option maxHeartbeats 8000000 in
theorem num10_of (k : Int) (v : Value) (l : List Pr) (s : ByteArray) (n : Int) (w : World) (h : Hid (Prs w v l)) (hl : l.length ≤ 60) (hs : s.size ≤ maxLen) (hn : Hid (numL k l s.data.toList = n)) :
    Calls Tryd.prog 20 #[.int .i64 k, v, .string s] w fun e w' => e = .returned (.int .i64 n) ∧ Below w.heap.size w w' := by
  have hb := prs_bnd2 h.out
  obtain ⟨ao, cap, rfl, _, _, _⟩ := id h.out
  have hn2 := hn.out
  rw [num_C] at hn2
  have hu := ruU_of (knownL k s.data.toList)
  have hf := ruF_of (knownL k s.data.toList)
  have HRUN : Hid (∀ W rv, RuV W rv k → (Instr.lookup 50 rv (.string s) false).run Tryd.prog W = .ok (ruC (knownL k s.data.toList)).1 W) := Lib.hid (fun W rv hr => hr.look s hs)
  unfold ruC RV at HRUN
  generalize knownL k s.data.toList = x at hn2 hu hf HRUN
  obtain ⟨u, hU⟩ : ∃ u, ruU x = u := ⟨_, rfl⟩
  obtain ⟨f, hF⟩ : ∃ f, ruF x = f := ⟨_, rfl⟩
  rw [hU] at hn2 hu HRUN
  rw [hF] at hf HRUN
  obtain ⟨q, r, hg⟩ : ∃ q r, getL l s.data.toList = (q, r) := ⟨_, _, rfl⟩
  have HG := Lib.hid hg
  have hq : r = true → (bb q).size ≤ maxLen := by
    intro hr
    subst hr
    obtain ⟨a, ha, hk⟩ := getL_val hg
    rw [bb_len, ← hk]
    exact (hb a ha).2
  rw [hg] at hn2
  simp only at hn2
  obtain ⟨m, ok, hm⟩ : ∃ m ok, numC u x.low x.high q = (m, ok) := ⟨_, _, rfl⟩
  have HM : Hid (numC u x.low x.high (bb q).data.toList = (m, ok)) := Lib.hid hm
  rw [hm] at hn2
  simp only at hn2
  obtain ⟨f0, lo, hi, us⟩ := x
  simp only at hn2 HM HRUN
  have HN := Lib.hid hn2
  have HU := Lib.hid hu
  have HQ := Lib.hid hq
  clear hn2 hu hg hm hU hF hb hn hq
  simp only [fTx, fPo, fMo] at hf
  rcases hf with rfl | rfl | rfl | rfl
  all_goals
    go_enter Tryd.func20, Tryd.ntmps20
    go_wp2_with fail
    refine (rules_of k w).mono ?_
    rintro e w1 ⟨⟨rv, rfl, hrv⟩, hb1⟩
    have hrun := HRUN.out w1 rv hrv
    have HRV := Lib.hid hrv
    have h1 := Lib.hid (h.out.keep hb1)
    have HB1 := Lib.hid hb1
    clear hrv hb1
    go_wp2_with fail
    generalize hw2 : w1.alloc _ = w2
    have o5 : Own5 w2 w1.heap.size u lo hi us _ := own5_of (by rw [← hw2]; exact heap_alloc_new w1 _)
    have hb2 : Below w1.heap.size w1 w2 := by rw [← hw2]; exact al1 ..
    have h2 := Lib.hid (h1.out.keep hb2)
    have HB2 := Lib.hid (below_keep hb2 HB1.out)
    clear hw2 hb2 hrun h1 HB1 HRV
    refine (get_of _ l s q r w2 h2 hl HG).mono ?_
    rintro e w3 ⟨rfl, hb3⟩
    obtain ⟨c0, c1, c2, c3, c4⟩ := o5.keep hb3
    have HB3 := Lib.hid (below_keep hb3 HB2.out)
    clear hb3 HB2 h2 o5
    cases r
    · obtain rfl : us = n := by have := HN.out; simpa using this
      go_wp2
      go_ret
      exact ⟨rfl, HB3.out⟩
    · go_wp2_with fail
      refine (number_of u lo hi us _ (bb q) m ok w3 (by simpa using HQ.out) HU.out HM).mono ?_
      rintro e w4 ⟨rfl, hb4⟩
      have d3 := cell_keep hb4 c3
      have HB4 := Lib.hid (below_keep hb4 HB3.out)
      clear hb4 HB3 c0 c1 c2 c3 c4
      cases ok
      · obtain rfl : us = n := by have := HN.out; simpa using this
        go_wp2
        go_ret
        exact ⟨rfl, HB4.out⟩
      · obtain rfl : m = n := by have := HN.out; simpa using this
        go_wp2
        go_ret
        exact ⟨rfl, HB4.out⟩
end Go.Proofs.YthcglcnhdgeaeaaDoor.att
