/-
  The walks of AttrsChecks and AttrsAccepted over the premise AttOk. Condition: short texts where few lets the list by.
-/
import Derived.Test.YthcglcnhdgeaeaaDoorMAw
import Derived.Test.YthcglcnhdgeaeaaDoorRefText
import Derived.Deep.RegionHeld3
namespace Go.Proofs.YthcglcnhdgeaeaaDoor.att
open Go.RowKit lex tre

/-- A key whose values are numbers is short. -/
theorem known_len {k : Int} {c : List UInt8} (h : (knownL k c).form = 2 ∨ (knownL k c).form = 3) : c.length ≤ 1000 := by
  have hz : ∀ x : Ru, x = ⟨0, 0, 0, 0⟩ → ¬ (x.form = 2 ∨ x.form = 3) := by intro x e; subst e; decide
  unfold knownL at h
  split at h
  · unfold ruN at h
    repeat' split at h
    all_goals first | (rename_i e; rw [e]; decide) | exact absurd h (hz _ rfl)
  · split at h
    · unfold ruE at h
      repeat' split at h
      all_goals first | (rename_i e; rw [e]; decide) | exact absurd h (hz _ rfl)
    · split at h
      · unfold ruS at h
        repeat' split at h
        all_goals first | (rename_i e; rw [e]; decide) | exact absurd h (hz _ rfl)
      · exact absurd h (hz _ rfl)
theorem two_drew {W w : World} {p q : Addr} {x y : Value} (h : Below W.heap.size W w ∧ w.cell? p = some x ∧ w.cell? q = some y) : Below W.heap.size W w.drew ∧ w.drew.cell? p = some x ∧ w.drew.cell? q = some y := ⟨h.1.drew, h.2⟩
theorem two_keep {W w w' : World} {p q : Addr} {x y : Value} (h : Below W.heap.size W w ∧ w.cell? p = some x ∧ w.cell? q = some y) (hb : Below w.heap.size w w') : Below W.heap.size W w' ∧ w'.cell? p = some x ∧ w'.cell? q = some y := ⟨below_keep hb h.1, cell_later' hb h.2.1, cell_later' hb h.2.2⟩
theorem two_b {P Q R : Prop} (h : P ∧ Q ∧ R) : P := h.1
set_option maxRecDepth 100000 in
set_option maxHeartbeats 8000000 in
theorem wchk10 (C : AttOk) (k : Int) (v : Value) (l : List Pr) (w : World) (hl : Hid (Prs w v l)) (hsm : Hid (fewV l = true → Small l)) (hMX : Hid (Mx w)) :
    Calls Tryd.prog 3 #[.int .i64 k, v] w fun e w' => e = .returned (.bool true) ∧ Below w.heap.size w w' := by
  obtain ⟨ao, cap, rfl, hc, hm, _⟩ := id hl.out
  unfold maxLen at hm
  have hlm : l.length ≤ 9223372036854775807 := by omega
  clear hc hm
  obtain ⟨f1, hf1⟩ : ∃ b, fewV l = b := ⟨_, rfl⟩
  have HF1 := Lib.hid hf1
  clear hf1
  cases f1
  · go_enter Tryd.func3, Tryd.ntmps3
    go_wp2_with fail
    refine (rfew_of _ l false w hl HF1).mono ?_
    rintro e w1 ⟨rfl, hb1⟩
    go_wp2_with fail
    refine (awk10 C w1 (mxh hMX (by first | exact Below.refl _ _ | assumption))).mono ?_
    rintro e w2 ⟨rfl, hb2⟩
    go_wp2
    go_ret
    exact ⟨rfl, below_keep hb2 hb1⟩
  have h1 := few_len HF1.out
  have HS := Lib.hid (hsm.out HF1.out)
  have HS2 : Hid (∀ r ∈ l, r.2.length ≤ 20000) := Lib.hid fun r hr => by have := (HS.out r hr).2; omega
  obtain ⟨ea, hea⟩ : ∃ n, chkL k l = n := ⟨_, rfl⟩
  have HEa := Lib.hid hea
  clear hea
  have hmx : Tryd.prog.follows .mixedOrders = true := by kernel_rfl
  go_enter Tryd.func3, Tryd.ntmps3
  go_wp2_with fail
  refine (rfew_of _ l true w hl HF1).mono ?_
  rintro e w1 ⟨rfl, hb1⟩
  have HB1 := Lib.hid hb1
  have HL1 := Lib.hid (hl.out.keep hb1)
  clear hb1
  go_wp2_with fail
  go_loopw [5] (fun iv wr => ∃ i : Nat, iv = .int .i64 i ∧ i ≤ l.length ∧ Below w1.heap.size w1 wr) (fun iv _ => l.length - (intOf iv).toNat)
  case atStart => exact ⟨0, rfl, Nat.zero_le _, Below.refl _ _⟩
  case round =>
    obtain ⟨i, rfl, hi, hbl⟩ := hrel
    rename World => wr
    have HBl := Lib.hid hbl
    clear hbl
    by_cases hlt : i < l.length
    case neg =>
      obtain rfl : i = l.length := by omega
      have HLr := Lib.hid (HL1.out.keep HBl.out)
      have HBr := Lib.hid (below_keep HBl.out HB1.out)
      go_wp2_with fail
      refine (C.checkAll k _ l ea wr (mxh hMX (by first | exact Below.refl _ _ | assumption)) HLr h1 HS HEa).mono ?_
      rintro e w3 ⟨rfl, hb3⟩
      have HB3 := Lib.hid (below_keep hb3 HBr.out)
      have HL3 := Lib.hid (HLr.out.keep hb3)
      clear hb3
      go_wp2_with fail
      refine (rchkall_of k _ l ea w3 HL3 HS2 HEa).mono ?_
      rintro e w4 ⟨rfl, hb4⟩
      have HB4 := Lib.hid (below_keep hb4 HB3.out)
      clear hb4
      go_wp2_with fail
      refine (awk10 C w4 (mxh hMX (by first | exact Below.refl _ _ | assumption))).mono ?_
      rintro e w5 ⟨rfl, hb5⟩
      have HB5 := Lib.hid (below_keep hb5 HB4.out)
      clear hb5
      go_wp2
      go_ret
      exact ⟨ret_bool (by simp), HB5.out⟩
    obtain ⟨A, rfl, q0, q1, -, -⟩ := (HL1.out.keep HBl.out).get hlt
    have hu := HS.out l[i] (List.getElem_mem hlt)
    obtain ⟨u, hue⟩ : ∃ u, l[i] = u := ⟨_, rfl⟩
    rw [hue] at q0 q1 hu
    obtain ⟨u1, u2⟩ := u
    simp only at q0 q1 hu
    obtain ⟨hu1, hu2⟩ := hu
    have hu3 : u2.length ≤ 20000 := by omega
    have i0 : (0 : Int) ≤ (i : Int) := by omega
    have i1 : (i : Int) < (l.length : Int) := by omega
    obtain ⟨ce, hce⟩ : ∃ n, checkL k (u1, u2) = n := ⟨_, rfl⟩
    have HCE := Lib.hid hce
    clear hue hce
    have hP0 : Below wr.heap.size wr wr ∧ wr.cell? (A.add (i * 2)) = some (.string (bb u1)) ∧ wr.cell? ⟨(A.add (i * 2)).block, (A.add (i * 2)).off + 1, none⟩ = some (.string (bb u2)) := ⟨Below.refl _ _, q0, q1⟩
    go_wp2_with fail
    have hMr := mxh hMX (below_keep HBl.out HB1.out)
    go_upto_block 1 with (fail)
    go_region_held3 (fun w' => Below wr.heap.size wr w' ∧ w'.cell? (A.add (i * 2)) = some (.string (bb u1)) ∧ w'.cell? ⟨(A.add (i * 2)).block, (A.add (i * 2)).off + 1, none⟩ = some (.string (bb u2)))
      (first | assumption | (with_reducible refine two_drew ?_; assumption))
      (first
      | (go_at_call 11; refine (C.check k (u1, u2) ce _ (mxh hMr (two_b (by assumption))) hu1 hu2 HCE).mono ?_; rintro e w6 ⟨rfl, hb6⟩; have hP := two_keep (by assumption) hb6)
      | (go_at_call 12; refine (rcheck_of k (u1, u2) ce _ hu3 HCE).mono ?_; rintro e w6 ⟨rfl, hb6⟩; have hP := two_keep (by assumption) hb6))
    all_goals
      have HB6 := Lib.hid (below_keep hP.1 HBl.out)
      clear hP0 hP q0 q1
      go_wp2
      go_roundw
      case rel => exact ⟨i + 1, by go_num, by omega, HB6.out⟩
      case measure => simp [intOf]; omega
set_option maxRecDepth 100000 in
set_option maxHeartbeats 8000000 in
theorem wacc10 (C : AttOk) (k : Int) (v : Value) (l : List Pr) (s : ByteArray) (hs : s.size ≤ maxLen) (w : World) (hl : Hid (Prs w v l)) (hMX : Hid (Mx w)) :
    Calls Tryd.prog 8 #[.int .i64 k, v, .string s] w fun e w' => e = .returned (.bool true) ∧ Below w.heap.size w w' := by
  obtain ⟨f, lo, hi, no, hx⟩ : ∃ f lo hi no, knownL k s.data.toList = ⟨f, lo, hi, no⟩ := ⟨_, _, _, _, rfl⟩
  have HX := Lib.hid hx
  obtain ⟨f1, hf1⟩ : ∃ b, fewV l = b := ⟨_, rfl⟩
  have HF1 := Lib.hid hf1
  clear hf1
  cases f1
  · clear hx
    go_enter Tryd.func8, Tryd.ntmps8
    go_wp2_with fail
    refine (rknown_at k s f lo hi no w HX).mono ?_
    rintro e w1 ⟨rfl, hb1⟩
    have hal := al1 w1 (.cells #[.int .i64 f, .int .i64 lo, .int .i64 hi, .int .i64 no] 45)
    have HB2 := Lib.hid (below_keep hal hb1)
    have HL2 := Lib.hid ((hl.out.keep hb1).keep hal)
    clear hal hb1
    go_wp2_with fail
    generalize w1.alloc (.cells #[.int .i64 f, .int .i64 lo, .int .i64 hi, .int .i64 no] 45) = w2 at HB2 HL2 ⊢
    refine (rfew_of _ l false w2 HL2 HF1).mono ?_
    rintro e w3 ⟨rfl, hb3⟩
    have HB3 := Lib.hid (below_keep hb3 HB2.out)
    clear hb3
    go_wp2_with fail
    refine (awk10 C w3 (mxh hMX (by first | exact Below.refl _ _ | assumption))).mono ?_
    rintro e w4 ⟨rfl, hb4⟩
    have HB4 := Lib.hid (below_keep hb4 HB3.out)
    clear hb4
    go_wp2
    go_ret
    exact ⟨rfl, HB4.out⟩
  by_cases hf : f ≠ 2 ∧ f ≠ 3
  · have b2 : (f != 2) = true := by rw [bne_iff_ne]; exact hf.1
    have b3 : (f != 3) = true := by rw [bne_iff_ne]; exact hf.2
    clear hf hx
    go_enter Tryd.func8, Tryd.ntmps8
    go_wp2_with fail
    refine (rknown_at k s f lo hi no w HX).mono ?_
    rintro e w1 ⟨rfl, hb1⟩
    have hal := al1 w1 (.cells #[.int .i64 f, .int .i64 lo, .int .i64 hi, .int .i64 no] 45)
    have HB2 := Lib.hid (below_keep hal hb1)
    have HL2 := Lib.hid ((hl.out.keep hb1).keep hal)
    have HK2 : Hid (ruB (w1.alloc (.cells #[.int .i64 f, .int .i64 lo, .int .i64 hi, .int .i64 no] 45)) w1.heap.size f lo hi no) := Lib.hid (blk_new w1 _ _)
    clear hal hb1
    go_wp2_with fail
    generalize w1.alloc (.cells #[.int .i64 f, .int .i64 lo, .int .i64 hi, .int .i64 no] 45) = w2 at HB2 HL2 HK2 ⊢
    generalize w1.heap.size = G at HK2 ⊢
    refine (rfew_of _ l true w2 HL2 HF1).mono ?_
    rintro e w3 ⟨rfl, hb3⟩
    have HB3 := Lib.hid (below_keep hb3 HB2.out)
    have HK3 : Hid (ruB w3 G f lo hi no) := Lib.hid (blk_below HK2.out hb3)
    clear hb3
    obtain ⟨c0, c1, c2, c3, -, -, -, -⟩ := HK3.out.cells
    go_wp2_with fail
    refine (awk10 C w3 (mxh hMX (by first | exact Below.refl _ _ | assumption))).mono ?_
    rintro e w4 ⟨rfl, hb4⟩
    have HB4 := Lib.hid (below_keep hb4 HB3.out)
    clear hb4
    go_wp2
    go_ret
    exact ⟨rfl, HB4.out⟩
  have hf23 : f = 2 ∨ f = 3 := by
    by_cases e : f = 2
    · exact Or.inl e
    · by_cases e3 : f = 3
      · exact Or.inr e3
      · exact absurd ⟨e, e3⟩ hf
  have h1 := few_len HF1.out
  have hok := num_ok k l s.data.toList (by rw [hx]; exact hf23)
  rw [hx] at hok
  simp only at hok
  obtain ⟨n, hn⟩ : ∃ n, numL k l s.data.toList = n := ⟨_, rfl⟩
  rw [hn] at hok
  have HN := Lib.hid hn
  obtain ⟨n0, n1, n2, hck⟩ := hok
  have hkey : s.data.toList.length ≤ 1000 := known_len (by rw [hx]; exact hf23)
  clear hf hn hx
  rcases hf23 with rfl | rfl
  · rw [if_neg (by decide)] at hck
    have HCK : Hid (checkL k (s.data.toList, fmtL n) = 0) := Lib.hid hck
    have hfl : (fmtL n).length ≤ 1000 := by have := fmtL_le n (by omega) (by omega); omega
    have a0 : decide (n < 0) = false := by simp; omega
    have a1 : decide (1048576 < n) = false := by simp; omega
    clear hck n2
    go_enter Tryd.func8, Tryd.ntmps8
    go_wp2_with fail
    refine (rknown_at k s 2 lo hi no w HX).mono ?_
    rintro e w1 ⟨rfl, hb1⟩
    have hal := al1 w1 (.cells #[.int .i64 2, .int .i64 lo, .int .i64 hi, .int .i64 no] 45)
    have HB2 := Lib.hid (below_keep hal hb1)
    have HL2 := Lib.hid ((hl.out.keep hb1).keep hal)
    have HK2 : Hid (ruB (w1.alloc (.cells #[.int .i64 2, .int .i64 lo, .int .i64 hi, .int .i64 no] 45)) w1.heap.size 2 lo hi no) := Lib.hid (blk_new w1 _ _)
    clear hal hb1
    go_wp2_with fail
    generalize w1.alloc (.cells #[.int .i64 2, .int .i64 lo, .int .i64 hi, .int .i64 no] 45) = w2 at HB2 HL2 HK2 ⊢
    generalize w1.heap.size = G at HK2 ⊢
    refine (rfew_of _ l true w2 HL2 HF1).mono ?_
    rintro e w3 ⟨rfl, hb3⟩
    have HB3 := Lib.hid (below_keep hb3 HB2.out)
    have HL3 := Lib.hid (HL2.out.keep hb3)
    have HK3 : Hid (ruB w3 G 2 lo hi no) := Lib.hid (blk_below HK2.out hb3)
    clear hb3 HK2 HL2
    obtain ⟨c0, c1, c2, c3, -, -, -, -⟩ := HK3.out.cells
    go_wp2_with fail
    refine (C.number k v l s n w3 HL3 h1 hs HN).mono ?_
    rintro e w4 ⟨rfl, hb4⟩
    have HB4 := Lib.hid (below_keep hb4 HB3.out)
    have HK4 : Hid (ruB w4 G 2 lo hi no) := Lib.hid (blk_below HK3.out hb4)
    clear hb4 c0 c1 c2 c3 HK3 HL3
    obtain ⟨c0, c1, c2, c3, -, -, -, -⟩ := HK4.out.cells
    go_wp2_with fail
    refine (refFormat_any n w4 (by omega) (by omega)).mono ?_
    rintro e w5 ⟨rfl, rfl⟩
    go_wp2_with fail
    have hcc := C.check k (s.data.toList, fmtL n) 0 w4 (mxh hMX (by first | exact Below.refl _ _ | assumption)) hkey hfl HCK
    rw [show bb s.data.toList = s by simp [bb]] at hcc
    refine hcc.mono ?_
    rintro e w6 ⟨rfl, hb6⟩
    have HB6 := Lib.hid (below_keep hb6 HB4.out)
    clear hb6
    go_wp2_with fail
    refine (awk10 C w6 (mxh hMX (by first | exact Below.refl _ _ | assumption))).mono ?_
    rintro e w7 ⟨rfl, hb7⟩
    have HB7 := Lib.hid (below_keep hb7 HB6.out)
    clear hb7
    go_wp2
    go_ret
    exact ⟨ret_bool (by simp), HB7.out⟩
  · rw [if_pos rfl] at hck
    have n3 := n2 rfl
    have HCK : Hid (checkL k (s.data.toList, fmtL (1000 * n)) = 0) := Lib.hid hck
    have hfl : (fmtL (1000 * n)).length ≤ 1000 := by have := fmtL_le (1000 * n) (by omega) (by omega); omega
    have a0 : decide (n < 0) = false := by simp; omega
    have a1 : decide (1048576 < n) = false := by simp; omega
    have a2 : IntKind.i64.wrap (1000 * n) = 1000 * n := IntWalk.i64_in _ (by omega)
    clear hck n2
    go_enter Tryd.func8, Tryd.ntmps8
    go_wp2_with fail
    refine (rknown_at k s 3 lo hi no w HX).mono ?_
    rintro e w1 ⟨rfl, hb1⟩
    have hal := al1 w1 (.cells #[.int .i64 3, .int .i64 lo, .int .i64 hi, .int .i64 no] 45)
    have HB2 := Lib.hid (below_keep hal hb1)
    have HL2 := Lib.hid ((hl.out.keep hb1).keep hal)
    have HK2 : Hid (ruB (w1.alloc (.cells #[.int .i64 3, .int .i64 lo, .int .i64 hi, .int .i64 no] 45)) w1.heap.size 3 lo hi no) := Lib.hid (blk_new w1 _ _)
    clear hal hb1
    go_wp2_with fail
    generalize w1.alloc (.cells #[.int .i64 3, .int .i64 lo, .int .i64 hi, .int .i64 no] 45) = w2 at HB2 HL2 HK2 ⊢
    generalize w1.heap.size = G at HK2 ⊢
    refine (rfew_of _ l true w2 HL2 HF1).mono ?_
    rintro e w3 ⟨rfl, hb3⟩
    have HB3 := Lib.hid (below_keep hb3 HB2.out)
    have HL3 := Lib.hid (HL2.out.keep hb3)
    have HK3 : Hid (ruB w3 G 3 lo hi no) := Lib.hid (blk_below HK2.out hb3)
    clear hb3 HK2 HL2
    obtain ⟨c0, c1, c2, c3, -, -, -, -⟩ := HK3.out.cells
    go_wp2_with fail
    refine (C.number k v l s n w3 HL3 h1 hs HN).mono ?_
    rintro e w4 ⟨rfl, hb4⟩
    have HB4 := Lib.hid (below_keep hb4 HB3.out)
    have HK4 : Hid (ruB w4 G 3 lo hi no) := Lib.hid (blk_below HK3.out hb4)
    clear hb4 c0 c1 c2 c3 HK3 HL3
    obtain ⟨c0, c1, c2, c3, -, -, -, -⟩ := HK4.out.cells
    go_wp2_with fail
    refine (refFormat_any (1000 * n) w4 (by omega) (by omega)).mono ?_
    rintro e w5 ⟨rfl, rfl⟩
    go_wp2_with fail
    have hcc := C.check k (s.data.toList, fmtL (1000 * n)) 0 w4 (mxh hMX (by first | exact Below.refl _ _ | assumption)) hkey hfl HCK
    rw [show bb s.data.toList = s by simp [bb]] at hcc
    refine hcc.mono ?_
    rintro e w6 ⟨rfl, hb6⟩
    have HB6 := Lib.hid (below_keep hb6 HB4.out)
    clear hb6
    go_wp2_with fail
    refine (awk10 C w6 (mxh hMX (by first | exact Below.refl _ _ | assumption))).mono ?_
    rintro e w7 ⟨rfl, hb7⟩
    have HB7 := Lib.hid (below_keep hb7 HB6.out)
    clear hb7
    go_wp2
    go_ret
    exact ⟨ret_bool (by simp), HB7.out⟩
end Go.Proofs.YthcglcnhdgeaeaaDoor.att
