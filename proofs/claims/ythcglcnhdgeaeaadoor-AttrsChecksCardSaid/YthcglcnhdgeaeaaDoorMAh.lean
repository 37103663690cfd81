/-
  What lists ports is a text, and what the code's rules accept is what the chapter's do. No function of the program is named here; no condition.
  What accepts, Check and CheckAll of the landed code answer. Condition: the length of texts and lists; that the library's variable MaxLen holds a number.
  What CheckAll of the landed code answers. Condition: the length of texts and lists; that the library's variable MaxLen holds a number.
-/
import Derived.Test.YthcglcnhdgeaeaaDoorMAb
import Derived.Test.YthcglcnhdgeaeaaDoorMAo
namespace Go.Proofs.YthcglcnhdgeaeaaDoor.att
open Go.RowKit lex tre

theorem wd_pl {c : UInt8} (h : isWd c = true) : isPl c = true := by
  unfold isWd isLet isDgt at h
  unfold isPl
  simp only [Bool.or_eq_true, decide_eq_true_eq] at *
  omega
theorem tw_mem (p : UInt8 → Bool) : ∀ (t : List UInt8) (x : UInt8), x ∈ t.takeWhile p → p x = true
  | [], _, h => (nomatch h)
  | c :: t, x, h => by
    rw [List.takeWhile_cons] at h
    cases hc : p c with
    | true =>
      rw [hc] at h
      rcases List.mem_cons.1 h with rfl | h
      · exact hc
      · exact tw_mem p t x h
    | false => rw [hc] at h; exact nomatch h
theorem nm_pl {n : List UInt8} (h : isNm n = true) : n.all isPl = true := by
  unfold isNm at h
  simp only [Bool.and_eq_true, decide_eq_true_eq] at h
  obtain ⟨⟨⟨_, hw⟩, _⟩, _⟩ := h
  cases n with
  | nil => rfl
  | cons c t =>
    have hw' : (if isLet c then (t.takeWhile isWd).length + 1 else 0) = t.length + 1 := hw
    by_cases hc : isLet c = true
    · rw [if_pos hc] at hw'
      have ht : t.takeWhile isWd = t := (List.takeWhile_prefix _).eq_of_length (by omega)
      rw [List.all_cons, Bool.and_eq_true]
      refine ⟨wd_pl (show (isLet c || isDgt c) = true by rw [hc]; rfl), ?_⟩
      rw [List.all_eq_true]
      intro x hx
      rw [← ht] at hx
      exact wd_pl (tw_mem isWd t x hx)
    · rw [if_neg hc] at hw'; omega
theorem side_pl {r : List UInt8} (h : ¬ sideL r < 0) : r.all isPl = true := by
  unfold sideL sides at h
  simp only [idxA] at h
  split at h
  · rename_i e; rw [← e]; decide
  · split at h
    · rename_i e; rw [← e]; decide
    · split at h
      · rename_i e; rw [← e]; decide
      · split at h
        · rename_i e; rw [← e]; decide
        · exact absurd (by decide) h
theorem part_pl {s : List UInt8} (h : (partL s).1 = 0) : s.all isPl = true := by
  unfold partL gapL at h
  by_cases hg : (s.takeWhile (· ≠ 32)).length < s.length
  · rw [if_pos hg] at h
    simp only at h
    by_cases hsd : sideL (s.drop ((s.takeWhile (· ≠ 32)).length + 1)) < 0
    · rw [if_pos hsd] at h; simp at h
    · rw [if_neg hsd] at h
      by_cases hn : isNm (s.takeWhile (· ≠ 32)) = false
      · rw [if_pos hn] at h; simp at h
      · have hg' : gapN s < s.length := hg
        have h1 : (s.takeWhile (· ≠ 32)).all isPl = true := nm_pl (by
          cases hq : isNm (s.takeWhile (· ≠ 32)) with
          | true => rfl
          | false => exact absurd hq hn)
        have h2 : (s.drop (gapN s + 1)).all isPl = true := side_pl hsd
        have hk := (gap_at s (gapN s) hg').2
        have h32 : s[gapN s]'hg' = 32 := Decidable.byContradiction fun e => hk e rfl
        have e1 : s = s.take (gapN s) ++ s[gapN s]'hg' :: s.drop (gapN s + 1) := by
          rw [← List.drop_eq_getElem_cons hg', List.take_append_drop]
        have e2 : s.all isPl = ((s.take (gapN s)).all isPl && (isPl (s[gapN s]'hg') && (s.drop (gapN s + 1)).all isPl)) := by
          rw [← List.all_cons, ← List.all_append, ← e1]
        rw [e2, h32, h2, gap_take, h1]
        decide
  · rw [if_neg hg] at h; simp at h
theorem parts_ok : ∀ (L : List (List UInt8)) (o : List Pt), (partsL L o).2 = 0 → ∀ s ∈ L, (partL s).1 = 0
  | [], _, _, _, h => (nomatch h)
  | p :: t, o, h, s, hs => by
    rw [parts_cons] at h
    by_cases h1 : (partL p).1 ≠ 0
    · rw [if_pos h1] at h; exact absurd h h1
    · rw [if_neg h1] at h
      have h1' := Decidable.not_not.1 h1
      split at h
      · simp at h
      · split at h
        · simp at h
        · rcases List.mem_cons.1 hs with rfl | hs
          · exact h1'
          · exact parts_ok t _ h s hs
theorem split_pl : ∀ (s c : List UInt8), (∀ p ∈ splitA c s, p.all isPl = true) → c.all isPl = true ∧ s.all isPl = true
  | [], c, h => ⟨h c (by unfold splitA; simp), rfl⟩
  | [x], c, h => by
    have := h (c ++ [x]) (by unfold splitA; simp)
    rw [List.all_append, Bool.and_eq_true] at this
    exact this
  | x :: y :: t, c, h => by
    unfold splitA at h
    by_cases hs : x = 44 ∧ y = 32
    · rw [if_pos hs] at h
      obtain ⟨rfl, rfl⟩ := hs
      have h1 := h c (by simp)
      have h2 := (split_pl t [] (fun p hp => h p (by simp [hp]))).2
      refine ⟨h1, ?_⟩
      rw [List.all_cons, List.all_cons, h2]; decide
    · rw [if_neg hs] at h
      have h1 := split_pl (y :: t) (c ++ [x]) h
      rw [List.all_append, Bool.and_eq_true] at h1
      refine ⟨h1.1.1, ?_⟩
      rw [List.all_cons, h1.2]
      simpa using h1.1.2
termination_by s => s.length
theorem ports_pl {s : List UInt8} (h : (portsL s).2 = 0) : s.all isPl = true := by
  unfold portsL at h
  by_cases hs : s = []
  · rw [hs]; rfl
  · rw [if_neg hs] at h
    exact (split_pl s [] (fun p hp => part_pl (parts_ok _ _ h p hp))).2
/-- What the code's rule accepts. -/
def accC (x : Ru) (s : List UInt8) : Bool :=
  if x.form = 1 then textL s else if x.form = 4 then textL s && decide ((portsL s).2 = 0) else if x.form = 5 then decide (0 ≤ modeL s) else (numC (ruU x) x.low x.high s).2
theorem acc_ok (k : Int) (c s : List UInt8) (h0 : (knownL k c).form ≠ 0) (h1 : ¬ ((knownL k c).form = 1 ∧ 32 < s.length)) : accC (knownL k c) s = okV (knownL k c) s := by
  unfold accC okV
  by_cases a1 : (knownL k c).form = 1
  · rw [if_pos a1, if_pos a1]
    unfold textL
    rw [decide_eq_true (show s.length ≤ 32 by by_cases hl : 32 < s.length; exact absurd ⟨a1, hl⟩ h1; omega)]; rfl
  rw [if_neg a1, if_neg a1]
  by_cases a4 : (knownL k c).form = 4
  · rw [if_pos a4, if_neg (show ¬ ((knownL k c).form = 2 ∨ (knownL k c).form = 3) by omega), if_pos a4]
    unfold textL
    by_cases hp : (portsL s).2 = 0
    · rw [ports_pl hp, decide_eq_true hp]; simp
    · rw [decide_eq_false hp]; simp
  rw [if_neg a4]
  by_cases a5 : (knownL k c).form = 5
  · rw [if_pos a5, if_neg (show ¬ ((knownL k c).form = 2 ∨ (knownL k c).form = 3) by omega), if_neg a4, if_pos a5]
  rw [if_neg a5, numC_val]
  by_cases a2 : (knownL k c).form = 2 ∨ (knownL k c).form = 3
  · rw [if_neg (show ¬ ((knownL k c).form ≠ 2 ∧ (knownL k c).form ≠ 3) by omega), if_pos a2]
  · exfalso
    have hw := known_ways k c
    simp only at hw
    omega
/-- Where a key is known, its form is a label's exactly if it is that key. -/
theorem lab_form (k : Int) (c : List UInt8) (h : (knownL k c).form ≠ 0) : (knownL k c).form = 1 ↔ c = wLabel := by
  revert h
  unfold knownL
  split
  · unfold ruN
    by_cases a : c = wLabel
    · rw [if_pos a]; simp [a]
    · rw [if_neg a]
      repeat' split
      all_goals simp [a]
  · split
    · unfold ruE
      by_cases a : c = wLabel
      · rw [if_pos a]; simp [a]
      · rw [if_neg a]
        repeat' split
        all_goals simp [a]
    · split
      · by_cases a : c = wLabel
        · rw [a]; intro h; exact absurd (by decide) h
        · unfold ruS
          repeat' split
          all_goals simp [a]
      · intro h; exact absurd rfl h
end Go.Proofs.YthcglcnhdgeaeaaDoor.att
namespace Go.Proofs.YthcglcnhdgeaeaaDoor.att
open Go.RowKit lex tre

set_option maxHeartbeats 2000000 in
theorem isports_of (s : ByteArray) (b : Bool) (w : World) (hM : Hid (Mx w)) (hs : s.size ≤ 1000) (h : Hid ((textL s.data.toList && decide ((portsL s.data.toList).2 = 0)) = b)) :
    Calls Tryd.prog 49 #[.string s] w fun e w' => e = .returned (.bool b) ∧ Below w.heap.size w w' := by
  obtain ⟨l, e0, hp⟩ : ∃ l e0, portsL s.data.toList = (l, e0) := ⟨_, _, rfl⟩
  obtain ⟨t, ht⟩ : ∃ t, textL s.data.toList = t := ⟨_, rfl⟩
  have hb := h.out
  rw [hp, ht] at hb
  have HP := Lib.hid hp
  have HT := Lib.hid ht
  have HB : Hid ((t && decide (e0 = 0)) = b) := Lib.hid hb
  have hsm : s.size ≤ maxLen := by unfold maxLen; omega
  clear hp ht hb h
  go_enter Tryd.func49, Tryd.ntmps49
  go_wp2_with fail
  refine (ports_of s l e0 w hM hs HP).mono ?_
  rintro e w1 ⟨v, rfl, -, hb1⟩
  have HB1 := Lib.hid hb1
  clear hb1
  go_wp2_with fail
  refine (istext_of s t w1 hsm HT).mono ?_
  rintro e w2 ⟨rfl, hb2⟩
  have HB2 := Lib.hid (below_keep hb2 HB1.out)
  clear hb2
  cases t
  · go_wp2
    go_ret
    exact ⟨ret_bool (by rw [← HB.out]; rfl), HB2.out⟩
  · go_wp2
    go_ret
    exact ⟨ret_bool (by rw [← HB.out]; first | rfl | (rw [Bool.eq_iff_iff]; simp)), HB2.out⟩
set_option maxRecDepth 100000 in
set_option maxHeartbeats 4000000 in
theorem acc_of (x : Ru) (s : ByteArray) (b : Bool) (w : World) (hM : Hid (Mx w)) (hs : s.size ≤ 1000) (h : Hid (accC x s.data.toList = b)) :
    Calls Tryd.prog 28 #[(ruC x).1, .string s] w fun e w' => e = .returned (.bool b) ∧ Below w.heap.size w w' := by
  have hb := h.out
  have hsm : s.size ≤ maxLen := by unfold maxLen; omega
  have hu := ruU_of x
  unfold accC at hb
  show Calls Tryd.prog 28 #[.agg #[.int .i64 (ruU x), .int .i64 x.low, .int .i64 x.high, .int .i64 x.normal, ruF x], .string s] w _
  unfold ruF
  generalize ruU x = u at hb hu ⊢
  obtain ⟨fo, lo, hi, us⟩ := x
  simp only at hb ⊢
  by_cases a1 : fo = 1
  · rw [if_pos a1] at hb ⊢
    have HB := Lib.hid hb
    clear hb h a1 hu
    unfold fTx
    have hal := al1 w (.cells #[.int .i64 u, .int .i64 lo, .int .i64 hi, .int .i64 us, .func (.func 48) #[] #[]] 53)
    have hne : ∀ W : World, Sem.run Tryd.prog (binOp BinOp.neq 42 (Value.func (Fn.func 48) #[] #[]) Value.nilFunc) W = .ok (.bool true) W := fun W => by kernel_rfl
    go_enter Tryd.func28, Tryd.ntmps28
    go_wp2_with fail
    refine (istext_of s b _ hsm HB).mono ?_
    rintro e w2 ⟨rfl, hb2⟩
    have HB2 := Lib.hid (below_keep hb2 hal)
    clear hb2 hal
    go_wp2
    go_ret
    exact ⟨rfl, HB2.out⟩
  rw [if_neg a1] at hb ⊢
  by_cases a4 : fo = 4
  · rw [if_pos a4] at hb ⊢
    have HB := Lib.hid hb
    clear hb h a1 a4 hu
    unfold fPo
    have hal := al1 w (.cells #[.int .i64 u, .int .i64 lo, .int .i64 hi, .int .i64 us, .func (.func 49) #[] #[]] 53)
    have hM1 := mxh hM hal
    have hne : ∀ W : World, Sem.run Tryd.prog (binOp BinOp.neq 42 (Value.func (Fn.func 49) #[] #[]) Value.nilFunc) W = .ok (.bool true) W := fun W => by kernel_rfl
    go_enter Tryd.func28, Tryd.ntmps28
    go_wp2_with fail
    refine (isports_of s b _ hM1 hs HB).mono ?_
    rintro e w2 ⟨rfl, hb2⟩
    have HB2 := Lib.hid (below_keep hb2 hal)
    clear hb2 hal hM1
    go_wp2
    go_ret
    exact ⟨rfl, HB2.out⟩
  rw [if_neg a4] at hb ⊢
  by_cases a5 : fo = 5
  · rw [if_pos a5] at hb ⊢
    have HB := Lib.hid hb
    clear hb h a1 a4 a5 hu
    unfold fMo
    have hal := Lib.hid (al1 w (.cells #[.int .i64 u, .int .i64 lo, .int .i64 hi, .int .i64 us, .func (.func 50) #[] #[]] 53))
    have hne : ∀ W : World, Sem.run Tryd.prog (binOp BinOp.neq 42 (Value.func (Fn.func 50) #[] #[]) Value.nilFunc) W = .ok (.bool true) W := fun W => by kernel_rfl
    go_enter Tryd.func28, Tryd.ntmps28
    go_wp2_with fail
    refine (ismode_of s b _ HB).mono ?_
    rintro e w2 ⟨rfl, rfl⟩
    go_wp2
    go_ret
    exact ⟨rfl, hal.out⟩
  rw [if_neg a5] at hb ⊢
  obtain ⟨m, ok, hm⟩ : ∃ m ok, numC u lo hi s.data.toList = (m, ok) := ⟨_, _, rfl⟩
  rw [hm] at hb
  obtain rfl : ok = b := hb
  have HM := Lib.hid hm
  have HU := Lib.hid hu
  clear h a1 a4 a5 hm hu
  have hal := al1 w (.cells #[.int .i64 u, .int .i64 lo, .int .i64 hi, .int .i64 us, .nilFunc] 53)
  have hne : ∀ W : World, Sem.run Tryd.prog (binOp BinOp.neq 42 Value.nilFunc Value.nilFunc) W = .ok (.bool false) W := fun W => by kernel_rfl
  go_enter Tryd.func28, Tryd.ntmps28
  go_wp2_with fail
  refine (number_of u lo hi us _ s m ok _ hsm HU.out HM).mono ?_
  rintro e w2 ⟨rfl, hb2⟩
  have HB2 := Lib.hid (below_keep hb2 hal)
  clear hb2 hal
  go_wp2
  go_ret
  exact ⟨rfl, HB2.out⟩
set_option maxRecDepth 100000 in
theorem check_no (k : Int) (a1 a2 : List UInt8) (w : World) (hg : goodK k = false) :
    Calls Tryd.prog 11 #[.int .i64 k, .agg #[.string (bb a1), .string (bb a2)]] w fun e w' => e = .returned (.int .i64 1) ∧ Below w.heap.size w w' := by
  have hal := al1 w (.cells #[.string (bb a1), .string (bb a2)] 28)
  have hne : ∀ W : World, Sem.run Tryd.prog (binOp BinOp.eql 50 (Value.map none) (Value.map none)) W = .ok (.bool true) W := fun W => by kernel_rfl
  go_enter Tryd.func11, Tryd.ntmps11
  go_wp2_with fail
  refine (rules_no k _ hg).mono ?_
  rintro e w1 ⟨rfl, hb1⟩
  have HB1 := Lib.hid (below_keep hb1 hal)
  clear hb1 hal
  go_wp2
  go_ret
  exact ⟨rfl, HB1.out⟩
set_option maxRecDepth 100000 in
set_option maxHeartbeats 16000000 in
theorem check_yes (k : Int) (a1 a2 : List UInt8) (e0 : Int) (w : World) (hM : Hid (Mx w)) (h1 : a1.length ≤ 1000) (h2 : a2.length ≤ 1000) (hg : goodK k = true) (h : Hid (checkL k (a1, a2) = e0)) :
    Calls Tryd.prog 11 #[.int .i64 k, .agg #[.string (bb a1), .string (bb a2)]] w fun e w' => e = .returned (.int .i64 e0) ∧ Below w.heap.size w w' := by
  have hf := ruF_of (knownL k a1)
  have h1m : (bb a1).size ≤ maxLen := by rw [bb_len]; unfold maxLen; omega
  have HRUN : Hid (∀ W b, RuM W b k → (Instr.lookup 50 (.map (some b)) (.string (bb a1)) true).run Tryd.prog W = .ok (.tuple #[(ruC (knownL k a1)).1, .bool (ruC (knownL k a1)).2]) W) := Lib.hid (fun W b hr => by
    have := hr.lookOk (bb a1) h1m
    rw [rv_known] at this
    exact this)
  obtain ⟨ab, hab⟩ : ∃ b, accC (knownL k a1) a2 = b := ⟨_, rfl⟩
  have HACC : Hid (∀ W, Mx W → Calls Tryd.prog 28 #[(ruC (knownL k a1)).1, .string (bb a2)] W fun e w' => e = .returned (.bool ab) ∧ Below W.heap.size W w') := Lib.hid (fun W hw => acc_of (knownL k a1) (bb a2) ab W (Lib.hid hw) (by rw [bb_len]; omega) (Lib.hid hab))
  have HE : Hid (e0 = if decide ((knownL k a1).form ≠ 0) = false then 5 else if decide (a1 = wLabel) = true ∧ decide (32 < a2.length) = true then 2 else if ab = true then 0 else 7) := by
    refine Lib.hid ?_
    rw [← h.out]
    unfold checkL
    rw [if_neg (by rw [hg]; decide)]
    simp only
    by_cases f0 : (knownL k a1).form = 0
    · rw [if_pos f0, if_pos (by simp [f0])]
    · rw [if_neg f0, if_neg (show ¬ decide ((knownL k a1).form ≠ 0) = false by simp [f0])]
      have hl := lab_form k a1 f0
      by_cases hc : (knownL k a1).form = 1 ∧ 32 < a2.length
      · rw [if_pos hc, if_pos ⟨by rw [decide_eq_true_eq]; exact hl.1 hc.1, by rw [decide_eq_true_eq]; exact hc.2⟩]
      · rw [if_neg hc, if_neg (show ¬ (decide (a1 = wLabel) = true ∧ decide (32 < a2.length) = true) by rw [decide_eq_true_eq, decide_eq_true_eq]; exact fun e => hc ⟨hl.2 e.1, e.2⟩), ← hab, acc_ok k a1 a2 f0 hc]
  obtain ⟨lb, hlb⟩ : ∃ b, decide (a1 = wLabel) = b := ⟨_, rfl⟩
  obtain ⟨lg, hlg⟩ : ∃ b, decide (32 < a2.length) = b := ⟨_, rfl⟩
  have bl : (a1 == [108, 97, 98, 101, 108]) = lb := by rw [← hlb, Bool.eq_iff_iff, beq_iff_eq, decide_eq_true_eq]; rfl
  have bs : decide ((32 : Int) < ((bb a2).size : Int)) = lg := by
    rw [← hlg, Bool.eq_iff_iff, bb_len, decide_eq_true_eq, decide_eq_true_eq]; omega
  have bs2 : decide ((32 : Int) < (a2.length : Int)) = lg := by
    rw [← hlg, Bool.eq_iff_iff, decide_eq_true_eq, decide_eq_true_eq]; omega
  rw [hlb, hlg] at HE
  unfold ruC RV at HRUN HACC
  generalize knownL k a1 = x at hf HRUN HACC HE
  obtain ⟨u, hU⟩ : ∃ u, ruU x = u := ⟨_, rfl⟩
  obtain ⟨f, hF⟩ : ∃ f, ruF x = f := ⟨_, rfl⟩
  rw [hU] at HRUN HACC
  rw [hF] at hf HRUN HACC
  obtain ⟨f0, lo, hi, us⟩ := x
  simp only at HRUN HACC HE
  obtain ⟨kn, hkn⟩ : ∃ b, decide (f0 ≠ 0) = b := ⟨_, rfl⟩
  rw [hkn] at HRUN HE
  simp only [fTx, fPo, fMo] at hf
  have hal := al1 w (.cells #[.string (bb a1), .string (bb a2)] 28)
  have hM1 := mxh hM hal
  have o2 := own2_new w (.string (bb a1)) (.string (bb a2)) 28
  clear hab hU hF h h1 h2 h1m hlb hlg hkn hM
  generalize hw0 : w.alloc (.cells #[.string (bb a1), .string (bb a2)] 28) = w0 at hal hM1 o2
  have hne : ∀ (W : World) (b : Nat), Sem.run Tryd.prog (binOp BinOp.eql 50 (Value.map (some b)) (Value.map none)) W = .ok (.bool false) W := fun W b => by kernel_rfl
  rcases hf with rfl | rfl | rfl | rfl
  all_goals
    go_enter Tryd.func11, Tryd.ntmps11
    go_wp2_with fail
    refine (rules_yes k w0 hg).mono ?_
    rintro e w1 ⟨⟨b, rfl, hrv⟩, hb1⟩
    have hrun := HRUN.out w1 b hrv
    have hM2 := mxh hM1 hb1
    obtain ⟨c0, c1, _, _⟩ := o2.keep hb1
    have HB1 := Lib.hid (below_keep hb1 hal)
    have hz1 : w.heap.size < w1.heap.size := by
      have h1 := hb1.size
      have h2 : w0.heap.size = w.heap.size + 1 := by rw [← hw0]; simp
      omega
    clear hrv hb1 hw0 hal hM1 o2
    cases kn
    · go_wp2
      go_ret
      exact ⟨ret_int (by rw [HE.out]; rfl), below_keep (al1 ..) HB1.out⟩
    · cases lb
      case false =>
        go_wp2_with fail
        refine (HACC.out _ (hM2.out.keep (al1 ..))).mono ?_
        rintro e w3 ⟨rfl, hb3⟩
        have HB3 := Lib.hid (below_keep hb3 (below_keep (al1 ..) HB1.out))
        clear hb3
        cases ab
        · go_wp2
          go_ret
          exact ⟨ret_int (by rw [HE.out]; rfl), HB3.out⟩
        · go_wp2
          go_ret
          exact ⟨ret_int (by rw [HE.out]; rfl), HB3.out⟩
      case true =>
        cases lg
        case true =>
          go_wp2
          go_ret
          exact ⟨ret_int (by rw [HE.out]; rfl), below_keep (al1 ..) HB1.out⟩
        case false =>
          go_wp2_with fail
          refine (HACC.out _ (hM2.out.keep (al1 ..))).mono ?_
          rintro e w3 ⟨rfl, hb3⟩
          have HB3 := Lib.hid (below_keep hb3 (below_keep (al1 ..) HB1.out))
          clear hb3
          cases ab
          · go_wp2
            go_ret
            exact ⟨ret_int (by rw [HE.out]; rfl), HB3.out⟩
          · go_wp2
            go_ret
            exact ⟨ret_int (by rw [HE.out]; rfl), HB3.out⟩
theorem check10_of (k : Int) (a : Pr) (e0 : Int) (w : World) (hM : Hid (Mx w)) (h1 : a.1.length ≤ 1000) (h2 : a.2.length ≤ 1000) (h : Hid (checkL k a = e0)) :
    Calls Tryd.prog 11 #[.int .i64 k, .agg #[.string (bb a.1), .string (bb a.2)]] w fun e w' => e = .returned (.int .i64 e0) ∧ Below w.heap.size w w' := by
  cases hg : goodK k with
  | true => exact check_yes k a.1 a.2 e0 w hM h1 h2 hg h
  | false =>
    have := h.out
    unfold checkL at this
    rw [if_pos hg] at this
    subst this
    exact check_no k a.1 a.2 w hg
end Go.Proofs.YthcglcnhdgeaeaaDoor.att
namespace Go.Proofs.YthcglcnhdgeaeaaDoor.att
open Go.RowKit lex tre

theorem getL_any : ∀ (l : List Pr) (k : List UInt8), (getL l k).2 = l.any (fun p => decide (k = p.1)) := fun l k => by
  rw [Bool.eq_iff_iff, getL_mem, List.any_eq_true]
  constructor
  · rintro ⟨a, h1, h2⟩; exact ⟨a, h1, by simp [h2]⟩
  · rintro ⟨a, h1, h2⟩; exact ⟨a, h1, by simpa [eq_comm] using h2⟩
theorem Prs.take' {w : World} {ao : Option Addr} {n cap : Nat} {l : List Pr} (h : Prs w (.slice ao n cap) l) (k : Nat) (hk : k ≤ l.length) : Prs w (.slice ao k cap) (l.take k) := by
  obtain ⟨ao', cap', e, hc, hm, hA⟩ := h
  cases e
  have hl : (l.take k).length = k := by rw [List.length_take]; omega
  refine ⟨ao, cap, by rw [hl], by omega, hm, fun h0 => ?_⟩
  obtain ⟨A, rfl, h2⟩ := hA (by omega)
  exact ⟨A, rfl, fun i hi => by rw [List.getElem_take]; exact h2 i (by omega)⟩
theorem chk_step (k : Int) (l : List Pr) (i : Nat) (h : i < l.length) : chkA k (l.take i) (l.drop i) = if checkL k l[i] ≠ 0 then checkL k l[i] else if (getL (l.take i) l[i].1).2 then 6 else chkA k (l.take (i + 1)) (l.drop (i + 1)) := by
  rw [List.drop_eq_getElem_cons h, List.take_succ_eq_append_getElem h]; rfl
set_option maxRecDepth 100000 in
set_option maxHeartbeats 8000000 in
theorem checkall_of (k : Int) (v : Value) (l : List Pr) (e0 : Int) (w : World) (hM : Hid (Mx w)) (h : Hid (Prs w v l)) (hl : l.length ≤ 60) (hS : Hid (Small l)) (he : Hid (chkL k l = e0)) :
    Calls Tryd.prog 13 #[.int .i64 k, v] w fun e w' => e = .returned (.int .i64 e0) ∧ Below w.heap.size w w' := by
  obtain ⟨ao, cap, rfl, hc1, hc2, _⟩ := id h.out
  have hne : ∀ W : World, Sem.run Tryd.prog (binOp BinOp.eql 50 (Value.map none) (Value.map none)) W = .ok (.bool true) W := fun W => by kernel_rfl
  have hne2 : ∀ (W : World) (b : Nat), Sem.run Tryd.prog (binOp BinOp.eql 50 (Value.map (some b)) (Value.map none)) W = .ok (.bool false) W := fun W b => by kernel_rfl
  have hev := he.out
  unfold chkL at hev
  cases hg : goodK k with
  | false =>
    rw [if_pos hg] at hev
    subst hev
    go_enter Tryd.func13, Tryd.ntmps13
    go_wp2_with fail
    refine (rules_no k _ hg).mono ?_
    rintro e w1 ⟨rfl, hb1⟩
    go_wp2
    go_ret
    exact ⟨rfl, hb1⟩
  | true =>
    rw [if_neg (by rw [hg]; decide)] at hev
    by_cases h16 : 16 < l.length
    · rw [if_pos h16] at hev
      subst hev
      have b16 : decide ((16 : Int) < (l.length : Int)) = true := by simp; omega
      go_enter Tryd.func13, Tryd.ntmps13
      go_wp2_with fail
      refine (rules_yes k _ hg).mono ?_
      rintro e w1 ⟨⟨b, rfl, -⟩, hb1⟩
      go_wp2
      go_ret
      exact ⟨rfl, hb1⟩
    rw [if_neg h16] at hev
    have b16 : decide ((16 : Int) < (l.length : Int)) = false := by simp; omega
    have HEV : Hid (chkA k (l.take 0) (l.drop 0) = e0) := Lib.hid hev
    clear hev he
    go_enter Tryd.func13, Tryd.ntmps13
    go_wp2_with fail
    refine (rules_yes k _ hg).mono ?_
    rintro e w1 ⟨⟨b, rfl, -⟩, hb1⟩
    have HB1 := Lib.hid hb1
    clear hb1 hg
    go_wp2_with fail
    go_loopw [19] (fun iv wr => ∃ i : Nat, iv = .int .i64 i ∧ i ≤ l.length ∧ Below w.heap.size w wr ∧ chkA k (l.take i) (l.drop i) = e0) (fun iv _ => l.length - (intOf iv).toNat)
    case atStart => exact ⟨0, rfl, Nat.zero_le _, HB1.out, HEV.out⟩
    case round =>
      obtain ⟨i, rfl, hi, hbw, hck⟩ := hrel
      rename World => wr
      have HB := Lib.hid hbw
      have HCK := Lib.hid hck
      clear hbw hck HEV HB1
      by_cases hlt : i < l.length
      case neg =>
        obtain rfl : i = l.length := by omega
        have HE : Hid (0 = e0) := Lib.hid (by have := HCK.out; rw [List.drop_length] at this; exact this)
        go_wp2
        go_ret
        exact ⟨ret_int HE.out, HB.out⟩
      have hst := chk_step k l i hlt
      rw [HCK.out] at hst
      obtain ⟨A, rfl, c0, c1, -, -⟩ := (h.out.keep HB.out).get hlt
      have hu := hS.out l[i] (List.getElem_mem hlt)
      obtain ⟨u, hue⟩ : ∃ u, l[i] = u := ⟨_, rfl⟩
      rw [hue] at c0 c1 hu hst
      obtain ⟨u1, u2⟩ := u
      simp only at c0 c1 hu hst
      obtain ⟨hu1, hu2⟩ := hu
      obtain ⟨ce, hce⟩ : ∃ n, checkL k (u1, u2) = n := ⟨_, rfl⟩
      obtain ⟨du, hdu⟩ : ∃ b, (getL (l.take i) u1).2 = b := ⟨_, rfl⟩
      have HCE := Lib.hid hce
      have HDU : Hid ((l.take i).any (fun p => decide (u1 = p.1)) = du) := Lib.hid (by rw [← getL_any]; exact hdu)
      rw [hce, hdu] at hst
      have HST := Lib.hid hst
      have i0 : (0 : Int) ≤ (i : Int) := by omega
      have i1 : (i : Int) < (l.length : Int) := by omega
      have hal := al1 wr (.cells #[.string (bb u1), .string (bb u2)] 28)
      have HB2 := Lib.hid (below_keep hal HB.out)
      have hM2 := mxh hM HB2.out
      have o2 := own2_new wr (.string (bb u1)) (.string (bb u2)) 28
      clear hst hce hdu hue hal
      go_wp2_with fail
      refine (check10_of k (u1, u2) ce _ hM2 hu1 hu2 HCE).mono ?_
      rintro e w3 ⟨rfl, hb3⟩
      have HB3 := Lib.hid (below_keep hb3 HB2.out)
      have o3 := o2.keep hb3
      clear hb3 HB2 hM2 o2 c0 c1
      by_cases hc0 : ce = 0
      case neg =>
        have b0 : (ce != 0) = true := by rw [bne_iff_ne]; exact hc0
        have HE : Hid (ce = e0) := Lib.hid (by have := HST.out; rw [if_pos hc0] at this; exact this.symm)
        clear hc0
        go_wp2
        go_ret
        exact ⟨ret_int HE.out, HB3.out⟩
      subst hc0
      have hst := HST.out
      rw [if_neg (by simp)] at hst
      have HST := Lib.hid hst
      clear hst
      have h3 := Lib.hid (Prs.take' (h.out.keep HB3.out) i (by omega))
      have hc := Lib.hid o3.1
      clear o3
      go_wp2_with fail
      refine (atcon_of (.slice (some A) i cap) (l.take i) wr.heap.size u1 du w3 (by rw [List.length_take]; omega) h3 hc HDU).mono ?_
      rintro e w4 ⟨rfl, hb4⟩
      have HB4 := Lib.hid (below_keep hb4 HB3.out)
      clear hb4 HB3 h3 hc
      cases du
      · have HN : Hid (chkA k (l.take (i + 1)) (l.drop (i + 1)) = e0) := Lib.hid (by have := HST.out; rw [if_neg (by decide)] at this; exact this.symm)
        go_wp2
        go_roundw
        case rel => exact ⟨i + 1, by go_num, by omega, HB4.out, HN.out⟩
        case measure => simp [intOf]; omega
      · have HE : Hid (6 = e0) := Lib.hid (by have := HST.out; rw [if_pos rfl] at this; exact this.symm)
        go_wp2
        go_ret
        exact ⟨ret_int HE.out, HB4.out⟩
end Go.Proofs.YthcglcnhdgeaeaaDoor.att
