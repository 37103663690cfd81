/-
  What side and isMode of the landed code answer. No condition.
  What isText and port of the landed code answer. Condition: a text's length; for port, that the library's variable MaxLen holds a number.
-/
import Derived.Test.YthcglcnhdgeaeaaDoorMAf
import Derived.Test.YthcglcnhdgeaeaaDoorMLi
import Derived.Test.YthcglcnhdgeaeaaDoorMLa
namespace Go.Proofs.YthcglcnhdgeaeaaDoor.att
open Go.RowKit lex tre

/-- The side that a word names, and whether there is one. -/
def sideC (s : List UInt8) : Int × Bool := if sideL s < 0 then (0, false) else (sideL s, true)
set_option maxHeartbeats 2000000 in
theorem side_of (s : ByteArray) (n : Int) (b : Bool) (w : World) (h : Hid (sideC s.data.toList = (n, b))) :
    Calls Tryd.prog 61 #[.string s] w fun e w' => e = .returned (.tuple #[.int .i64 n, .bool b]) ∧ w = w' := by
  by_cases h0 : s.data.toList = [116, 111, 112]
  · have e0 := str_yes h0
    obtain ⟨rfl, rfl⟩ : n = 0 ∧ b = true := by
      have q := h.out
      rw [h0, show sideC [116, 111, 112] = (0, true) by decide] at q
      cases q; exact ⟨rfl, rfl⟩
    clear h h0
    go_enter Tryd.func61, Tryd.ntmps61
    go_wp2
    go_ret2
    exact ⟨rfl, rfl⟩
  have e0 := str_no h0
  by_cases h1 : s.data.toList = [114, 105, 103, 104, 116]
  · have e1 := str_yes h1
    obtain ⟨rfl, rfl⟩ : n = 1 ∧ b = true := by
      have q := h.out
      rw [h1, show sideC [114, 105, 103, 104, 116] = (1, true) by decide] at q
      cases q; exact ⟨rfl, rfl⟩
    clear h h0 h1
    go_enter Tryd.func61, Tryd.ntmps61
    go_wp2
    go_ret2
    exact ⟨rfl, rfl⟩
  have e1 := str_no h1
  by_cases h2 : s.data.toList = [98, 111, 116, 116, 111, 109]
  · have e2 := str_yes h2
    obtain ⟨rfl, rfl⟩ : n = 2 ∧ b = true := by
      have q := h.out
      rw [h2, show sideC [98, 111, 116, 116, 111, 109] = (2, true) by decide] at q
      cases q; exact ⟨rfl, rfl⟩
    clear h h0 h1 h2
    go_enter Tryd.func61, Tryd.ntmps61
    go_wp2
    go_ret2
    exact ⟨rfl, rfl⟩
  have e2 := str_no h2
  by_cases h3 : s.data.toList = [108, 101, 102, 116]
  · have e3 := str_yes h3
    obtain ⟨rfl, rfl⟩ : n = 3 ∧ b = true := by
      have q := h.out
      rw [h3, show sideC [108, 101, 102, 116] = (3, true) by decide] at q
      cases q; exact ⟨rfl, rfl⟩
    clear h h0 h1 h2 h3
    go_enter Tryd.func61, Tryd.ntmps61
    go_wp2
    go_ret2
    exact ⟨rfl, rfl⟩
  have e3 := str_no h3
  obtain ⟨rfl, rfl⟩ : n = 0 ∧ b = false := by
    have q := h.out
    have q3 : sideL s.data.toList = -1 := by
      unfold sideL sides
      simp only [idxA]
      rw [if_neg (fun e => h0 e.symm), if_neg (fun e => h1 e.symm), if_neg (fun e => h2 e.symm), if_neg (fun e => h3 e.symm)]
    have q2 : sideC s.data.toList = (0, false) := by
      unfold sideC
      rw [if_pos (by rw [q3]; decide)]
    rw [q2] at q
    cases q; exact ⟨rfl, rfl⟩
  clear h h0 h1 h2 h3
  go_enter Tryd.func61, Tryd.ntmps61
  go_wp2
  go_ret2
  exact ⟨rfl, rfl⟩
set_option maxHeartbeats 2000000 in
theorem ismode_of (s : ByteArray) (b : Bool) (w : World) (h : Hid (decide (0 ≤ modeL s.data.toList) = b)) :
    Calls Tryd.prog 50 #[.string s] w fun e w' => e = .returned (.bool b) ∧ w = w' := by
  by_cases h0 : s.data.toList = [108, 97, 121, 101, 114, 101, 100]
  · have e0 := str_yes h0
    obtain rfl : b = true := by
      have q : decide (0 ≤ modeL s.data.toList) = true := by rw [decide_eq_true_eq, h0]; decide
      exact h.out.symm.trans q
    clear h h0
    go_enter Tryd.func50, Tryd.ntmps50
    go_wp2
    go_ret
    exact ⟨rfl, rfl⟩
  have e0 := str_no h0
  by_cases h1 : s.data.toList = [111, 114, 116, 104, 111, 103, 111, 110, 97, 108]
  · have e1 := str_yes h1
    obtain rfl : b = true := by
      have q : decide (0 ≤ modeL s.data.toList) = true := by rw [decide_eq_true_eq, h1]; decide
      exact h.out.symm.trans q
    clear h h0 h1
    go_enter Tryd.func50, Tryd.ntmps50
    go_wp2
    go_ret
    exact ⟨rfl, rfl⟩
  have e1 := str_no h1
  by_cases h2 : s.data.toList = [115, 116, 114, 97, 105, 103, 104, 116]
  · have e2 := str_yes h2
    obtain rfl : b = true := by
      have q : decide (0 ≤ modeL s.data.toList) = true := by rw [decide_eq_true_eq, h2]; decide
      exact h.out.symm.trans q
    clear h h0 h1 h2
    go_enter Tryd.func50, Tryd.ntmps50
    go_wp2
    go_ret
    exact ⟨rfl, rfl⟩
  have e2 := str_no h2
  by_cases h3 : s.data.toList = [116, 105, 100, 121]
  · have e3 := str_yes h3
    obtain rfl : b = true := by
      have q : decide (0 ≤ modeL s.data.toList) = true := by rw [decide_eq_true_eq, h3]; decide
      exact h.out.symm.trans q
    clear h h0 h1 h2 h3
    go_enter Tryd.func50, Tryd.ntmps50
    go_wp2
    go_ret
    exact ⟨rfl, rfl⟩
  have e3 := str_no h3
  by_cases h4 : s.data.toList = [114, 97, 100, 105, 97, 108]
  · have e4 := str_yes h4
    obtain rfl : b = true := by
      have q : decide (0 ≤ modeL s.data.toList) = true := by rw [decide_eq_true_eq, h4]; decide
      exact h.out.symm.trans q
    clear h h0 h1 h2 h3 h4
    go_enter Tryd.func50, Tryd.ntmps50
    go_wp2
    go_ret
    exact ⟨rfl, rfl⟩
  have e4 := str_no h4
  obtain rfl : b = false := by
    have q2 : decide (0 ≤ modeL s.data.toList) = false := by
      rw [decide_eq_false_iff_not]
      unfold modeL modes
      simp only [idxA]
      rw [if_neg (fun e => h0 e.symm), if_neg (fun e => h1 e.symm), if_neg (fun e => h2 e.symm), if_neg (fun e => h3 e.symm), if_neg (fun e => h4 e.symm)]
      decide
    exact h.out.symm.trans q2
  clear h h0 h1 h2 h3 h4
  go_enter Tryd.func50, Tryd.ntmps50
  go_wp2
  go_ret
  exact ⟨rfl, rfl⟩
end Go.Proofs.YthcglcnhdgeaeaaDoor.att
namespace Go.Proofs.YthcglcnhdgeaeaaDoor.att
open Go.RowKit lex tre

/-- Whether a value is a text. -/
def textL (s : List UInt8) : Bool := decide (s.length ≤ 32) && s.all isPl
theorem quo_text (s : List UInt8) : decide ((quoE s).2 = 0) = textL s := by
  unfold quoE textL
  by_cases h1 : 32 < s.length
  · rw [if_pos h1]
    have : decide (s.length ≤ 32) = false := by simp; omega
    rw [this]; rfl
  · rw [if_neg h1]
    have : decide (s.length ≤ 32) = true := by simp; omega
    rw [this]
    cases h2 : s.all isPl <;> simp
set_option maxHeartbeats 1000000 in
theorem istext_of (s : ByteArray) (b : Bool) (w : World) (hs : s.size ≤ maxLen) (h : Hid (textL s.data.toList = b)) :
    Calls Tryd.prog 48 #[.string s] w fun e w' => e = .returned (.bool b) ∧ Below w.heap.size w w' := by
  obtain ⟨q, e0, hq⟩ : ∃ q e0, quoE s.data.toList = (q, e0) := ⟨_, _, rfl⟩
  have HQ := Lib.hid hq
  have HB : Hid (decide (e0 = 0) = b) := Lib.hid (by have := h.out; rw [← quo_text, hq] at this; exact this)
  clear hq h
  go_enter Tryd.func48, Tryd.ntmps48
  go_wp2_with fail
  refine (quote_any s q e0 w hs HQ).mono ?_
  rintro e w1 ⟨rfl, hb1⟩
  go_wp2
  go_ret
  exact ⟨ret_bool (by rw [← HB.out]; first | rfl | (rw [Bool.eq_iff_iff]; simp)), hb1⟩
theorem index_gap : ∀ l : List UInt8, Lib.index l [32] = if gapN l < l.length then (gapN l : Int) else -1
  | [] => by rfl
  | b :: t => by
    have ih := index_gap t
    have hg := gap_le t
    unfold Lib.index
    by_cases hb : b = 32
    · subst hb
      have e1 : gapN (32 :: t) = 0 := by unfold gapN; simp
      rw [e1, if_pos (by simp [List.isPrefixOf]), if_pos (by simp)]; rfl
    · have e1 : gapN (b :: t) = gapN t + 1 := by unfold gapN; simp [hb]
      have hp : ([32] : List UInt8).isPrefixOf (b :: t) = false := by
        simp only [List.isPrefixOf, Bool.and_true]
        rw [beq_eq_false_iff_ne]; exact fun e => hb e.symm
      rw [e1, hp, ih]
      simp only [Bool.false_eq_true, if_false]
      by_cases hl : gapN t < t.length
      · rw [if_pos hl, if_neg (by first | (simp; done) | (simp; omega)), if_pos (by simp only [List.length_cons]; omega)]; omega
      · rw [if_neg hl, if_pos (by simp), if_neg (by simp only [List.length_cons]; omega)]
theorem gap_take (l : List UInt8) : l.take (gapN l) = l.takeWhile (· ≠ 32) :=
  (List.prefix_iff_eq_take.1 (List.takeWhile_prefix _)).symm
/-- What cutting a part at its first space gives. -/
theorem cut_gap (l : List UInt8) : Lib.cut l [32] = match gapL l with | none => (l, [], false) | some (n, r) => (n, r, true) := by
  unfold Lib.cut gapL
  rw [index_gap]
  show _ = match (if gapN l < l.length then some (l.takeWhile (· ≠ 32), l.drop (gapN l + 1)) else none) with | none => (l, [], false) | some (n, r) => (n, r, true)
  by_cases h : gapN l < l.length
  · rw [if_pos h, if_pos (by omega), if_pos h, ← gap_take]; rfl
  · rw [if_neg h, if_neg (by omega), if_neg h]
/-- A block of two cells that may be written. -/
def Own2 (W : World) (g : Nat) (v0 v1 : Value) : Prop := W.cell? ⟨g, 0, none⟩ = some v0 ∧ W.cell? ⟨g, 1, none⟩ = some v1 ∧ W.frozen? ⟨g, 0, none⟩ = false ∧ W.frozen? ⟨g, 1, none⟩ = false
theorem own2_of {W : World} {g : Nat} {x y : Value} {t : TypeId} (h : W.heap[g]? = some (.cells #[x, y] t (0, 0))) : Own2 W g x y := by
  refine ⟨?_, ?_, ?_, ?_⟩ <;> simp [World.cell?, World.frozen?, h]
theorem own2_new (w : World) (x y : Value) (t : TypeId) : Own2 (w.alloc (.cells #[x, y] t)) w.heap.size x y := own2_of (heap_alloc_new w _)
theorem Own2.keep {w1 w2 : World} {b : Nat} {x y : Value} (h : Own2 w1 b x y) (h2 : Below w1.heap.size w1 w2) : Own2 w2 b x y :=
  ⟨cell_keep h2 h.1, cell_keep h2 h.2.1, fr_keep h2 h.1 h.2.2.1, fr_keep h2 h.2.1 h.2.2.2⟩
theorem bb_len (l : List UInt8) : (bb l).size = l.length := by simp [ByteArray.size]
set_option maxRecDepth 100000 in
set_option maxHeartbeats 4000000 in
theorem port_of (s : ByteArray) (e0 : Int) (n : List UInt8) (d : Int) (w : World) (hM : Hid (Mx w)) (hs : s.size ≤ 1000) (h : Hid (partL s.data.toList = (e0, n, d))) :
    Calls Tryd.prog 40 #[.string s] w fun e w' => e = .returned (.tuple #[.agg #[.string (bb n), .int .i64 d], .int .i64 e0]) ∧ Below w.heap.size w w' := by
  have hcut := cut_gap s.data.toList
  obtain ⟨x, r, f, hx⟩ : ∃ x r f, Lib.cut s.data.toList [32] = (x, r, f) := ⟨_, _, _, rfl⟩
  have hxl : x.length ≤ 1000 := by
    have hz : s.data.toList.length = s.size := by simp
    have := congrArg (fun t => t.1) hx
    unfold Lib.cut at this
    split at this
    · simp only at this; rw [← this, List.length_take]; omega
    · simp only at this; rw [← this]; omega
  obtain ⟨d1, b1, hsd⟩ : ∃ d1 b1, sideC r = (d1, b1) := ⟨_, _, rfl⟩
  obtain ⟨nm, hnm⟩ : ∃ b, isNm x = b := ⟨_, rfl⟩
  have hpart : partL s.data.toList = if b1 = false then (4, [], 0) else if nm = false then (5, [], 0) else (0, x, d1) := by
    unfold partL
    rw [hx] at hcut
    cases hg : gapL s.data.toList with
    | none =>
      rw [hg] at hcut
      simp only [Prod.mk.injEq] at hcut
      obtain ⟨rfl, rfl, rfl⟩ := hcut
      have : sideC ([] : List UInt8) = (0, false) := by decide
      rw [this] at hsd
      cases hsd
      rfl
    | some g =>
      obtain ⟨g1, g2⟩ := g
      rw [hg] at hcut
      simp only [Prod.mk.injEq] at hcut
      obtain ⟨rfl, rfl, rfl⟩ := hcut
      unfold sideC at hsd
      simp only
      by_cases hs0 : sideL r < 0
      · rw [if_pos hs0] at hsd ⊢
        cases hsd; rfl
      · rw [if_neg hs0] at hsd ⊢
        cases hsd
        rw [hnm]
        cases nm <;> rfl
  rw [hpart] at h
  have HX := Lib.hid hx
  have HSD : Hid (sideC (bb r).data.toList = (d1, b1)) := Lib.hid hsd
  have HNM : Hid (isNm (bb x).data.toList = nm) := Lib.hid hnm
  have hxm : (bb x).size ≤ maxLen := by rw [bb_len]; unfold maxLen; omega
  have H := h
  clear hcut hx hsd hnm hpart h
  have CC : Hid (∀ W : World, Mx W → Calls Tryd.prog 60 #[.string s, .string ⟨#[32]⟩] W fun e w' => e = .returned (.tuple #[.string (bb x), .string (bb r), .bool f]) ∧ ∃ n, w' = W.drewN n) := Lib.hid (fun W ⟨m, hm⟩ => by
    have cc := Tryd.strings_Cut s ⟨#[32]⟩ m W (by omega) hm
    rw [show (ByteArray.mk #[32]).data.toList = [32] from rfl, HX.out] at cc
    exact cc)
  have B0 := al1 w (.cells #[.string ⟨#[]⟩, .int .i64 0] 49)
  have o2 := own2_new w (.string ⟨#[]⟩) (.int .i64 0) 49
  have hM0 := hM.out.keep B0
  obtain ⟨g, hg⟩ : ∃ g, w.heap.size = g := ⟨_, rfl⟩
  rw [hg] at o2
  have HG := Lib.hid hg
  have gg : w.heap.size ≤ g := by omega
  clear hg
  go_enter Tryd.func40, Tryd.ntmps40
  go_wp2_with fail
  rw [HG.out]
  generalize w.alloc (.cells #[.string ⟨#[]⟩, .int .i64 0] 49) = w1 at B0 o2 hM0 ⊢
  refine (CC.out _ hM0).mono ?_
  rintro e w2 ⟨rfl, nq, rfl⟩
  have B2 := below_keep (drew_n w1 nq) B0
  have p2 := o2.keep (drew_n w1 nq)
  generalize w1.drewN nq = w2 at B2 p2 ⊢
  clear B0 o2 hM0
  cases b1
  · obtain ⟨rfl, rfl, rfl⟩ : e0 = 4 ∧ n = [] ∧ d = 0 := by have := H.out; simpa [eq_comm] using this
    clear H
    go_wp2_with fail
    refine (side_of _ d1 false w2 HSD).mono ?_
    rintro e w' ⟨rfl, rfl⟩
    obtain ⟨c0, c1, f0, f1⟩ := p2
    go_wp2
    exact bodyPost_ret (v := .tuple #[.agg #[.string ⟨#[]⟩, .int .i64 0], .int .i64 4]) (by simp [results, Tryd.results40, go_sem, c0, c1]) rfl ⟨rfl, set2 B2 gg⟩
  go_wp2_with fail
  refine (side_of _ d1 true w2 HSD).mono ?_
  rintro e w' ⟨rfl, rfl⟩
  go_wp2_with fail
  refine (isname_of _ nm w2 hxm HNM).mono ?_
  rintro e w3 ⟨rfl, hb3⟩
  have B3 := below_keep hb3 B2
  have p3 := p2.keep hb3
  clear hb3 B2 p2
  obtain ⟨c0, c1, f0, f1⟩ := p3
  cases nm
  · obtain ⟨rfl, rfl, rfl⟩ : e0 = 5 ∧ n = [] ∧ d = 0 := by have := H.out; simpa [eq_comm] using this
    clear H
    go_wp2
    exact bodyPost_ret (v := .tuple #[.agg #[.string ⟨#[]⟩, .int .i64 0], .int .i64 5]) (by simp [results, Tryd.results40, go_sem, c0, c1]) rfl ⟨rfl, set2 B3 gg⟩
  · obtain ⟨rfl, rfl, rfl⟩ : 0 = e0 ∧ x = n ∧ d1 = d := by have := H.out; simpa using this
    clear H
    go_wp2
    exact bodyPost_ret (v := .tuple #[.agg #[.string (bb x), .int .i64 d1], .int .i64 0]) (by simp [results, Tryd.results40, go_sem, c0, c1]) rfl ⟨rfl, set2 B3 gg⟩
end Go.Proofs.YthcglcnhdgeaeaaDoor.att
