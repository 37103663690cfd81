/-
  A map from strings that a call made, its elements as they are: what a look-up gives and what a store leaves. Condition: a text's length.
  The map of rules that the landed code makes for a kind. No condition.
-/
import Derived.Test.YthcglcnhdgeaeaaDoorMAp
import Derived.Test.YthcglcnhdgeaeaaDoorTrees
import Derived.Maps.OwnOps
import Derived.Maps.OwnSet
import Derived.Maps.Views
import Derived.Test.YthcglcnhdgeaeaaDoorKit
import Derived.Carry
namespace Go.Proofs.YthcglcnhdgeaeaaDoor.att
open Go.RowKit Go.ChangeMaps Go.MapKept lex tre

/-- An element as it is. -/
def heldR (v : Value) : Option (DataW Value × List MemPlace) := some (.held v, [])
/-- Block b is a map of at most n entries that holds F; z is the elements' zero value. -/
def mAt (z : Value) (W : World) (b n : Nat) (D : DataW Value) (F : List UInt8 → Value × Bool) : Prop :=
  W.ownsMap Tryd.prog 9 heldR b n D ∧ Maps.IsMap D ∧ ∀ x : List UInt8, D.atKey (.string x) (.held z) = .held (F x).1 ∧ Maps.has D (.string x) = (F x).2
theorem mAt_made (z : Value) (w : World) : mAt z (w.alloc (.map #[] 0)) w.heap.size 0 (.map []) (fun _ => (z, false)) :=
  ⟨World.ownsMap_made w _ _ _, Maps.isMap_empty, fun _ => ⟨rfl, rfl⟩⟩
theorem mAt.kept {z : Value} {w w' : World} {b n : Nat} {D : DataW Value} {F : List UInt8 → Value × Bool} {row : Option Nat} (h : mAt z w b n D F) (hg : w.grownBy w' row) (hne : some b ≠ row) : mAt z w' b n D F := ⟨h.1.kept hg hne, h.2⟩
theorem mAt.keep {z : Value} {w w' : World} {b n : Nat} {D : DataW Value} {F : List UInt8 → Value × Bool} (h : mAt z w b n D F) (hb : Below w.heap.size w w') : mAt z w' b n D F :=
  h.kept (row := none) ⟨hb.os, hb.tape, hb.output, hb.size, fun k hk _ => hb.block k hk⟩ (by simp)
theorem mAt.lt {z : Value} {w : World} {b n : Nat} {D : DataW Value} {F : List UInt8 → Value × Bool} (h : mAt z w b n D F) : b < w.heap.size := h.1.lt
theorem mAt.look {T e : TypeId} {z : Value} (ht : Tryd.prog.underlying T = some (.map 9 e)) (hz : ∀ w, (zeroValue e).run Tryd.prog w = .ok z w) {w : World} {b n : Nat} {D : DataW Value} {F : List UInt8 → Value × Bool} (h : mAt z w b n D F) (s : ByteArray) (hs : s.size ≤ maxLen) :
    (Instr.lookup T (.map (some b)) (.string s) false).run Tryd.prog w = .ok (F s.data.toList).1 w := by
  obtain ⟨v, ps, hrun, hv⟩ := h.1.lookup (Maps.string_keyed Tryd.underlying9) ht (hz w) (R := heldR) (zd := .held z) (zp := []) rfl (WideMaps.keyOf_string_mk Tryd.underlying9 hs)
  rw [(h.2.2 _).1] at hv
  unfold heldR at hv
  cases hv
  exact hrun
theorem mAt.lookOk {T e : TypeId} {z : Value} (ht : Tryd.prog.underlying T = some (.map 9 e)) (hz : ∀ w, (zeroValue e).run Tryd.prog w = .ok z w) {w : World} {b n : Nat} {D : DataW Value} {F : List UInt8 → Value × Bool} (h : mAt z w b n D F) (s : ByteArray) (hs : s.size ≤ maxLen) :
    (Instr.lookup T (.map (some b)) (.string s) true).run Tryd.prog w = .ok (.tuple #[(F s.data.toList).1, .bool (F s.data.toList).2]) w := by
  obtain ⟨v, ps, hrun, hv⟩ := h.1.look_ok (Maps.string_keyed Tryd.underlying9) ht (hz w) (R := heldR) (zd := .held z) (zp := []) rfl (WideMaps.keyOf_string_mk Tryd.underlying9 hs)
  rw [(h.2.2 _).1] at hv
  rw [(h.2.2 _).2] at hrun
  unfold heldR at hv
  cases hv
  exact hrun
theorem mAt.put {T e : TypeId} {z : Value} (ht : Tryd.prog.underlying T = some (.map 9 e)) {w : World} {b n : Nat} {D : DataW Value} {F : List UInt8 → Value × Bool} (h : mAt z w b n D F) (s : ByteArray) (v : Value) (hs : s.size ≤ maxLen) (hn : n < maxLen) :
    ∃ w', (Instr.mapUpdate T (.map (some b)) (.string s) v).run Tryd.prog w = .ok () w' ∧ mAt z w' b (n + 1) (D.put (.string s.data.toList) (.held v)) (fun x => if x = s.data.toList then (v, true) else F x) ∧ w.grownBy w' (some b) := by
  obtain ⟨w', hrun, h5, h6⟩ := h.1.update (Maps.string_keyed Tryd.underlying9) ht hn (R := heldR) (WideMaps.keyOf_string_mk Tryd.underlying9 hs) (d := .held v) (ps := []) rfl
  refine ⟨w', hrun, ⟨h5, h.2.1.put _ _, fun x => ?_⟩, h6⟩
  by_cases hx : x = s.data.toList
  · subst hx
    rw [Maps.atKey_put_same h.2.1 (by trivial), Maps.has_put_same h.2.1 (by trivial)]
    simp
  · rw [Maps.atKey_put_other (by intro e; injection e with e; exact hx e), Maps.has_put_other (by intro e; injection e with e; exact hx e)]
    simp only [if_neg hx]
    exact h.2.2 x
end Go.Proofs.YthcglcnhdgeaeaaDoor.att
namespace Go.Proofs.YthcglcnhdgeaeaaDoor.att
open Go.RowKit lex tre

/-- A rule as the code has it. -/
def RV (u lo hi us : Int) (f : Value) : Value := .agg #[.int .i64 u, .int .i64 lo, .int .i64 hi, .int .i64 us, f]
def RZ : Value := RV 0 0 0 0 .nilFunc
def fTx : Value := .func (.func 48) #[] #[]
def fPo : Value := .func (.func 49) #[] #[]
def fMo : Value := .func (.func 50) #[] #[]
def rvN (c : List UInt8) : Value × Bool := if c = wLabel then (RV 0 0 0 0 fTx, true) else if c = wWidth then (RV 1 1 1048576 20000 .nilFunc, true) else if c = wHeight then (RV 1 1 1048576 10000 .nilFunc, true) else if c = wPorts then (RV 0 0 0 0 fPo, true) else (RZ, false)
def rvE (c : List UInt8) : Value × Bool := if c = wLabel then (RV 0 0 0 0 fTx, true) else if c = wWeight then (RV 1000 1 1000 1 .nilFunc, true) else if c = wLen then (RV 1000 1 64 1 .nilFunc, true) else (RZ, false)
def rvS (c : List UInt8) : Value × Bool := if c = wMode then (RV 0 0 0 0 fMo, true) else if c = wNodesep then (RV 1 0 1048576 10000 .nilFunc, true) else if c = wRanksep then (RV 1 0 1048576 20000 .nilFunc, true) else if c = wMargin then (RV 1 0 1048576 5000 .nilFunc, true) else if c = wRounds then (RV 1000 0 100 8 .nilFunc, true) else (RZ, false)
def rvK (k : Int) (c : List UInt8) : Value × Bool := if k = 1 then rvN c else if k = 2 then rvE c else if k = 4 then rvS c else (RZ, false)
/-- The rules of a kind, in memory. -/
def RuM (w : World) (b : Nat) (k : Int) : Prop := ∃ n D, mAt RZ w b n D (rvK k)
theorem RuM.keep {w w' : World} {b : Nat} {k : Int} (h : RuM w b k) (hb : Below w.heap.size w w') : RuM w' b k := by
  obtain ⟨n, D, h⟩ := h; exact ⟨n, D, h.keep hb⟩
theorem rz_zero (w : World) : (zeroValue 53).run Tryd.prog w = .ok RZ w := Tryd.zeroValue53 w
theorem RuM.lookOk {w : World} {b : Nat} {k : Int} (h : RuM w b k) (s : ByteArray) (hs : s.size ≤ maxLen) : (Instr.lookup 50 (.map (some b)) (.string s) true).run Tryd.prog w = .ok (.tuple #[(rvK k s.data.toList).1, .bool (rvK k s.data.toList).2]) w := by
  obtain ⟨n, D, h⟩ := h
  exact h.lookOk Tryd.underlying50 rz_zero s hs
theorem RuM.look {w : World} {b : Nat} {k : Int} (h : RuM w b k) (s : ByteArray) (hs : s.size ≤ maxLen) : (Instr.lookup 50 (.map (some b)) (.string s) false).run Tryd.prog w = .ok (rvK k s.data.toList).1 w := by
  obtain ⟨n, D, h⟩ := h
  exact h.look Tryd.underlying50 rz_zero s hs
theorem below_put {w0 w w' : World} {b : Nat} (h : Below w0.heap.size w0 w) (hg : w.grownBy w' (some b)) (hb : w0.heap.size ≤ b) : Below w0.heap.size w0 w' := h.grown hg h.size (fun k e => by cases e; exact hb)
-- walks
set_option maxRecDepth 100000 in
set_option maxHeartbeats 4000000 in
theorem rules_1 (w : World) : Calls Tryd.prog 27 #[.int .i64 1] w fun e w' => (∃ b, e = .returned (.map (some b)) ∧ RuM w' b 1) ∧ Below w.heap.size w w' := by
  have m0 := mAt_made RZ w
  have B0 := al1 w (.map #[] 0)
  obtain ⟨w1, r1, m1, g1⟩ := m0.put Tryd.underlying50 ⟨#[108, 97, 98, 101, 108]⟩ (RV 0 0 0 0 fTx) (by decide) (by decide)
  have B1 := below_put B0 g1 (Nat.le_refl _)
  obtain ⟨w2, r2, m2, g2⟩ := m1.put Tryd.underlying50 ⟨#[119, 105, 100, 116, 104]⟩ (RV 1 1 1048576 20000 .nilFunc) (by decide) (by decide)
  have B2 := below_put B1 g2 (Nat.le_refl _)
  obtain ⟨w3, r3, m3, g3⟩ := m2.put Tryd.underlying50 ⟨#[104, 101, 105, 103, 104, 116]⟩ (RV 1 1 1048576 10000 .nilFunc) (by decide) (by decide)
  have B3 := below_put B2 g3 (Nat.le_refl _)
  obtain ⟨w4, r4, m4, g4⟩ := m3.put Tryd.underlying50 ⟨#[112, 111, 114, 116, 115]⟩ (RV 0 0 0 0 fPo) (by decide) (by decide)
  have B4 := below_put B3 g4 (Nat.le_refl _)
  have HR : Hid (RuM w4 w.heap.size 1) := by
    refine Lib.hid ⟨_, _, m4.1, m4.2.1, fun x => ?_⟩
    have q := m4.2.2 x
    rw [show rvK 1 x = _ from (?_ : rvK 1 x = (_ : Value × Bool))]
    · exact q
    · rw [show rvK 1 x = rvN x by unfold rvK; simp]
      unfold rvN wLabel wWidth wHeight wPorts
      repeat' split
      all_goals (first | rfl | (subst_vars; simp_all) | simp_all)
  clear m0 m1 m2 m3 m4 g1 g2 g3 g4 B0 B1 B2 B3
  replace r1 : (Instr.mapUpdate 50 (.map (some w.heap.size)) (.string ⟨#[108, 97, 98, 101, 108]⟩) (.agg #[.int .i64 0, .int .i64 0, .int .i64 0, .int .i64 0, .func (.func 48) #[] #[]])).run Tryd.prog (w.alloc (.map #[] 0)) = .ok () w1 := r1
  replace r2 : (Instr.mapUpdate 50 (.map (some w.heap.size)) (.string ⟨#[119, 105, 100, 116, 104]⟩) (.agg #[.int .i64 1, .int .i64 1, .int .i64 1048576, .int .i64 20000, .nilFunc])).run Tryd.prog w1 = .ok () w2 := r2
  replace r3 : (Instr.mapUpdate 50 (.map (some w.heap.size)) (.string ⟨#[104, 101, 105, 103, 104, 116]⟩) (.agg #[.int .i64 1, .int .i64 1, .int .i64 1048576, .int .i64 10000, .nilFunc])).run Tryd.prog w2 = .ok () w3 := r3
  replace r4 : (Instr.mapUpdate 50 (.map (some w.heap.size)) (.string ⟨#[112, 111, 114, 116, 115]⟩) (.agg #[.int .i64 0, .int .i64 0, .int .i64 0, .int .i64 0, .func (.func 49) #[] #[]])).run Tryd.prog w3 = .ok () w4 := r4
  have hmm := @run_makeMap Tryd.prog
  have HB := Lib.hid B4
  clear B4
  go_enter Tryd.func27, Tryd.ntmps27
  go_wp2
  go_ret
  exact ⟨⟨_, rfl, HR.out⟩, HB.out⟩
set_option maxRecDepth 100000 in
set_option maxHeartbeats 4000000 in
theorem rules_2 (w : World) : Calls Tryd.prog 27 #[.int .i64 2] w fun e w' => (∃ b, e = .returned (.map (some b)) ∧ RuM w' b 2) ∧ Below w.heap.size w w' := by
  have m0 := mAt_made RZ w
  have B0 := al1 w (.map #[] 0)
  obtain ⟨w1, r1, m1, g1⟩ := m0.put Tryd.underlying50 ⟨#[108, 97, 98, 101, 108]⟩ (RV 0 0 0 0 fTx) (by decide) (by decide)
  have B1 := below_put B0 g1 (Nat.le_refl _)
  obtain ⟨w2, r2, m2, g2⟩ := m1.put Tryd.underlying50 ⟨#[119, 101, 105, 103, 104, 116]⟩ (RV 1000 1 1000 1 .nilFunc) (by decide) (by decide)
  have B2 := below_put B1 g2 (Nat.le_refl _)
  obtain ⟨w3, r3, m3, g3⟩ := m2.put Tryd.underlying50 ⟨#[108, 101, 110]⟩ (RV 1000 1 64 1 .nilFunc) (by decide) (by decide)
  have B3 := below_put B2 g3 (Nat.le_refl _)
  have HR : Hid (RuM w3 w.heap.size 2) := by
    refine Lib.hid ⟨_, _, m3.1, m3.2.1, fun x => ?_⟩
    have q := m3.2.2 x
    rw [show rvK 2 x = _ from (?_ : rvK 2 x = (_ : Value × Bool))]
    · exact q
    · rw [show rvK 2 x = rvE x by unfold rvK; simp]
      unfold rvE wLabel wWeight wLen
      repeat' split
      all_goals (first | rfl | (subst_vars; simp_all) | simp_all)
  clear m0 m1 m2 m3 g1 g2 g3 B0 B1 B2
  replace r1 : (Instr.mapUpdate 50 (.map (some w.heap.size)) (.string ⟨#[108, 97, 98, 101, 108]⟩) (.agg #[.int .i64 0, .int .i64 0, .int .i64 0, .int .i64 0, .func (.func 48) #[] #[]])).run Tryd.prog (w.alloc (.map #[] 0)) = .ok () w1 := r1
  replace r2 : (Instr.mapUpdate 50 (.map (some w.heap.size)) (.string ⟨#[119, 101, 105, 103, 104, 116]⟩) (.agg #[.int .i64 1000, .int .i64 1, .int .i64 1000, .int .i64 1, .nilFunc])).run Tryd.prog w1 = .ok () w2 := r2
  replace r3 : (Instr.mapUpdate 50 (.map (some w.heap.size)) (.string ⟨#[108, 101, 110]⟩) (.agg #[.int .i64 1000, .int .i64 1, .int .i64 64, .int .i64 1, .nilFunc])).run Tryd.prog w2 = .ok () w3 := r3
  have hmm := @run_makeMap Tryd.prog
  have HB := Lib.hid B3
  clear B3
  go_enter Tryd.func27, Tryd.ntmps27
  go_wp2
  go_ret
  exact ⟨⟨_, rfl, HR.out⟩, HB.out⟩
set_option maxRecDepth 100000 in
set_option maxHeartbeats 4000000 in
theorem rules_4 (w : World) : Calls Tryd.prog 27 #[.int .i64 4] w fun e w' => (∃ b, e = .returned (.map (some b)) ∧ RuM w' b 4) ∧ Below w.heap.size w w' := by
  have m0 := mAt_made RZ w
  have B0 := al1 w (.map #[] 0)
  obtain ⟨w1, r1, m1, g1⟩ := m0.put Tryd.underlying50 ⟨#[109, 111, 100, 101]⟩ (RV 0 0 0 0 fMo) (by decide) (by decide)
  have B1 := below_put B0 g1 (Nat.le_refl _)
  obtain ⟨w2, r2, m2, g2⟩ := m1.put Tryd.underlying50 ⟨#[110, 111, 100, 101, 115, 101, 112]⟩ (RV 1 0 1048576 10000 .nilFunc) (by decide) (by decide)
  have B2 := below_put B1 g2 (Nat.le_refl _)
  obtain ⟨w3, r3, m3, g3⟩ := m2.put Tryd.underlying50 ⟨#[114, 97, 110, 107, 115, 101, 112]⟩ (RV 1 0 1048576 20000 .nilFunc) (by decide) (by decide)
  have B3 := below_put B2 g3 (Nat.le_refl _)
  obtain ⟨w4, r4, m4, g4⟩ := m3.put Tryd.underlying50 ⟨#[109, 97, 114, 103, 105, 110]⟩ (RV 1 0 1048576 5000 .nilFunc) (by decide) (by decide)
  have B4 := below_put B3 g4 (Nat.le_refl _)
  obtain ⟨w5, r5, m5, g5⟩ := m4.put Tryd.underlying50 ⟨#[114, 111, 117, 110, 100, 115]⟩ (RV 1000 0 100 8 .nilFunc) (by decide) (by decide)
  have B5 := below_put B4 g5 (Nat.le_refl _)
  have HR : Hid (RuM w5 w.heap.size 4) := by
    refine Lib.hid ⟨_, _, m5.1, m5.2.1, fun x => ?_⟩
    have q := m5.2.2 x
    rw [show rvK 4 x = _ from (?_ : rvK 4 x = (_ : Value × Bool))]
    · exact q
    · rw [show rvK 4 x = rvS x by unfold rvK; simp]
      unfold rvS wMode wNodesep wRanksep wMargin wRounds
      repeat' split
      all_goals (first | rfl | (subst_vars; simp_all) | simp_all)
  clear m0 m1 m2 m3 m4 m5 g1 g2 g3 g4 g5 B0 B1 B2 B3 B4
  replace r1 : (Instr.mapUpdate 50 (.map (some w.heap.size)) (.string ⟨#[109, 111, 100, 101]⟩) (.agg #[.int .i64 0, .int .i64 0, .int .i64 0, .int .i64 0, .func (.func 50) #[] #[]])).run Tryd.prog (w.alloc (.map #[] 0)) = .ok () w1 := r1
  replace r2 : (Instr.mapUpdate 50 (.map (some w.heap.size)) (.string ⟨#[110, 111, 100, 101, 115, 101, 112]⟩) (.agg #[.int .i64 1, .int .i64 0, .int .i64 1048576, .int .i64 10000, .nilFunc])).run Tryd.prog w1 = .ok () w2 := r2
  replace r3 : (Instr.mapUpdate 50 (.map (some w.heap.size)) (.string ⟨#[114, 97, 110, 107, 115, 101, 112]⟩) (.agg #[.int .i64 1, .int .i64 0, .int .i64 1048576, .int .i64 20000, .nilFunc])).run Tryd.prog w2 = .ok () w3 := r3
  replace r4 : (Instr.mapUpdate 50 (.map (some w.heap.size)) (.string ⟨#[109, 97, 114, 103, 105, 110]⟩) (.agg #[.int .i64 1, .int .i64 0, .int .i64 1048576, .int .i64 5000, .nilFunc])).run Tryd.prog w3 = .ok () w4 := r4
  replace r5 : (Instr.mapUpdate 50 (.map (some w.heap.size)) (.string ⟨#[114, 111, 117, 110, 100, 115]⟩) (.agg #[.int .i64 1000, .int .i64 0, .int .i64 100, .int .i64 8, .nilFunc])).run Tryd.prog w4 = .ok () w5 := r5
  have hmm := @run_makeMap Tryd.prog
  have HB := Lib.hid B5
  clear B5
  go_enter Tryd.func27, Tryd.ntmps27
  go_wp2
  go_ret
  exact ⟨⟨_, rfl, HR.out⟩, HB.out⟩
set_option maxHeartbeats 2000000 in
theorem rules_no (k : Int) (w : World) (h : goodK k = false) : Calls Tryd.prog 27 #[.int .i64 k] w fun e w' => e = .returned (.map none) ∧ Below w.heap.size w w' := by
  unfold goodK at h
  simp only [Bool.or_eq_false_iff, decide_eq_false_iff_not] at h
  obtain ⟨⟨h1, h2⟩, h4⟩ := h
  go_enter Tryd.func27, Tryd.ntmps27
  go_wp2
  go_ret
  exact ⟨rfl, Below.refl _ _⟩
theorem rules_yes (k : Int) (w : World) (h : goodK k = true) : Calls Tryd.prog 27 #[.int .i64 k] w fun e w' => (∃ b, e = .returned (.map (some b)) ∧ RuM w' b k) ∧ Below w.heap.size w w' := by
  unfold goodK at h
  simp only [Bool.or_eq_true, decide_eq_true_eq] at h
  rcases h with (rfl | rfl) | rfl
  · exact rules_1 w
  · exact rules_2 w
  · exact rules_4 w
end Go.Proofs.YthcglcnhdgeaeaaDoor.att
