/-
  Lists of numbers in memory, and what SameInts of the reference of layer 11 returns. Condition: two lists in memory.
-/
import Derived.Test.YtjeacpohanadnaaGraRef3
namespace Go.Proofs.Ytjeacpohanadnaa.gra
open Go.RowKit lex

def inAt (w : World) (A : Addr) (n : Int) : Prop := w.cell? A = some (.int .i64 n)
theorem inAt.keep {w1 w2 : World} {A : Addr} {n : Int} (h : inAt w1 A n) (hb : Below w1.heap.size w1 w2) : inAt w2 A n := cell_later' hb h
abbrev Ins := Rw 1 inAt
theorem Ins.keep {w1 w2 : World} {v : Value} {l : List Int} (h : Ins w1 v l) (hb : Below w1.heap.size w1 w2) : Ins w2 v l := Rw.keep (P := inAt) (fun h hb => inAt.keep h hb) h hb
theorem take_same {a b : List Int} {k : Nat} (ha : k < a.length) (hb : k < b.length) (h : a.take k = b.take k) (he : a[k] = b[k]) : a.take (k + 1) = b.take (k + 1) := by
  rw [List.take_succ_eq_append_getElem ha, List.take_succ_eq_append_getElem hb, h, he]
set_option maxRecDepth 100000 in
set_option maxHeartbeats 4000000 in
theorem gsameints_of (v v2 : Value) (a b : List Int) (R : Bool) (w : World) (h1 : Hid (Ins w v a)) (h2 : Hid (Ins w v2 b)) (hr : Hid (decide (a = b) = R)) :
    Calls Try.prog 18 #[v, v2] w fun e w' => e = .returned (.bool R) ∧ Below w.heap.size w w' := by
  obtain ⟨ao, ac, rfl, -, hm1, -⟩ := id h1.out
  obtain ⟨bo, bc, rfl, -, hm2, -⟩ := id h2.out
  unfold maxLen at hm1 hm2
  have hla : a.length ≤ 9223372036854775807 := by have := h1.out; obtain ⟨_, _, e, hc, hm, _⟩ := this; cases e; unfold maxLen at hm; omega
  have hlb : b.length ≤ 9223372036854775807 := by have := h2.out; obtain ⟨_, _, e, hc, hm, _⟩ := this; cases e; unfold maxLen at hm; omega
  clear hm1 hm2
  have hfe := hr.out
  by_cases hl : a.length = b.length
  case neg =>
    have b0 : ((a.length : Int) != (b.length : Int)) = true := by rw [bne_iff_ne]; omega
    rw [decide_eq_false (fun e => hl (by rw [e]))] at hfe
    subst hfe
    clear hl
    go_enter Try.func18, Try.ntmps18
    go_wp2
    go_ret
    exact ⟨rfl, Below.refl _ _⟩
  have b0 : ((a.length : Int) != (b.length : Int)) = false := by rw [hl]; simp
  have HR := Lib.hid hfe
  clear hfe hr
  go_enter Try.func18, Try.ntmps18
  go_wp2_with fail
  go_loopw [5] (fun iv wr => ∃ i : Nat, iv = .int .i64 i ∧ i ≤ a.length ∧ a.take i = b.take i ∧ Below w.heap.size w wr) (fun iv _ => a.length - (intOf iv).toNat)
  case atStart => exact ⟨0, rfl, Nat.zero_le _, rfl, Below.refl _ _⟩
  case round =>
    obtain ⟨i, rfl, hi, htk, hB⟩ := hrel
    rename World => wr
    have HB := Lib.hid hB
    by_cases hlt : i < a.length
    · have hlt2 : i < b.length := by omega
      obtain ⟨A, rfl, q0⟩ := (h1.out.keep hB).get hlt
      obtain ⟨B, rfl, p0⟩ := (h2.out.keep hB).get hlt2
      obtain ⟨x, hx⟩ : ∃ x, a[i] = x := ⟨_, rfl⟩
      obtain ⟨y, hy⟩ : ∃ y, b[i] = y := ⟨_, rfl⟩
      unfold inAt at q0 p0
      rw [hx, Nat.mul_one] at q0
      rw [hy, Nat.mul_one] at p0
      have i0 : (0 : Int) ≤ (i : Int) := by omega
      have i1 : (i : Int) < (a.length : Int) := by omega
      have i2 : (i : Int) < (b.length : Int) := by omega
      by_cases hxy : x = y
      · have b1 : (x != y) = false := by rw [hxy]; simp
        have HT := Lib.hid (take_same hlt hlt2 htk (by rw [hx, hy, hxy]))
        clear htk hx hy hxy hB
        go_wp2_with fail
        go_quiet (fail)
        have HB3 := Lib.hid (below_keep (drew_n wr nq) HB.out)
        generalize wr.drewN nq = w3 at HB3 ⊢
        go_wp2
        go_roundw
        case rel => exact ⟨i + 1, by go_num, by omega, HT.out, HB3.out⟩
        case measure => simp [intOf]; omega
      · have b1 : (x != y) = true := by rw [bne_iff_ne]; exact hxy
        have hfe := HR.out
        rw [decide_eq_false (fun e => hxy (by subst e; rw [← hx, ← hy]))] at hfe
        subst hfe
        clear htk hx hy hxy hB
        go_wp2_with fail
        go_quiet (fail)
        have HB3 := Lib.hid (below_keep (drew_n wr nq) HB.out)
        generalize wr.drewN nq = w3 at HB3 ⊢
        go_wp2
        go_ret
        exact ⟨rfl, HB3.out⟩
    · have hfe := HR.out
      rw [decide_eq_true (by rw [List.take_of_length_le (by omega), List.take_of_length_le (by omega)] at htk; exact htk)] at hfe
      subst hfe
      clear htk hB
      go_wp2
      go_ret
      exact ⟨rfl, HB.out⟩
end Go.Proofs.Ytjeacpohanadnaa.gra
