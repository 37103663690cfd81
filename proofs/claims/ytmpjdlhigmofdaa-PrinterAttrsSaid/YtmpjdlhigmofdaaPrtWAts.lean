/-
  The walk of the statement PrinterAttrs of layer 8. No condition.
-/
import Derived.Test.YtmpjdlhigmofdaaMPe
namespace Go.Proofs.Ytmpjdlhigmofdaa.prt
open Go.RowKit Go.Joins Go.ChangeAt Go.WideShapes Go.ChangeShapes lex tre

set_option maxRecDepth 100000 in
theorem open_attrs {H : Type} {enc : TypeId × Value → H} {w : World} {base : Nat} {spare : Nat → Bool} {held : Bool} {r : Reach} {b0 : Nat} {v : Value} {d : DataW H} {p : List MemPlace}
    (hv : Value.okWide Try.prog w r b0 28 v) (h : DataW.Trod enc Try.prog w base spare held 28 v d p) : ∃ l, Prs w v l := by
  obtain ⟨a0, len, cap, rfl⟩ := okWide_slice Try.underlying28 hv
  obtain ⟨fuel, hf⟩ := h
  obtain ⟨u, l, e, hp⟩ := open_prs Try.underlying28 Try.underlying30 (by kernel_rfl) ⟨rfl, rfl⟩ ⟨rfl, rfl⟩ hf
  simp [Value.cells] at e
  subst e
  exact ⟨l, hp⟩
set_option maxRecDepth 100000 in
set_option maxHeartbeats 4000000 in
theorem wats (v : Value) (l : List Pr) (w : World) (h : Hid (Prs w v l)) :
    Calls Try.prog 4 #[v] w fun e w' => e = .returned (.bool true) ∧ Below w.heap.size w w' := by
  obtain ⟨ao, cap, rfl, -, -, -⟩ := id h.out
  by_cases h20 : (20 : Int) < (l.length : Int)
  · have e1 : decide (20 < l.length) = true := by simp; omega
    go_enter Try.func4, Try.ntmps4
    go_wp2_with (go_at_call 8; refine (pawk _).mono ?_; rintro e w1 ⟨rfl, hb1⟩)
    go_ret
    exact ⟨rfl, hb1⟩
  have hl : l.length ≤ 20 := by omega
  have e1 : decide (20 < l.length) = false := by simp; omega
  go_enter Try.func4, Try.ntmps4
  go_wp2_with fail
  go_loop [3] (fun i => ∃ k : Nat, i = .int .i64 k ∧ k ≤ l.length) (fun i => l.length - (intOf i).toNat)
  case atStart => exact ⟨0, rfl, Nat.zero_le _⟩
  case round =>
    obtain ⟨k, rfl, hk⟩ := hrel
    by_cases hlt : k < l.length
    · obtain ⟨A, rfl, p0, p1, z2, z3⟩ := h.out.get hlt
      obtain ⟨x, hx⟩ : ∃ x, l[k] = x := ⟨_, rfl⟩
      rw [hx] at p0 p1 z2 z3
      clear hx
      obtain ⟨X, hX⟩ : ∃ Y, bb x.1 = Y := ⟨_, rfl⟩
      obtain ⟨Y, hY⟩ : ∃ Y, bb x.2 = Y := ⟨_, rfl⟩
      rw [hX] at p0
      rw [hY] at p1
      have z0 : (0 : Int) ≤ (k : Int) := by omega
      have z1 : (k : Int) < (l.length : Int) := by omega
      clear hX hY z2 z3
      by_cases g1 : (100 : Int) < (X.size : Int)
      · have d1 : decide ((100 : Int) < (X.size : Int)) = true := decide_eq_true g1
        go_wp2_with (go_at_call 8; refine (pawk _).mono ?_; rintro e w1 ⟨rfl, hb1⟩)
        go_ret
        exact ⟨rfl, hb1⟩
      have d1 : decide ((100 : Int) < (X.size : Int)) = false := decide_eq_false g1
      by_cases g2 : (100 : Int) < (Y.size : Int)
      · have d2 : decide ((100 : Int) < (Y.size : Int)) = true := decide_eq_true g2
        go_wp2_with (go_at_call 8; refine (pawk _).mono ?_; rintro e w1 ⟨rfl, hb1⟩)
        go_ret
        exact ⟨rfl, hb1⟩
      have d2 : decide ((100 : Int) < (Y.size : Int)) = false := decide_eq_false g2
      go_wp2
      go_round
      case rel => exact ⟨k + 1, by go_num, by omega⟩
      case measure => simp [intOf]; omega
    · obtain rfl : k = l.length := by omega
      obtain ⟨Q, hQ⟩ : ∃ Q, bb (atsT l) = Q := ⟨_, rfl⟩
      have HQ : Hid (atsT l = Q.data.toList) := Lib.hid (by rw [← hQ])
      clear hQ
      go_wp2_with fail
      refine (cattrs_of l _ Q w h (by omega) HQ).mono ?_
      rintro e w1 ⟨rfl, hb1⟩
      have H1 := Lib.hid (h.out.keep hb1)
      go_wp2_with fail
      refine (rattrs_of l _ Q w1 H1 (by omega) HQ).mono ?_
      rintro e w2 ⟨rfl, hb2⟩
      have hB2 := below_keep hb2 hb1
      go_wp2_with (go_at_call 8; refine (pawk _).mono ?_; rintro e w3 ⟨rfl, hb3⟩)
      go_ret
      exact ⟨rfl, below_keep hb3 hB2⟩
end Go.Proofs.Ytmpjdlhigmofdaa.prt
