/-
  What Same of the reference of layer 6 returns for two slices of the same tokens; comparing a token with itself. No condition.
-/
import Derived.Test.YtcohjleolidngaaLexEq
import Derived.Laws.StructEq
import Derived.Deep.QuietTactic
namespace Go.Proofs.Ytcohjleolidngaa
open Go.RowKit lex

theorem below_drewT (w : World) (n : Nat) : Below w.heap.size w (w.drewN n) := ⟨rfl, rfl, rfl, Nat.le_refl _, fun _ _ => rfl⟩
set_option maxRecDepth 100000 in
set_option maxHeartbeats 4000000 in
theorem rsame_some (A B : Addr) (c d : Nat) (l : List Tok) (w : World) (hm : l.length ≤ 1000000) (h0 : 0 < l.length) (ha : Hid (Tl w (.slice (some A) l.length c) l)) (hb : Hid (Tl w (.slice (some B) l.length d) l)) :
    Calls Try.prog 16 #[.slice (some A) l.length c, .slice (some B) l.length d] w fun e w' => e = .returned (.bool true) ∧ Below w.heap.size w w' := by
  have hg := guard_tok
  go_enter Try.func16, Try.ntmps16
  go_wp2_with fail
  go_loopw [5] (fun i wr => ∃ k : Nat, k ≤ l.length ∧ i = .int .i64 k ∧ Below w.heap.size w wr) (fun i _ => l.length - (intOf i).toNat)
  case atStart => exact ⟨0, Nat.zero_le _, rfl, Below.refl _ _⟩
  case round =>
    obtain ⟨k, hk, rfl, hB⟩ := hrel
    rename World => wr
    by_cases hlt : k < l.length
    · obtain ⟨A', eA, _, a0, a1, a2, a3⟩ := (ha.out.keep hB).at' hlt
      obtain ⟨B', eB, _, b0, b1, b2, b3⟩ := (hb.out.keep hB).at' hlt
      obtain rfl : A = A' := Option.some.inj eA
      obtain rfl : B = B' := Option.some.inj eB
      have hq := neq_tok (tokAt l k).kind (tokAt l k).num (tokAt l k).line ⟨(tokAt l k).text.toArray⟩
      have z0 : (0 : Int) ≤ (k : Int) := by omega
      have z1 : (k : Int) < (l.length : Int) := by omega
      go_wp2_with fail
      go_quiet (fail)
      have hB2 := below_keep (below_drewT wr nq) hB
      generalize wr.drewN nq = wn at hB2 ⊢
      go_wp2
      go_roundw
      case rel => exact ⟨k + 1, by omega, by go_num, hB2⟩
      case measure => simp [intOf]; omega
    · obtain rfl : k = l.length := by omega
      go_wp2
      go_ret
      exact ⟨rfl, hB⟩
theorem rsame_none (ao bo : Option Addr) (c d : Nat) (w : World) :
    Calls Try.prog 16 #[.slice ao 0 c, .slice bo 0 d] w fun e w' => e = .returned (.bool true) ∧ Below w.heap.size w w' := by
  go_enter Try.func16, Try.ntmps16
  go_wp2_with fail
  go_loopw [5] (fun i wr => i = .int .i64 0 ∧ w = wr) (fun _ _ => 0)
  case atStart => exact ⟨rfl, rfl⟩
  case round =>
    obtain ⟨rfl, rfl⟩ := hrel
    go_wp2
    go_ret
    exact ⟨rfl, Below.refl _ _⟩
theorem rsame_of (v1 v2 : Value) (l : List Tok) (w : World) (hm : l.length ≤ 1000000) (ha : Hid (Tl w v1 l)) (hb : Hid (Tl w v2 l)) :
    Calls Try.prog 16 #[v1, v2] w fun e w' => e = .returned (.bool true) ∧ Below w.heap.size w w' := by
  obtain ⟨ao, c, rfl, _, hA⟩ := ha.out
  obtain ⟨bo, d, rfl, _, hB⟩ := hb.out
  rcases Nat.eq_zero_or_pos l.length with h | h
  · rw [h]; exact rsame_none ao bo c d w
  · obtain ⟨A, rfl, _⟩ := hA h
    obtain ⟨B, rfl, _⟩ := hB h
    exact rsame_some A B c d l w hm h ha hb
end Go.Proofs.Ytcohjleolidngaa
