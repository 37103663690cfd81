/-
  What small of the statements of layer 6 answers: whether tokens are few and their texts short; tokens that came in. No condition.
-/
import Derived.Test.YtcohjleolidngaaDoorToks
import Derived.Test.YtcohjleolidngaaDoorLexVal
namespace Go.Proofs.YtcohjleolidngaaDoor
open Go.RowKit lex

/-- Few tokens with short texts. -/
def smallT (l : List Tok) : Bool := decide (l.length ≤ 200) && l.all fun t => decide (t.text.length ≤ 200)
theorem smallT_iff (l : List Tok) : smallT l = true ↔ l.length ≤ 200 ∧ ∀ t ∈ l, t.text.length ≤ 200 := by
  unfold smallT; simp
theorem smallT_big {l : List Tok} {k : Nat} (h : k < l.length) (hb : 200 < (tokAt l k).text.length) : smallT l = false := by
  cases hs : smallT l
  · rfl
  · have := ((smallT_iff l).1 hs).2 _ (tokAt_mem h); omega
theorem smallT_end {l : List Tok} (h : ∀ j, j < l.length → (tokAt l j).text.length ≤ 200) (hl : l.length ≤ 200) : smallT l = true := by
  refine (smallT_iff l).2 ⟨hl, fun t ht => ?_⟩
  obtain ⟨j, hj, rfl⟩ := List.mem_iff_getElem.1 ht
  have := h j hj
  unfold tokAt at this
  rwa [List.getD_eq_getElem?_getD, List.getElem?_eq_getElem hj] at this
theorem smallT_long {l : List Tok} (hl : 200 < l.length) : smallT l = false := by
  cases hs : smallT l
  · rfl
  · have := ((smallT_iff l).1 hs).1; omega

set_option maxHeartbeats 4000000 in
theorem small_some (A : Addr) (c : Nat) (l : List Tok) (w : World) (ha : Hid (Tl w (.slice (some A) l.length c) l)) :
    Calls Tryd.prog 5 #[.slice (some A) l.length c] w fun e w' => e = .returned (.bool (smallT l)) ∧ Below w.heap.size w w' := by
  go_enter Tryd.func5, Tryd.ntmps5
  go_wp2_with fail
  go_loopw [3] (fun i wr => ∃ k : Nat, k ≤ l.length ∧ k ≤ 201 ∧ i = .int .i64 k ∧ w = wr ∧ ∀ j, j < k → (tokAt l j).text.length ≤ 200) (fun i _ => l.length - (intOf i).toNat)
  case atStart => exact ⟨0, Nat.zero_le _, by omega, rfl, rfl, fun j hj => absurd hj (by omega)⟩
  case round =>
    obtain ⟨k, hk, hk2, rfl, rfl, hj⟩ := hrel
    have HJ := Lib.hid hj
    clear hj
    by_cases hlt : k < l.length
    · by_cases hq : k ≤ 200
      · obtain ⟨A', eA, e1, a0, a1, a2, a3⟩ := ha.out.at' hlt
        obtain rfl : A = A' := Option.some.inj eA
        clear e1 eA
        have z0 : (0 : Int) ≤ (k : Int) := by omega
        have z1 : (k : Int) < (l.length : Int) := by omega
        by_cases hb : (tokAt l k).text.length ≤ 200
        · have d1 : (k : Int) ≤ 200 := by omega
          have d2 : ¬ (200 : Int) < ((tokAt l k).text.length : Int) := by omega
          go_wp2
          go_roundw
          case rel => exact ⟨k + 1, by omega, by omega, by go_num, trivial, fun j hj => by
            rcases Nat.lt_succ_iff_lt_or_eq.1 hj with h | rfl
            · exact HJ.out j h
            · exact hb⟩
          case measure => simp [intOf]; omega
        · have d2 : (200 : Int) < ((tokAt l k).text.length : Int) := by omega
          go_wp2
          go_ret
          exact ⟨ret_bool (smallT_big hlt (by omega)).symm, Below.refl _ _⟩
      · have d1 : ¬ (k : Int) ≤ 200 := by omega
        have d2 : ¬ (l.length : Int) ≤ 200 := by omega
        have z1 : (k : Int) < (l.length : Int) := by omega
        go_wp2
        go_ret
        exact ⟨by rw [smallT_long (by omega)]; simp, Below.refl _ _⟩
    · obtain rfl : k = l.length := by omega
      by_cases hq : l.length ≤ 200
      · have d1 : (l.length : Int) ≤ 200 := by omega
        go_wp2
        go_ret
        exact ⟨by rw [smallT_end HJ.out hq]; simp, Below.refl _ _⟩
      · have d1 : ¬ (l.length : Int) ≤ 200 := by omega
        go_wp2
        go_ret
        exact ⟨by rw [smallT_long (by omega)]; simp, Below.refl _ _⟩
theorem small_none (ao : Option Addr) (c : Nat) (w : World) :
    Calls Tryd.prog 5 #[.slice ao 0 c] w fun e w' => e = .returned (.bool true) ∧ Below w.heap.size w w' := by
  go_enter Tryd.func5, Tryd.ntmps5
  go_wp2_with fail
  go_loopw [3] (fun i wr => i = .int .i64 0 ∧ w = wr) (fun _ _ => 0)
  case atStart => exact ⟨rfl, rfl⟩
  case round =>
    obtain ⟨rfl, rfl⟩ := hrel
    go_wp2
    go_ret
    exact ⟨rfl, Below.refl _ _⟩
theorem small_of (v : Value) (l : List Tok) (b : Bool) (w : World) (ha : Hid (Tl w v l)) (hb : Hid (smallT l = b)) :
    Calls Tryd.prog 5 #[v] w fun e w' => e = .returned (.bool b) ∧ Below w.heap.size w w' := by
  obtain ⟨ao, c, rfl, _, hA⟩ := ha.out
  rw [← hb.out]
  rcases Nat.eq_zero_or_pos l.length with h | h
  · obtain rfl : l = [] := List.length_eq_zero_iff.1 h
    exact small_none ao c w
  · obtain ⟨A, rfl, _⟩ := hA h
    exact small_some A c l w ha
end Go.Proofs.YtcohjleolidngaaDoor
