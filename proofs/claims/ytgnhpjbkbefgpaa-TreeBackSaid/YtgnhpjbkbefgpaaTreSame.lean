/-
  What the law's same of layer 7 returns: whether two lists of names are equal. Condition: the lists lie in memory.
-/
import Derived.Test.YtgnhpjbkbefgpaaTreNl
import Derived.Test.YtgnhpjbkbefgpaaTreAtt
import Derived.Deep.QuietTactic
namespace Go.Proofs.Ytgnhpjbkbefgpaa.tre
open Go.RowKit lex

theorem beq_drop {l m : List (List UInt8)} {k : Nat} (hl : k < l.length) (hm : k < m.length) : (l.drop k == m.drop k) = ((l[k] == m[k]) && (l.drop (k + 1) == m.drop (k + 1))) := by
  rw [List.drop_eq_getElem_cons hl, List.drop_eq_getElem_cons hm]; rfl
set_option maxRecDepth 100000 in
set_option maxHeartbeats 8000000 in
theorem same_of (v1 v2 : Value) (l m : List (List UInt8)) (r : Bool) (w : World) (ha : Hid (Nl w v1 l)) (hb : Hid (Nl w v2 m)) (hr : Hid ((l == m) = r)) :
    Calls Try.prog 16 #[v1, v2] w fun e w' => e = .returned (.bool r) ∧ Below w.heap.size w w' := by
  have hmx : Try.prog.follows .mixedOrders = true := by kernel_rfl
  obtain ⟨ao, cap, rfl, hc1, hm1, _⟩ := id ha.out
  obtain ⟨bo, cbp, rfl, hc2, hm2, _⟩ := id hb.out
  unfold maxLen at hm1 hm2
  have hlm : l.length ≤ 9223372036854775807 := by omega
  have hmm : m.length ≤ 9223372036854775807 := by omega
  clear hc1 hm1 hc2 hm2
  by_cases hle : l.length = m.length
  · have HR : Hid ((l.drop 0 == m.drop 0) = r) := Lib.hid (by rw [List.drop_zero, List.drop_zero]; exact hr.out)
    have b0 : ((l.length : Int) != (m.length : Int)) = false := by rw [bne_eq_false_iff_eq]; omega
    clear hr
    go_enter Try.func16, Try.ntmps16
    go_wp2_with fail
    go_loopw [5] (fun iv wr => ∃ k : Nat, iv = .int .i64 k ∧ k ≤ l.length ∧ (l.drop k == m.drop k) = r ∧ Below w.heap.size w wr) (fun iv _ => l.length - (intOf iv).toNat)
    case atStart => exact ⟨0, rfl, Nat.zero_le _, HR.out, Below.refl _ _⟩
    case round =>
      obtain ⟨k, rfl, hk, hfe, hB⟩ := hrel
      rename World => wr
      have HFE := Lib.hid hfe
      clear hfe HR
      by_cases hlt : k < l.length
      · have hlt2 : k < m.length := by omega
        obtain ⟨A, rfl, ca⟩ := (ha.out.keep hB).get hlt
        obtain ⟨B, rfl, cb⟩ := (hb.out.keep hB).get hlt2
        have hst := HFE.out
        rw [beq_drop hlt hlt2] at hst
        obtain ⟨x, hx⟩ : ∃ x, l[k] = x := ⟨_, rfl⟩
        obtain ⟨y, hy⟩ : ∃ y, m[k] = y := ⟨_, rfl⟩
        rw [hx, hy] at hst
        rw [hx] at ca
        rw [hy] at cb
        have i0 : (0 : Int) ≤ (k : Int) := by omega
        have i1 : (k : Int) < (l.length : Int) := by omega
        have i2 : (k : Int) < (m.length : Int) := by omega
        clear hx hy HFE
        obtain ⟨X, hX⟩ : ∃ X, bb x = X := ⟨_, rfl⟩
        obtain ⟨Y, hY⟩ : ∃ Y, bb y = Y := ⟨_, rfl⟩
        have hX2 : X.toList = x := by rw [← hX, ByteArray.toList_eq]
        have hY2 : Y.toList = y := by rw [← hY, ByteArray.toList_eq]
        rw [hX] at ca
        rw [hY] at cb
        obtain ⟨q, hq⟩ : ∃ q, (x == y) = q := ⟨_, rfl⟩
        have b1 : (X.toList == Y.toList) = q := by rw [hX2, hY2]; exact hq
        rw [hq] at hst
        clear hX hY hX2 hY2 hq hle
        cases q
        · have HN : Hid (r = false) := Lib.hid (by rw [← hst]; rfl)
          obtain rfl := HN.out
          have b2 : (X.toList != Y.toList) = true := by rw [bne, b1]; rfl
          clear hst
          go_wp2_with fail
          go_quiet (fail)
          have hB2 := below_keep (below_drewT wr nq) hB
          generalize wr.drewN nq = wn at hB2 ⊢
          go_wp2
          go_ret
          exact ⟨rfl, hB2⟩
        · have HN : Hid ((l.drop (k + 1) == m.drop (k + 1)) = r) := Lib.hid (by rw [← hst]; rfl)
          have b2 : (X.toList != Y.toList) = false := by rw [bne, b1]; rfl
          clear hst
          go_wp2_with fail
          go_quiet (fail)
          have hB2 := below_keep (below_drewT wr nq) hB
          generalize wr.drewN nq = wn at hB2 ⊢
          go_wp2
          go_roundw
          case rel => exact ⟨k + 1, by go_num, by omega, HN.out, hB2⟩
          case measure => simp [intOf]; omega
      · obtain rfl : k = l.length := by omega
        have HN : Hid (r = true) := Lib.hid (by rw [← HFE.out, List.drop_length, hle, List.drop_length]; rfl)
        obtain rfl := HN.out
        go_wp2
        go_ret
        exact ⟨rfl, hB⟩
  · have HN : Hid (r = false) := Lib.hid (by
      rw [← hr.out, beq_eq_false_iff_ne]
      exact fun e => hle (by rw [e]))
    have b0 : ((l.length : Int) != (m.length : Int)) = true := by rw [bne_iff_ne]; omega
    obtain rfl := HN.out
    clear hr
    go_enter Try.func16, Try.ntmps16
    go_wp2
    go_ret
    exact ⟨rfl, Below.refl _ _⟩
end Go.Proofs.Ytgnhpjbkbefgpaa.tre
