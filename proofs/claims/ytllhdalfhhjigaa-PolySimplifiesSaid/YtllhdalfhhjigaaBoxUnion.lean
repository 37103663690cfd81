/-
  What Union of layer 3 and of its reference return: the union of the boxes of a slice. Conditions: the slice's cells hold the boxes; it has at most a thousand.
-/
import Derived.Test.YtllhdalfhhjigaaBoxValid
import Derived.Test.YtllhdalfhhjigaaBoxUni
import Derived.LoopTactic
namespace Go.Proofs.Ytllhdalfhhjigaa
open Go.RowKit

/-- The boxes of a slice in memory. -/
def Sl (w : World) (v : Value) (n : Nat) (X Y Z U : Nat → Int) : Prop := ∃ (ao : Option Addr) (cap : Nat), v = .slice ao n cap ∧ n ≤ cap ∧ (0 < n → ∃ A, ao = some A ∧ ∀ i, i < n →
  w.cell? (A.add (i * 4)) = some (.int .i64 (X i)) ∧ w.cell? ⟨(A.add (i * 4)).block, (A.add (i * 4)).off + 1, none⟩ = some (.int .i64 (Y i)) ∧ w.cell? ⟨(A.add (i * 4)).block, (A.add (i * 4)).off + 2, none⟩ = some (.int .i64 (Z i)) ∧ w.cell? ⟨(A.add (i * 4)).block, (A.add (i * 4)).off + 3, none⟩ = some (.int .i64 (U i)))
theorem Sl.keep {w1 w2 : World} {v : Value} {n : Nat} {X Y Z U : Nat → Int} (h2 : Below w1.heap.size w1 w2) (h : Sl w1 v n X Y Z U) : Sl w2 v n X Y Z U := by
  obtain ⟨ao, cap, rfl, hc, hA⟩ := h
  refine ⟨ao, cap, rfl, hc, fun hn => ?_⟩
  obtain ⟨A, hA1, hA2⟩ := hA hn
  refine ⟨A, hA1, fun i hi => ?_⟩
  obtain ⟨h0, h1, h2', h3⟩ := hA2 i hi
  exact ⟨cell_later' h2 h0, cell_later' h2 h1, cell_later' h2 h2', cell_later' h2 h3⟩
set_option maxHeartbeats 4000000 in
theorem union_of (v : Value) (n : Nat) (X Y Z U : Nat → Int) (f : Bool) (a b c d : Int) (w : World) (hn : n ≤ 1000) (hs : Sl w v n X Y Z U) (hu : Hid (uni X Y Z U n = (f, (a, b, c, d)))) :
    Calls Try.prog 33 #[v] w fun e w' => e = .returned (.agg #[.int .i64 a, .int .i64 b, .int .i64 c, .int .i64 d]) ∧ Below w.heap.size w w' := by
  obtain ⟨ao, cap, rfl, hcap, hA⟩ := hs
  have HA := Lib.hid hA
  clear hA
  go_enter Try.func33, Try.ntmps33
  go_wp2_with fail
  go_loopw [4, 10] (fun f i wr => ∃ (k : Nat) (v : Bool) (x y z u : Int), k ≤ n ∧ f = .bool v ∧ i = .int .i64 k ∧ uni X Y Z U k = (v, (x, y, z, u)) ∧ Below w.heap.size w wr ∧ ow4 wr w.heap.size 0 0 0 0 ∧ ow4 wr (w.heap.size + 1) x y z u) (fun _ i _ => n - (intOf i).toNat)
  case atStart => exact ⟨0, false, 0, 0, 0, 0, Nat.zero_le _, rfl, rfl, rfl, al2 .., ow4_keep (al1 ..) (ow4_new w 0 0 0 0 27), by have := ow4_new (w.alloc (.cells #[.int .i64 0, .int .i64 0, .int .i64 0, .int .i64 0] 27)) 0 0 0 0 27; simpa using this⟩
  case round =>
    obtain ⟨k, g, x, y, z, u, hk, rfl, rfl, hv, hB, hR, hU⟩ := hrel
    rename_i wr
    have HV := Lib.hid hv
    clear hv
    have hzr : w.heap.size + 1 < wr.heap.size := World.block_lt_of_cell? wr _ hU.1
    have hzq : w.heap.size < wr.heap.size := by omega
    by_cases hlt : k < n
    · obtain ⟨A, rfl, hc⟩ := HA.out (by omega)
      obtain ⟨c0, c1, c2, c3⟩ := hc k hlt
      have d0 := cell_later' hB c0
      have d1 := cell_later' hB c1
      have d2 := cell_later' hB c2
      have d3 := cell_later' hB c3
      clear c0 c1 c2 c3 hc
      obtain ⟨p, hp⟩ : ∃ v, bvld (X k) (Y k) (Z k) (U k) = v := ⟨_, rfl⟩
      have HP := Lib.hid hp
      clear hp
      cases p
      · go_wp2_with fail
        refine (bvalid_of _ _ _ _ _ _ HP).mono ?_
        rintro e w1 ⟨rfl, hb1⟩
        go_wp2
        go_roundw
        case rel => exact ⟨k + 1, g, x, y, z, u, by omega, rfl, by go_num, by rw [uni_no HP.out]; exact HV.out, below_keep hb1 (below_keep (al1 ..) hB), ow4_keep hb1 (ow4_keep (al1 ..) hR), ow4_keep hb1 (ow4_keep (al1 ..) hU)⟩
        case measure => simp [intOf]; omega
      · cases g
        · go_wp2_with fail
          refine (bvalid_of _ _ _ _ _ _ HP).mono ?_
          rintro e w1 ⟨rfl, hb1⟩
          have hB1 : Below w.heap.size w w1 := below_keep hb1 (below_keep (al1 ..) hB)
          have hR1 := ow4_keep hb1 (ow4_keep (al1 ..) hR)
          have hU1 := ow4_keep hb1 (ow4_keep (al1 ..) hU)
          have hN1 := ow4_keep hb1 (ow4_new wr (X k) (Y k) (Z k) (U k) 27)
          clear hb1
          obtain ⟨e0, e1, e2, e3, e4, e5, e6, e7⟩ := id hU1
          obtain ⟨n0, n1, n2, n3, n4, n5, n6, n7⟩ := id hN1
          go_wp2
          go_roundw
          case rel => exact ⟨k + 1, true, X k, Y k, Z k, U k, by omega, rfl, by go_num, uni_first HP.out HV.out, set4 hB1 (by omega), ow4_far (by omega) hR1, ow4_set _ _ _ _ hU1⟩
          case measure => simp [intOf]; omega
        · go_wp2_with fail
          refine (bvalid_of _ _ _ _ _ _ HP).mono ?_
          rintro e w1 ⟨rfl, hb1⟩
          have hB1 : Below w.heap.size w w1 := below_keep hb1 (below_keep (al1 ..) hB)
          have hR1 := ow4_keep hb1 (ow4_keep (al1 ..) hR)
          have hU1 := ow4_keep hb1 (ow4_keep (al1 ..) hU)
          have hN1 := ow4_keep hb1 (ow4_new wr (X k) (Y k) (Z k) (U k) 27)
          clear hb1
          obtain ⟨e0, e1, e2, e3, e4, e5, e6, e7⟩ := id hU1
          obtain ⟨n0, n1, n2, n3, n4, n5, n6, n7⟩ := id hN1
          go_wp2
          go_roundw
          case rel => exact ⟨k + 1, true, min x (X k), min y (Y k), max z (Z k), max u (U k), by omega, rfl, by go_num, uni_more HP.out HV.out, set4 (set4 hB1 (by omega)) (by omega), ow4_far (by omega) (ow4_far (by omega) hR1), ow4_set _ _ _ _ (ow4_far (by omega) hU1)⟩
          case measure => simp [intOf]; omega
    · obtain rfl : n = k := by omega
      obtain ⟨rfl, rfl, rfl, rfl, rfl⟩ : g = f ∧ x = a ∧ y = b ∧ z = c ∧ u = d := by
        have := HV.out.symm.trans hu.out
        simpa using this
      obtain ⟨e0, e1, e2, e3, e4, e5, e6, e7⟩ := id hU
      obtain ⟨r0, r1, r2, r3, r4, r5, r6, r7⟩ := id hR
      clear hU hR
      go_wp2
      exact bodyPost_ret (v := .agg #[.int .i64 x, .int .i64 y, .int .i64 z, .int .i64 u]) (by simp [results, Try.results33, go_sem, r0, r1, r2, r3]) rfl ⟨rfl, set4 hB (by omega)⟩

end Go.Proofs.Ytllhdalfhhjigaa
