/-
  Arrays and slices of integers: an array by value at an index, a new block of integers at a place. No function of the program is named here; no condition.
-/
import Derived.Great.BuildSlice
import Derived.Laws.Rows
import Derived.ChangeKeysEq
namespace Go.Proofs.Ytfdhnjoiklhiaaa

/-- 'a[i]' of an array of ints by value, i in range. -/
theorem run_index_ints {P : Program} (w : World) {t e : TypeId} {n : Nat} (zs : List Int) (k : IntKind) (i : Int) (h : P.underlying t = some (.array n e)) (he : P.underlying e = some (.int .i64))
    (hs : (P.info? e).map (·.size) = some 1) (hn : zs.length = n) (h0 : 0 ≤ i) (h1 : i < n) :
    (Instr.index t (.agg (zs.map (Value.int .i64)).toArray) (.int k i)).run P w = .ok (.int .i64 (zs.getD i.toNat 0)) w := by
  have hb : i.toNat < zs.length := by omega
  have hv : (zs.map (Value.int .i64)).toArray[i.toNat * 1]? = some (.int .i64 (zs.getD i.toNat 0)) := by
    simp [List.getD, List.getElem?_eq_getElem hb]
  cases hq : P.info? e with
  | none => simp [hq] at hs
  | some ie =>
    have h1s : ie.size = 1 := by simpa [hq] using hs
    have hp : P.plainKey e = true := by unfold Program.plainKey; simp [he]
    have hc : 0 ≤ i ∧ i < (n : Int) := ⟨h0, h1⟩
    have hz : (sizeOf e).run P w = .ok 1 w := by simp [sizeOf, typeInfo, hq, h1s]
    simp only [Instr.index, asIntOf, Sem.run_bind, Sem.run_pure, run_underlying h, Result.andThen_ok, if_pos hc, hz]
    exact run_part_plain w hp hv
/-- A place of a new block of ints. -/
theorem cell_ints (w : World) (zs : List Int) (t : TypeId) (j : Nat) (hj : j < zs.length) :
    (w.alloc (.cells (zs.map (Value.int .i64)).toArray t)).cell? ⟨w.heap.size, j, none⟩ = some (.int .i64 (zs.getD j 0)) := by
  rw [cell_of_row _ _ j _ t (0, 0) (heap_alloc_new w _)]
  simp [List.getD, List.getElem?_eq_getElem hj]
end Go.Proofs.Ytfdhnjoiklhiaaa
