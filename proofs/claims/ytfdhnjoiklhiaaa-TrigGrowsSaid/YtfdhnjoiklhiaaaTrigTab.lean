/-
  What the two tables of layer 5 return: the array that the code builds, the place that the reference reads. Conditions: the reference's place is from 0 to 90; no other.
-/
import Derived.Test.YtfdhnjoiklhiaaaKit
import Derived.Test.YtfdhnjoiklhiaaaTrigPlain
import Derived.Test.YtfdhnjoiklhiaaaInts
import Derived.Deep.WholeRow
import Derived.Great.Walk
namespace Go.Proofs.Ytfdhnjoiklhiaaa
open Go.RowKit

/-- The table as an array by value. -/
def sinV : Array Value := (sinL.map (Value.int .i64)).toArray
def zeroV : Array Value := (List.replicate 91 (Value.int .i64 0)).toArray
theorem sinV_size : sinV.size = 91 := by kernel_rfl
theorem zeroV_size : zeroV.size = 91 := by kernel_rfl
theorem info_arr : (Try.prog.info? 31).map (fun i => (i.zero, i.size)) = some (some (.agg zeroV), 91) := by kernel_rfl
theorem size_arr : (Try.prog.info? 31).map (·.size) = some 91 := by kernel_rfl
theorem one_sinV : sinV.all (·.oneCell') = true := by kernel_rfl

/-- An array of ints is laid: its block holds zeros. -/
theorem run_alloc_arr (w : World) (old : Value) : (Instr.alloc 31 true old).run Try.prog w = .ok (.pointer (some ⟨w.heap.size, 0, none⟩)) (w.alloc (.cells zeroV 31)) := by
  have h := (zero_of_info (P := Try.prog) info_arr).1 w
  simp only [Instr.alloc, Sem.run_bind, h, Result.andThen_ok, newVar, Sem.run_pure]
  rfl

theorem wpList_alloc_arr {ops : Array Oper} {rest : List Oper} {o : Oper} {a : Act} {w : World} {Q : Exit → Act → World → Prop} (hg : o.guard = none) (dst : Option Tmp) (hdst : o.dst = dst) (ho : o.op = .alloc 31)
    (h : wpList Try.prog ops Q rest (a.put dst (.pointer (some ⟨w.heap.size, 0, none⟩))) (w.alloc (.cells zeroV 31))) : wpList Try.prog ops Q (o :: rest) a w := by
  refine Great.wpList_allocTo hg dst hdst _ _ ?_ h
  unfold execOp
  simp only [ho, Sem.run_bind, run_alloc_arr, Result.andThen_ok]
  rfl

set_option maxRecDepth 1000000 in
theorem sines_any (w : World) :
    Calls Try.prog 17 #[] w fun e w' => e = .returned (.agg sinV) ∧ Below w.heap.size w w' := by
  go_enter Try.func17, Try.ntmps17
  refine wp_seq ?_
  apply wp_region_lit
  refine wpList_alloc_arr rfl (some 0) rfl rfl ?_
  refine wpList_nil ?_
  refine wp_seq ?_
  apply wp_region_lit
  refine wpList_buildFlatArr rfl 31 3 91 _ rfl .i64 sinL (by kernel_rfl) (by kernel_rfl) (by kernel_rfl) (by kernel_rfl) ?_
  refine wpList_store_row rfl 31 _ _ rfl w.heap.size sinV rfl rfl 31 zeroV (heap_alloc_last w _) (by rw [sinV_size]; exact size_arr) (by rw [sinV_size, zeroV_size]) one_sinV ?_
  refine wpList_nil ?_
  refine wp_ret ?_
  rw [World.setRow_alloc_new]
  exact bodyPost_ret (results_cell_row rfl _ _ w.heap.size 31 sinV (0, 0) _ (by kernel_rfl) (heap_alloc_last w _) Try.underlying31 rfl (by rw [sinV_size]; exact size_arr)) rfl ⟨rfl, al1 w _⟩

set_option maxRecDepth 1000000 in
theorem table_any (d : Int) (w : World) (h0 : 0 ≤ d) (h1 : d ≤ 90) :
    Calls Try.prog 23 #[.int .i64 d] w fun e w' => e = .returned (.int .i64 (sinT d)) ∧ Below w.heap.size w w' := by
  go_enter Try.func23, Try.ntmps23
  refine wp_seq ?_
  apply wp_region_lit
  refine Great.wpList_readTo rfl (some 2) rfl (.int .i64 0) rfl ?_
  refine wpList_nil ?_
  refine wp_seq ?_
  apply wp_region_lit
  refine wpList_buildFlat rfl 35 3 91 _ rfl .i64 sinL (by kernel_rfl) (by kernel_rfl) (by kernel_rfl) (by kernel_rfl) (by decide) (by decide) (by kernel_rfl) ?_
  refine Great.wpList_readTo rfl (some 3) rfl (.slice (some ⟨w.heap.size, 0, none⟩) 91 91) rfl ?_
  refine wpList_nil ?_
  change Code.wp _ _ _ ⟨#[.int .i64 d, undef, .int .i64 0, .slice (some ⟨w.heap.size, 0, none⟩) 91 91, .slice (some ⟨w.heap.size, 0, none⟩) 91 91, undef, undef, undef, undef], []⟩ (w.alloc (.cells (sinL.map (Value.int .i64)).toArray 3))
  have hb : Below w.heap.size w (w.alloc (.cells (sinL.map (Value.int .i64)).toArray 3)) := al1 w _
  have hc : (w.alloc (.cells (sinL.map (Value.int .i64)).toArray 3)).cell? ⟨w.heap.size, d.toNat, none⟩ = some (.int .i64 (sinT d)) := cell_ints w sinL 3 d.toNat (by rw [sinL_len]; omega)
  generalize w.alloc (.cells (sinL.map (Value.int .i64)).toArray 3) = W at hb hc ⊢
  generalize w.heap.size = B at *
  have h2 : d < 91 := by omega
  go_wp2
  go_ret
  exact ⟨rfl, hb⟩
end Go.Proofs.Ytfdhnjoiklhiaaa
