/-
  The walks of TopoReaches and TopoStrong over what awake and the code's functions return. No condition.
-/
import Derived.Test.YtncedgnpdojkkaaTpoAwk
import Derived.Test.YtncedgnpdojkkaaDrn
namespace Go.Proofs.Ytncedgnpdojkkaa.tpo
open Go.RowKit dig xpt

set_option maxRecDepth 100000 in
set_option maxHeartbeats 8000000 in
theorem wreaches (HA : AwakeSays) (HR : RchSays) (v : Value) (n x : Int) (l : List Ar) (w : World) (h : Hid (DgV w v n l)) :
    Calls Try.prog 4 #[v, .int .i64 x] w fun e w' => e = .returned (.bool true) ∧ Below w.heap.size w w' := by
  have hmx : Try.prog.follows .mixedOrders = true := by kernel_rfl
  obtain ⟨av, rfl, hl⟩ := id h.out
  obtain ⟨lo, lc, rfl, -, -, -⟩ := id hl
  obtain ⟨L, hL⟩ : ∃ L, rchV n l x = L := ⟨_, rfl⟩
  have HLV := Lib.hid hL
  have HA0 := Lib.hid hl
  obtain ⟨W1, hW1⟩ : ∃ W1, w.alloc (.cells #[.int .i64 n, .slice lo l.length lc] 24) = W1 := ⟨_, rfl⟩
  have HB : Hid (Below w.heap.size w W1) := Lib.hid (by rw [← hW1]; exact al1 ..)
  have HD : Hid (dgb W1 w.heap.size n (.slice lo l.length lc)) := Lib.hid (by rw [← hW1]; exact dgb_new ..)
  have HW1 := Lib.hid hW1
  clear hW1 hl h hL
  go_enter Try.func4, Try.ntmps4
  go_wp2_with fail
  rw [HW1.out]
  obtain ⟨g0, hg0⟩ : ∃ g, w.heap.size = g := ⟨_, rfl⟩
  rw [hg0] at HD
  try simp only [hg0]
  have HG0 := Lib.hid hg0
  clear hg0 HW1
  obtain ⟨c0, c1, -, -⟩ := HD.out
  refine tstart (fun W : World => W.cell? ⟨g0, 0, none⟩ = some (.int .i64 n) ∧ W.cell? ⟨g0, 1, none⟩ = some (.slice lo l.length lc)) 10 (by kernel_rfl) ⟨cell_later' (b_drew W1) c0, cell_later' (b_drew W1) c1⟩ (fun hHeld => ?_)
  have hb := b_drew W1
  replace hHeld : (fun W : World => W.cell? ⟨g0, 0, none⟩ = some (.int .i64 n) ∧ W.cell? ⟨g0, 1, none⟩ = some (.slice lo l.length lc)) W1.drew := hHeld
  generalize W1.drew = y0 at hHeld hb ⊢
  clear c0 c1
  refine ton 0 5 (.agg #[.int .i64 n, .slice lo l.length lc]) ?_
  refine ton 1 6 (.int .i64 x) ?_
  refine ton 3 8 (.agg #[.int .i64 n, .slice lo l.length lc]) ?_
  refine ton 4 9 (.int .i64 x) ?_
  try simp only [List.setIfInBounds_toArray, List.set_cons_zero, List.set_cons_succ]
  refine tgo (i := 2) (by kernel_rfl) rfl (fun K hK => ?_)
  go_simp
  refine (HR _ n x l L _ (Lib.hid ⟨_, rfl, HA0.out.keep (below_keep hb HB.out)⟩) HLV).mono ?_
  rintro e w2 ⟨v1, rfl, hv1, hb'⟩
  refine hK.out _ _ (fun _ => ⟨cell_later' hb' hHeld.1, cell_later' hb' hHeld.2⟩) (fun hHeld => ?_)
  replace hHeld := hHeld (by decide)
  clear hK K
  try simp only [List.setIfInBounds_toArray, List.set_cons_zero, List.set_cons_succ]
  replace hb := below_keep hb' hb
  have HN1 := Lib.hid hv1
  clear hv1
  clear hb'
  try simp only [List.setIfInBounds_toArray, List.set_cons_zero, List.set_cons_succ]
  refine tgo (i := 5) (by kernel_rfl) rfl (fun K hK => ?_)
  go_simp
  refine (treach_of _ n x l L _ (Lib.hid ⟨_, rfl, HA0.out.keep (below_keep hb HB.out)⟩) HLV).mono ?_
  rintro e w5 ⟨v2, rfl, hv2, hb'⟩
  refine hK.out _ _ (fun _ => ⟨cell_later' hb' hHeld.1, cell_later' hb' hHeld.2⟩) (fun hHeld => ?_)
  replace hHeld := hHeld (by decide)
  clear hK K
  try simp only [List.setIfInBounds_toArray, List.set_cons_zero, List.set_cons_succ]
  replace hb := below_keep hb' hb
  replace HN1 := Lib.hid (HN1.out.keep hb')
  have HN2 := Lib.hid hv2
  clear hv2
  clear hb'
  try simp only [List.setIfInBounds_toArray, List.set_cons_zero, List.set_cons_succ]
  refine tgo (i := 6) (by kernel_rfl) rfl (fun K hK => ?_)
  go_simp
  refine (tsame_of _ _ L L true _ HN1 HN2 (Lib.hid (by simp))).mono ?_
  rintro e w6 ⟨rfl, hb'⟩
  refine hK.out _ _ (fun _ => ⟨cell_later' hb' hHeld.1, cell_later' hb' hHeld.2⟩) (fun hHeld => ?_)
  replace hHeld := hHeld (by decide)
  clear hK K
  try simp only [List.setIfInBounds_toArray, List.set_cons_zero, List.set_cons_succ]
  replace hb := below_keep hb' hb
  replace HN1 := Lib.hid (HN1.out.keep hb')
  replace HN2 := Lib.hid (HN2.out.keep hb')
  clear hb'
  refine ton 7 12 (.bool true) ?_
  try simp only [List.setIfInBounds_toArray, List.set_cons_zero, List.set_cons_succ]
  refine tgo (i := 8) (by kernel_rfl) rfl (fun K hK => ?_)
  go_simp
  refine (HA _).mono ?_
  rintro e w8 ⟨rfl, hb'⟩
  refine hK.out _ _ (fun _ => ⟨cell_later' hb' hHeld.1, cell_later' hb' hHeld.2⟩) (fun hHeld => ?_)
  replace hHeld := hHeld (by decide)
  clear hK K
  try simp only [List.setIfInBounds_toArray, List.set_cons_zero, List.set_cons_succ]
  replace hb := below_keep hb' hb
  replace HN1 := Lib.hid (HN1.out.keep hb')
  replace HN2 := Lib.hid (HN2.out.keep hb')
  clear hb'
  refine ton 9 14 (.bool true) ?_
  try simp only [List.setIfInBounds_toArray, List.set_cons_zero, List.set_cons_succ]
  refine tgo (i := 10) (by kernel_rfl) rfl (fun K hK => ?_)
  go_simp
  refine hK.out _ _ (fun h => absurd rfl h) (fun hHeld => ?_)
  clear hK K hHeld
  try simp only [List.setIfInBounds_toArray, List.set_cons_zero, List.set_cons_succ]
  refine tdone (by kernel_rfl) ?_ _
  go_wp2
  go_ret
  exact ⟨rfl, below_keep hb HB.out⟩
set_option maxRecDepth 100000 in
set_option maxHeartbeats 8000000 in
theorem wstrong (HA : AwakeSays) (HS : StrSays) (v : Value) (n : Int) (l : List Ar) (w : World) (h : Hid (DgV w v n l)) :
    Calls Try.prog 5 #[v] w fun e w' => e = .returned (.bool true) ∧ Below w.heap.size w w' := by
  have hmx : Try.prog.follows .mixedOrders = true := by kernel_rfl
  obtain ⟨av, rfl, hl⟩ := id h.out
  obtain ⟨lo, lc, rfl, -, -, -⟩ := id hl
  obtain ⟨L, hL⟩ : ∃ L, strV n l = L := ⟨_, rfl⟩
  have HLV := Lib.hid hL
  have HA0 := Lib.hid hl
  obtain ⟨W1, hW1⟩ : ∃ W1, w.alloc (.cells #[.int .i64 n, .slice lo l.length lc] 24) = W1 := ⟨_, rfl⟩
  have HB : Hid (Below w.heap.size w W1) := Lib.hid (by rw [← hW1]; exact al1 ..)
  have HD : Hid (dgb W1 w.heap.size n (.slice lo l.length lc)) := Lib.hid (by rw [← hW1]; exact dgb_new ..)
  have HW1 := Lib.hid hW1
  clear hW1 hl h hL
  go_enter Try.func5, Try.ntmps5
  go_wp2_with fail
  rw [HW1.out]
  obtain ⟨g0, hg0⟩ : ∃ g, w.heap.size = g := ⟨_, rfl⟩
  rw [hg0] at HD
  try simp only [hg0]
  have HG0 := Lib.hid hg0
  clear hg0 HW1
  obtain ⟨c0, c1, -, -⟩ := HD.out
  refine tstart (fun W : World => W.cell? ⟨g0, 0, none⟩ = some (.int .i64 n) ∧ W.cell? ⟨g0, 1, none⟩ = some (.slice lo l.length lc)) 8 (by kernel_rfl) ⟨cell_later' (b_drew W1) c0, cell_later' (b_drew W1) c1⟩ (fun hHeld => ?_)
  have hb := b_drew W1
  replace hHeld : (fun W : World => W.cell? ⟨g0, 0, none⟩ = some (.int .i64 n) ∧ W.cell? ⟨g0, 1, none⟩ = some (.slice lo l.length lc)) W1.drew := hHeld
  generalize W1.drew = y0 at hHeld hb ⊢
  clear c0 c1
  refine ton 0 3 (.agg #[.int .i64 n, .slice lo l.length lc]) ?_
  refine ton 2 5 (.agg #[.int .i64 n, .slice lo l.length lc]) ?_
  try simp only [List.setIfInBounds_toArray, List.set_cons_zero, List.set_cons_succ]
  refine tgo (i := 1) (by kernel_rfl) rfl (fun K hK => ?_)
  go_simp
  refine (str_weak HS _ n l L _ (Lib.hid ⟨_, rfl, HA0.out.keep (below_keep hb HB.out)⟩) HLV).mono ?_
  rintro e w1 ⟨v1, rfl, hv1, hb'⟩
  refine hK.out _ _ (fun _ => ⟨cell_later' hb' hHeld.1, cell_later' hb' hHeld.2⟩) (fun hHeld => ?_)
  replace hHeld := hHeld (by decide)
  clear hK K
  try simp only [List.setIfInBounds_toArray, List.set_cons_zero, List.set_cons_succ]
  replace hb := below_keep hb' hb
  have HN1 := Lib.hid hv1
  clear hv1
  clear hb'
  try simp only [List.setIfInBounds_toArray, List.set_cons_zero, List.set_cons_succ]
  refine tgo (i := 3) (by kernel_rfl) rfl (fun K hK => ?_)
  go_simp
  refine (tstr_of _ n l L _ (Lib.hid ⟨_, rfl, HA0.out.keep (below_keep hb HB.out)⟩) HLV).mono ?_
  rintro e w3 ⟨v2, rfl, hv2, hb'⟩
  refine hK.out _ _ (fun _ => ⟨cell_later' hb' hHeld.1, cell_later' hb' hHeld.2⟩) (fun hHeld => ?_)
  replace hHeld := hHeld (by decide)
  clear hK K
  try simp only [List.setIfInBounds_toArray, List.set_cons_zero, List.set_cons_succ]
  replace hb := below_keep hb' hb
  replace HN1 := Lib.hid (HN1.out.keep hb')
  have HN2 := Lib.hid hv2
  clear hv2
  clear hb'
  try simp only [List.setIfInBounds_toArray, List.set_cons_zero, List.set_cons_succ]
  refine tgo (i := 4) (by kernel_rfl) rfl (fun K hK => ?_)
  go_simp
  refine (tall_of _ _ L L true _ HN1 HN2 (Lib.hid (by simp))).mono ?_
  rintro e w4 ⟨rfl, hb'⟩
  refine hK.out _ _ (fun _ => ⟨cell_later' hb' hHeld.1, cell_later' hb' hHeld.2⟩) (fun hHeld => ?_)
  replace hHeld := hHeld (by decide)
  clear hK K
  try simp only [List.setIfInBounds_toArray, List.set_cons_zero, List.set_cons_succ]
  replace hb := below_keep hb' hb
  replace HN1 := Lib.hid (HN1.out.keep hb')
  replace HN2 := Lib.hid (HN2.out.keep hb')
  clear hb'
  refine ton 5 8 (.bool true) ?_
  try simp only [List.setIfInBounds_toArray, List.set_cons_zero, List.set_cons_succ]
  refine tgo (i := 6) (by kernel_rfl) rfl (fun K hK => ?_)
  go_simp
  refine (HA _).mono ?_
  rintro e w6 ⟨rfl, hb'⟩
  refine hK.out _ _ (fun _ => ⟨cell_later' hb' hHeld.1, cell_later' hb' hHeld.2⟩) (fun hHeld => ?_)
  replace hHeld := hHeld (by decide)
  clear hK K
  try simp only [List.setIfInBounds_toArray, List.set_cons_zero, List.set_cons_succ]
  replace hb := below_keep hb' hb
  replace HN1 := Lib.hid (HN1.out.keep hb')
  replace HN2 := Lib.hid (HN2.out.keep hb')
  clear hb'
  refine ton 7 10 (.bool true) ?_
  try simp only [List.setIfInBounds_toArray, List.set_cons_zero, List.set_cons_succ]
  refine tgo (i := 8) (by kernel_rfl) rfl (fun K hK => ?_)
  go_simp
  refine hK.out _ _ (fun h => absurd rfl h) (fun hHeld => ?_)
  clear hK K hHeld
  try simp only [List.setIfInBounds_toArray, List.set_cons_zero, List.set_cons_succ]
  refine tdone (by kernel_rfl) ?_ _
  go_wp2
  go_ret
  exact ⟨rfl, below_keep hb HB.out⟩
end Go.Proofs.Ytncedgnpdojkkaa.tpo
