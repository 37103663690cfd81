/-
  The walk of DigraphNear over what awake and the code's Degree and Neighbors return. No condition.
-/
import Derived.Test.YtkmamdlhpbobhaaDigAwk
import Derived.Test.YtkmamdlhpbobhaaDrn
namespace Go.Proofs.Ytkmamdlhpbobhaa.dig
open Go.RowKit xpt

theorem b_drew (w : World) : Below w.heap.size w w.drew := (Below.refl w.heap.size w).drew
set_option maxRecDepth 100000 in
set_option maxHeartbeats 8000000 in
theorem wnear (HA : AwakeSays) (HDE : DegSays) (HNB : NbrSays) (v : Value) (n x : Int) (l : List Ar) (w : World) (h : Hid (DgV w v n l)) :
    Calls Try.prog 4 #[v, .int .i64 x] w fun e w' => e = .returned (.bool true) ∧ Below w.heap.size w w' := by
  have hmx : Try.prog.follows .mixedOrders = true := by kernel_rfl
  obtain ⟨av, rfl, hl⟩ := id h.out
  obtain ⟨lo, lc, rfl, -, -, -⟩ := id hl
  obtain ⟨W2, hW2⟩ : ∃ W2, w.alloc (.cells #[.int .i64 n, .slice lo l.length lc] 24) = W2 := ⟨_, rfl⟩
  have HB : Hid (Below w.heap.size w W2) := Lib.hid (by rw [← hW2]; exact al1 ..)
  have HD : Hid (dgb W2 w.heap.size n (.slice lo l.length lc)) := Lib.hid (by rw [← hW2]; exact dgb_new ..)
  have HW2 := Lib.hid hW2
  clear hW2 hl
  go_enter Try.func4, Try.ntmps4
  go_wp2_with fail
  rw [HW2.out]
  obtain ⟨g0, hg0⟩ : ∃ g, w.heap.size = g := ⟨_, rfl⟩
  rw [hg0] at HD
  have HG0 := Lib.hid hg0
  try simp only [hg0]
  clear hg0 HW2
  obtain ⟨R, hR⟩ : ∃ R, decide (400 < (l.length : Int)) = R := ⟨_, rfl⟩
  refine (dlong_of _ n l R _ (Lib.hid (h.out.keep HB.out)) (Lib.hid hR)).mono ?_
  rintro e w3 ⟨rfl, hb⟩
  have HB3 := Lib.hid (below_keep hb HB.out)
  have HD3 := Lib.hid (dgb_keep HD.out hb)
  clear hb HB HD W2
  cases R
  case true =>
    go_wp2_with fail
    refine (HA _).mono ?_
    rintro e w9 ⟨rfl, hb⟩
    go_wp2
    go_ret
    exact ⟨rfl, below_keep hb HB3.out⟩
  have hl4 : l.length ≤ 400 := by have := of_decide_eq_false hR; omega
  obtain ⟨D, hD⟩ : ∃ D, degV n l x = D := ⟨_, rfl⟩
  obtain ⟨N, hN⟩ : ∃ N, nbrV n l x = N := ⟨_, rfl⟩
  have HDV := Lib.hid hD
  have HNV := Lib.hid hN
  clear hD hN hR
  obtain ⟨c0, c1, -, -⟩ := HD3.out
  go_wp2_with fail
  refine tstart (fun W : World => W.cell? ⟨g0, 0, none⟩ = some (.int .i64 n) ∧ W.cell? ⟨g0, 1, none⟩ = some (.slice lo l.length lc)) 19 (by kernel_rfl) ⟨cell_later' (b_drew w3) c0, cell_later' (b_drew w3) c1⟩ (fun hHeld => ?_)
  · have hb := b_drew w3
    replace hHeld : (fun W : World => W.cell? ⟨g0, 0, none⟩ = some (.int .i64 n) ∧ W.cell? ⟨g0, 1, none⟩ = some (.slice lo l.length lc)) w3.drew := hHeld
    generalize w3.drew = y0 at hHeld hb ⊢
    clear c0 c1
    refine ton 0 8 (.agg #[.int .i64 n, .slice lo l.length lc]) ?_
    refine ton 1 9 (.int .i64 x) ?_
    refine ton 3 11 (.agg #[.int .i64 n, .slice lo l.length lc]) ?_
    refine ton 4 12 (.int .i64 x) ?_
    try simp only [List.setIfInBounds_toArray, List.set_cons_zero, List.set_cons_succ]
    refine tgo (i := 2) (by kernel_rfl) rfl (fun K hK => ?_)
    go_simp
    refine (HDE _ n l x D _ (Lib.hid (h.out.keep (below_keep hb HB3.out))) (Lib.hid hl4) HDV).mono ?_
    rintro e w2 ⟨rfl, hb'⟩
    refine hK.out _ _ (fun _ => ⟨cell_later' hb' hHeld.1, cell_later' hb' hHeld.2⟩) (fun hHeld => ?_)
    replace hHeld := hHeld (by decide)
    clear hK K
    try simp only [List.setIfInBounds_toArray, List.set_cons_zero, List.set_cons_succ]
    replace hb := below_keep hb' hb
    clear hb'
    refine tgo (i := 5) (by kernel_rfl) rfl (fun K hK => ?_)
    go_simp
    refine (rdeg_of _ n l x D _ (Lib.hid (h.out.keep (below_keep hb HB3.out))) (by omega) HDV).mono ?_
    rintro e w5 ⟨rfl, hb'⟩
    refine hK.out _ _ (fun _ => ⟨cell_later' hb' hHeld.1, cell_later' hb' hHeld.2⟩) (fun hHeld => ?_)
    replace hHeld := hHeld (by decide)
    clear hK K
    try simp only [List.setIfInBounds_toArray, List.set_cons_zero, List.set_cons_succ]
    replace hb := below_keep hb' hb
    clear hb'
    refine ton 6 14 (.bool true) ?_
    refine ton 7 15 (.bool true) ?_
    refine ton 8 16 (.agg #[.int .i64 n, .slice lo l.length lc]) ?_
    refine ton 9 17 (.int .i64 x) ?_
    refine ton 11 19 (.agg #[.int .i64 n, .slice lo l.length lc]) ?_
    refine ton 12 20 (.int .i64 x) ?_
    try simp only [List.setIfInBounds_toArray, List.set_cons_zero, List.set_cons_succ]
    refine tgo (i := 10) (by kernel_rfl) rfl (fun K hK => ?_)
    go_simp
    refine (HNB _ n l x N _ (Lib.hid (h.out.keep (below_keep hb HB3.out))) (Lib.hid hl4) HNV).mono ?_
    rintro e w10 ⟨v1, rfl, hv1, hb'⟩
    refine hK.out _ _ (fun _ => ⟨cell_later' hb' hHeld.1, cell_later' hb' hHeld.2⟩) (fun hHeld => ?_)
    replace hHeld := hHeld (by decide)
    clear hK K
    try simp only [List.setIfInBounds_toArray, List.set_cons_zero, List.set_cons_succ]
    replace hb := below_keep hb' hb
    have HN1 := Lib.hid hv1
    clear hv1
    clear hb'
    refine tgo (i := 13) (by kernel_rfl) rfl (fun K hK => ?_)
    go_simp
    refine (rnbr_of _ n l x N _ (Lib.hid (h.out.keep (below_keep hb HB3.out))) HNV).mono ?_
    rintro e w13 ⟨v2, rfl, hv2, hb'⟩
    refine hK.out _ _ (fun _ => ⟨cell_later' hb' hHeld.1, cell_later' hb' hHeld.2⟩) (fun hHeld => ?_)
    replace hHeld := hHeld (by decide)
    clear hK K
    try simp only [List.setIfInBounds_toArray, List.set_cons_zero, List.set_cons_succ]
    replace hb := below_keep hb' hb
    replace HN1 := Lib.hid (HN1.out.keep hb')
    have HN2 := Lib.hid hv2
    clear hv2
    clear hb'
    refine tgo (i := 14) (by kernel_rfl) rfl (fun K hK => ?_)
    go_simp
    refine (rints_of _ _ N N true _ HN1 HN2 (Lib.hid (by simp))).mono ?_
    rintro e w14 ⟨rfl, hb'⟩
    refine hK.out _ _ (fun _ => ⟨cell_later' hb' hHeld.1, cell_later' hb' hHeld.2⟩) (fun hHeld => ?_)
    replace hHeld := hHeld (by decide)
    clear hK K
    try simp only [List.setIfInBounds_toArray, List.set_cons_zero, List.set_cons_succ]
    replace hb := below_keep hb' hb
    replace HN1 := Lib.hid (HN1.out.keep hb')
    replace HN2 := Lib.hid (HN2.out.keep hb')
    clear hb'
    refine ton 15 23 (.bool true) ?_
    refine ton 16 24 (.bool true) ?_
    try simp only [List.setIfInBounds_toArray, List.set_cons_zero, List.set_cons_succ]
    refine tgo (i := 17) (by kernel_rfl) rfl (fun K hK => ?_)
    go_simp
    refine (HA _).mono ?_
    rintro e w17 ⟨rfl, hb'⟩
    refine hK.out _ _ (fun _ => ⟨cell_later' hb' hHeld.1, cell_later' hb' hHeld.2⟩) (fun hHeld => ?_)
    replace hHeld := hHeld (by decide)
    clear hK K
    try simp only [List.setIfInBounds_toArray, List.set_cons_zero, List.set_cons_succ]
    replace hb := below_keep hb' hb
    replace HN1 := Lib.hid (HN1.out.keep hb')
    replace HN2 := Lib.hid (HN2.out.keep hb')
    clear hb'
    refine ton 18 26 (.bool true) ?_
    try simp only [List.setIfInBounds_toArray, List.set_cons_zero, List.set_cons_succ]
    refine tgo (i := 19) (by kernel_rfl) rfl (fun K hK => ?_)
    go_simp
    refine hK.out _ _ (fun h => absurd rfl h) (fun hHeld => ?_)
    clear hK K hHeld
    try simp only [List.setIfInBounds_toArray, List.set_cons_zero, List.set_cons_succ]
    refine tdone (by kernel_rfl) ?_ _
    go_wp2
    go_ret
    exact ⟨rfl, below_keep hb HB3.out⟩
end Go.Proofs.Ytkmamdlhpbobhaa.dig
