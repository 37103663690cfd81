/-
  The walk of DigraphValid over what awake and the code's Valid and Same return. No condition.
-/
import Derived.Test.YtkmamdlhpbobhaaDigAwk
namespace Go.Proofs.Ytkmamdlhpbobhaa.dig
open Go.RowKit

set_option maxRecDepth 100000 in
set_option maxHeartbeats 8000000 in
theorem wvalid (HA : AwakeSays) (HVA : ValSays) (HSA : SameSays) (v v2 : Value) (n n2 : Int) (l l2 : List Ar) (w : World) (h : Hid (DgV w v n l)) (h2 : Hid (DgV w v2 n2 l2)) :
    Calls Try.prog 3 #[v, v2] w fun e w' => e = .returned (.bool true) ∧ Below w.heap.size w w' := by
  have hmx : Try.prog.follows .mixedOrders = true := by kernel_rfl
  obtain ⟨av, rfl, hl⟩ := id h.out
  obtain ⟨lo, lc, rfl, -, -, -⟩ := id hl
  obtain ⟨av2, rfl, hl2⟩ := id h2.out
  obtain ⟨lo2, lc2, rfl, -, -, -⟩ := id hl2
  obtain ⟨W2, hW2⟩ : ∃ W2, (w.alloc (.cells #[.int .i64 n, .slice lo l.length lc] 24)).alloc (.cells #[.int .i64 n2, .slice lo2 l2.length lc2] 24) = W2 := ⟨_, rfl⟩
  have HB : Hid (Below w.heap.size w W2) := Lib.hid (by rw [← hW2]; exact al2 ..)
  have HD : Hid (dgb W2 w.heap.size n (.slice lo l.length lc)) := Lib.hid (by rw [← hW2]; exact dgb_alloc _ (dgb_new ..))
  have HX : Hid (dgb W2 (w.heap.size + 1) n2 (.slice lo2 l2.length lc2)) := Lib.hid (by rw [← hW2]; have := dgb_new (w.alloc (.cells #[.int .i64 n, .slice lo l.length lc] 24)) n2 lo2 l2.length lc2 24; rwa [World.size_alloc] at this)
  have HW2 := Lib.hid hW2
  clear hW2 hl hl2
  go_enter Try.func3, Try.ntmps3
  go_wp2_with fail
  rw [HW2.out]
  obtain ⟨g0, hg0⟩ : ∃ g, w.heap.size = g := ⟨_, rfl⟩
  rw [hg0] at HD HX
  have HG0 := Lib.hid hg0
  try simp only [hg0]
  clear hg0 HW2
  obtain ⟨R, hR⟩ : ∃ R, decide (400 < (l.length : Int)) = R := ⟨_, rfl⟩
  obtain ⟨R2, hR2⟩ : ∃ R, decide (400 < (l2.length : Int)) = R := ⟨_, rfl⟩
  refine (dlong_of _ n l R _ (Lib.hid (h.out.keep HB.out)) (Lib.hid hR)).mono ?_
  rintro e w3 ⟨rfl, hb⟩
  have HB3 := Lib.hid (below_keep hb HB.out)
  have HD3 := Lib.hid (dgb_keep HD.out hb)
  have HX3 := Lib.hid (dgb_keep HX.out hb)
  clear hb HB HD HX W2
  cases R
  case true =>
    go_wp2_with fail
    refine (HA _).mono ?_
    rintro e w9 ⟨rfl, hb⟩
    go_wp2
    go_ret
    exact ⟨rfl, below_keep hb HB3.out⟩
  obtain ⟨x0, x1, -, -⟩ := HX3.out
  go_wp2_with fail
  refine (dlong_of _ n2 l2 R2 _ (Lib.hid (h2.out.keep HB3.out)) (Lib.hid hR2)).mono ?_
  rintro e w4 ⟨rfl, hb⟩
  have HB4 := Lib.hid (below_keep hb HB3.out)
  have HD4 := Lib.hid (dgb_keep HD3.out hb)
  have HX4 := Lib.hid (dgb_keep HX3.out hb)
  clear hb HB3 HD3 HX3 x0 x1
  cases R2
  case true =>
    go_wp2_with fail
    refine (HA _).mono ?_
    rintro e w9 ⟨rfl, hb⟩
    go_wp2
    go_ret
    exact ⟨rfl, below_keep hb HB4.out⟩
  obtain ⟨c0, c1, -, -⟩ := HD4.out
  obtain ⟨x0, x1, -, -⟩ := HX4.out
  have t0 := fun d os => cell_regrown c0 d os
  have t1 := fun d os => cell_regrown c1 d os
  have t2 := fun d os => cell_regrown x0 d os
  have t3 := fun d os => cell_regrown x1 d os
  obtain ⟨B, hB⟩ : ∃ B, validD n l = B := ⟨_, rfl⟩
  obtain ⟨S, hS⟩ : ∃ S, decide (n = n2 ∧ l = l2) = S := ⟨_, rfl⟩
  have HBV := Lib.hid hB
  have HSV := Lib.hid hS
  have cV := fun dd os => Calls.regrown_of (w := w4) (d := dd) (os := os) (HVA _ n l B _ (Lib.hid (h.out.keep (below_keep (below_regrown w4 dd os) HB4.out))) HBV)
  have cR := fun dd os => Calls.regrown_of (w := w4) (d := dd) (os := os) (rvalid_of _ n l B _ (Lib.hid (h.out.keep (below_keep (below_regrown w4 dd os) HB4.out))) HBV)
  have cS := fun dd os => Calls.regrown_of (w := w4) (d := dd) (os := os) (HSA _ _ n n2 l l2 S _ (Lib.hid (h.out.keep (below_keep (below_regrown w4 dd os) HB4.out))) (Lib.hid (h2.out.keep (below_keep (below_regrown w4 dd os) HB4.out))) HSV)
  have cT := fun dd os => Calls.regrown_of (w := w4) (d := dd) (os := os) (rsame_of _ _ n n2 l l2 S _ (Lib.hid (h.out.keep (below_keep (below_regrown w4 dd os) HB4.out))) (Lib.hid (h2.out.keep (below_keep (below_regrown w4 dd os) HB4.out))) HSV)
  have cG := fun dd os => Calls.regrown_of (w := w4) (d := dd) (os := os) (HSA _ _ n n l l true _ (Lib.hid (h.out.keep (below_keep (below_regrown w4 dd os) HB4.out))) (Lib.hid (h.out.keep (below_keep (below_regrown w4 dd os) HB4.out))) (Lib.hid (by simp)))
  have cA := fun dd os => Calls.regrown_of (w := w4) (d := dd) (os := os) (HA _)
  have ee : (B == B) = true := by simp
  have es : (S == S) = true := by simp
  clear hB hS c0 c1 x0 x1 hR hR2
  go_wp2_with fail
  refine wp_region_quiet_below hmx (by kernel_rfl) ?_
  repeat (go_big_quiet_step (first | with_reducible exact cV _ _ | with_reducible exact cR _ _ | with_reducible exact cS _ _ | with_reducible exact cT _ _ | with_reducible exact cG _ _ | with_reducible exact cA _ _))
  refine wpQuiet_nil ?_
  intro _ hw'
  obtain ⟨⟨dq, osq⟩, hw''⟩ := hw'
  subst hw''
  go_wp2
  go_ret
  exact ⟨rfl, below_keep (below_regrown w4 dq osq) HB4.out⟩
end Go.Proofs.Ytkmamdlhpbobhaa.dig
