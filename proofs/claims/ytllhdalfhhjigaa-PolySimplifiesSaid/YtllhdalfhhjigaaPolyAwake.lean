/-
  The law's own 'awake': the examples of the chapter. No condition.
-/
import Derived.Test.YtllhdalfhhjigaaPolyOf
namespace Go.Proofs.Ytllhdalfhhjigaa
open Go.RowKit

abbrev exL : List Pt := [(0, 0), (10, 0), (20, 0), (20, 30)]
abbrev exS : List Pt := [(0, 0), (20, 0), (20, 30)]
abbrev exT : List Pt := [(0, 0), (10, 0), (5, 0)]
abbrev exA : List Pt := [(0, 0), (10, 10)]
abbrev exB : List Pt := [(0, 10), (10, 0)]
abbrev exC : List Pt := [(5, 5), (9, 0)]
theorem ex_val : pval exL = true := by decide
theorem ex_len : lenV exL = 50 := by decide
theorem ex_bd : bdV exL = (0, 0, 20, 30) := by decide
theorem ex_bnd : bndV exL = 1 := by decide
theorem ex_ort : ortB exL = true := by decide
theorem ex_sim : simp4 exL = exS := by decide
theorem ex_sam : samB exS exS = true := by decide
theorem ex_bndT : bndV exT = 1 := by decide
theorem ex_crsB : crsV exA exB = 1 := by decide
theorem ex_crsC : crsV exA exC = 0 := by decide

set_option maxRecDepth 100000 in
set_option maxHeartbeats 4000000 in
theorem awake_any (w : World) : Calls Try.prog 8 #[] w fun e W' => e = .returned (.bool true) ∧ Below w.heap.size w W' := by
  have hbb := eql_box (Lib.hid ((eq4_iff 0 0 20 30 0 0 20 30).2 ⟨rfl, rfl, rfl, rfl⟩))
  go_enter Try.func8, Try.ntmps8
  go_wp2_with fail
  have pL := lit_pl w exL 4 #[.int .i64 0, .int .i64 0, .int .i64 10, .int .i64 0, .int .i64 20, .int .i64 0, .int .i64 20, .int .i64 30] rfl rfl (by decide)
  have hB := al1 w (.cells #[.int .i64 0, .int .i64 0, .int .i64 10, .int .i64 0, .int .i64 20, .int .i64 0, .int .i64 20, .int .i64 30] 33)
  refine (simplify_at _ _ _ exL rfl (by decide) _ pL exS (Lib.hid ex_sim)).mono ?_
  rintro e w1 ⟨so, sc, rfl, pS, hb1⟩
  have pL1 := pL.keep hb1
  have hB1 := below_keep hb1 hB
  clear pL hb1
  go_wp2_with fail
  have pL2 := pL1.keep (al3 w1 (.cells #[.int .i64 0, .int .i64 0, .int .i64 10, .int .i64 10] 33) (.cells #[.int .i64 0, .int .i64 10, .int .i64 10, .int .i64 0] 33) (.cells #[.int .i64 5, .int .i64 5, .int .i64 9, .int .i64 0] 33))
  have pS2 := pS.keep (al3 w1 (.cells #[.int .i64 0, .int .i64 0, .int .i64 10, .int .i64 10] 33) (.cells #[.int .i64 0, .int .i64 10, .int .i64 10, .int .i64 0] 33) (.cells #[.int .i64 5, .int .i64 5, .int .i64 9, .int .i64 0] 33))
  have pA2 := (lit_pl w1 exA 2 #[.int .i64 0, .int .i64 0, .int .i64 10, .int .i64 10] rfl rfl (by decide)).keep (al2 (w1.alloc (.cells #[.int .i64 0, .int .i64 0, .int .i64 10, .int .i64 10] 33)) (.cells #[.int .i64 0, .int .i64 10, .int .i64 10, .int .i64 0] 33) (.cells #[.int .i64 5, .int .i64 5, .int .i64 9, .int .i64 0] 33))
  have pB2 := (lit_pl (w1.alloc (.cells #[.int .i64 0, .int .i64 0, .int .i64 10, .int .i64 10] 33)) exB 2 #[.int .i64 0, .int .i64 10, .int .i64 10, .int .i64 0] rfl rfl (by decide)).keep (al1 ((w1.alloc (.cells #[.int .i64 0, .int .i64 0, .int .i64 10, .int .i64 10] 33)).alloc (.cells #[.int .i64 0, .int .i64 10, .int .i64 10, .int .i64 0] 33)) (.cells #[.int .i64 5, .int .i64 5, .int .i64 9, .int .i64 0] 33))
  have pC2 := lit_pl ((w1.alloc (.cells #[.int .i64 0, .int .i64 0, .int .i64 10, .int .i64 10] 33)).alloc (.cells #[.int .i64 0, .int .i64 10, .int .i64 10, .int .i64 0] 33)) exC 2 #[.int .i64 5, .int .i64 5, .int .i64 9, .int .i64 0] rfl rfl (by decide)
  have hB2 := below_keep (al3 w1 (.cells #[.int .i64 0, .int .i64 0, .int .i64 10, .int .i64 10] 33) (.cells #[.int .i64 0, .int .i64 10, .int .i64 10, .int .i64 0] 33) (.cells #[.int .i64 5, .int .i64 5, .int .i64 9, .int .i64 0] 33)) hB1
  simp only [World.size_alloc] at pB2 pC2
  generalize ((w1.alloc (.cells #[.int .i64 0, .int .i64 0, .int .i64 10, .int .i64 10] 33)).alloc (.cells #[.int .i64 0, .int .i64 10, .int .i64 10, .int .i64 0] 33)).alloc (.cells #[.int .i64 5, .int .i64 5, .int .i64 9, .int .i64 0] 33) = w2 at *
  clear pL1 pS hB1
  refine (pvalid_at _ _ _ exL rfl (by decide) _ pL2 true (Lib.hid ex_val)).mono ?_
  rintro e w3 ⟨rfl, hb3⟩
  have pL3 := pL2.keep hb3
  have pS3 := pS2.keep hb3
  have pA3 := pA2.keep hb3
  have pB3 := pB2.keep hb3
  have pC3 := pC2.keep hb3
  have hB3 := below_keep hb3 hB2
  clear pL2 pS2 pA2 pB2 pC2 hB2 hb3
  go_wp2_with fail
  refine (length_at _ _ _ exL rfl (by decide) _ pL3 50 (Lib.hid ex_len)).mono ?_
  rintro e w4 ⟨rfl, hb4⟩
  have pL4 := pL3.keep hb4
  have pS4 := pS3.keep hb4
  have pA4 := pA3.keep hb4
  have pB4 := pB3.keep hb4
  have pC4 := pC3.keep hb4
  have hB4 := below_keep hb4 hB3
  clear pL3 pS3 pA3 pB3 pC3 hB3 hb4
  go_wp2_with fail
  refine (bounds_at _ _ _ exL rfl (by decide) _ pL4 0 0 20 30 (Lib.hid ex_bd)).mono ?_
  rintro e w5 ⟨rfl, hb5⟩
  have pL5 := pL4.keep hb5
  have pS5 := pS4.keep hb5
  have pA5 := pA4.keep hb5
  have pB5 := pB4.keep hb5
  have pC5 := pC4.keep hb5
  have hB5 := below_keep hb5 hB4
  clear pL4 pS4 pA4 pB4 pC4 hB4 hb5
  go_wp2_with fail
  refine (bends_at _ _ _ exL rfl (by decide) _ pL5 1 (Lib.hid ex_bnd)).mono ?_
  rintro e w6 ⟨rfl, hb6⟩
  have pL6 := pL5.keep hb6
  have pS6 := pS5.keep hb6
  have pA6 := pA5.keep hb6
  have pB6 := pB5.keep hb6
  have pC6 := pC5.keep hb6
  have hB6 := below_keep hb6 hB5
  clear pL5 pS5 pA5 pB5 pC5 hB5 hb6
  go_wp2_with fail
  refine (ortho_at _ _ _ exL rfl (by decide) _ pL6 true (Lib.hid ex_ort)).mono ?_
  rintro e w7 ⟨rfl, hb7⟩
  have pL7 := pL6.keep hb7
  have pS7 := pS6.keep hb7
  have pA7 := pA6.keep hb7
  have pB7 := pB6.keep hb7
  have pC7 := pC6.keep hb7
  have hB7 := below_keep hb7 hB6
  clear pL6 pS6 pA6 pB6 pC6 hB6 hb7
  go_wp2_with fail
  have pS8 := pS7.keep (al1 w7 (.cells #[.int .i64 0, .int .i64 0, .int .i64 20, .int .i64 0, .int .i64 20, .int .i64 30] 33))
  have pA8 := pA7.keep (al1 w7 (.cells #[.int .i64 0, .int .i64 0, .int .i64 20, .int .i64 0, .int .i64 20, .int .i64 30] 33))
  have pB8 := pB7.keep (al1 w7 (.cells #[.int .i64 0, .int .i64 0, .int .i64 20, .int .i64 0, .int .i64 20, .int .i64 30] 33))
  have pC8 := pC7.keep (al1 w7 (.cells #[.int .i64 0, .int .i64 0, .int .i64 20, .int .i64 0, .int .i64 20, .int .i64 30] 33))
  have pR8 := lit_pl w7 exS 3 #[.int .i64 0, .int .i64 0, .int .i64 20, .int .i64 0, .int .i64 20, .int .i64 30] rfl rfl (by decide)
  have hB8 := below_keep (al1 w7 (.cells #[.int .i64 0, .int .i64 0, .int .i64 20, .int .i64 0, .int .i64 20, .int .i64 30] 33)) hB7
  clear pS7 pA7 pB7 pC7 hB7
  generalize w7.alloc (.cells #[.int .i64 0, .int .i64 0, .int .i64 20, .int .i64 0, .int .i64 20, .int .i64 30] 33) = w8 at *
  refine (rsame_at _ _ _ exS rfl (by decide) _ pS8 _ _ _ exS rfl pR8 true (Lib.hid ex_sam)).mono ?_
  rintro e w9 ⟨rfl, hb9⟩
  have pS9 := pS8.keep hb9
  have pA9 := pA8.keep hb9
  have pB9 := pB8.keep hb9
  have pC9 := pC8.keep hb9
  have pR9 := pR8.keep hb9
  have hB9 := below_keep hb9 hB8
  clear pS8 pA8 pB8 pC8 pR8 hB8 hb9
  go_wp2_with fail
  have pA10 := pA9.keep (al1 w9 (.cells #[.int .i64 0, .int .i64 0, .int .i64 10, .int .i64 0, .int .i64 5, .int .i64 0] 33))
  have pB10 := pB9.keep (al1 w9 (.cells #[.int .i64 0, .int .i64 0, .int .i64 10, .int .i64 0, .int .i64 5, .int .i64 0] 33))
  have pC10 := pC9.keep (al1 w9 (.cells #[.int .i64 0, .int .i64 0, .int .i64 10, .int .i64 0, .int .i64 5, .int .i64 0] 33))
  have pT10 := lit_pl w9 exT 3 #[.int .i64 0, .int .i64 0, .int .i64 10, .int .i64 0, .int .i64 5, .int .i64 0] rfl rfl (by decide)
  have hB10 := below_keep (al1 w9 (.cells #[.int .i64 0, .int .i64 0, .int .i64 10, .int .i64 0, .int .i64 5, .int .i64 0] 33)) hB9
  clear pA9 pB9 pC9 hB9
  generalize w9.alloc (.cells #[.int .i64 0, .int .i64 0, .int .i64 10, .int .i64 0, .int .i64 5, .int .i64 0] 33) = w10 at *
  refine (bends_at _ _ _ exT rfl (by decide) _ pT10 1 (Lib.hid ex_bndT)).mono ?_
  rintro e w11 ⟨rfl, hb11⟩
  have pA11 := pA10.keep hb11
  have pB11 := pB10.keep hb11
  have pC11 := pC10.keep hb11
  have pT11 := pT10.keep hb11
  have hB11 := below_keep hb11 hB10
  clear pA10 pB10 pC10 pT10 hB10 hb11
  go_wp2_with fail
  refine (crossings_at _ _ _ exA rfl (by decide) _ pA11 _ _ _ exB rfl pB11 (by decide) 1 (Lib.hid ex_crsB)).mono ?_
  rintro e w12 ⟨rfl, hb12⟩
  have pA12 := pA11.keep hb12
  have pB12 := pB11.keep hb12
  have pC12 := pC11.keep hb12
  have hB12 := below_keep hb12 hB11
  clear pA11 pB11 pC11 hB11 hb12
  go_wp2_with fail
  refine (crossings_at _ _ _ exA rfl (by decide) _ pA12 _ _ _ exC rfl pC12 (by decide) 0 (Lib.hid ex_crsC)).mono ?_
  rintro e w13 ⟨rfl, hb13⟩
  have pA13 := pA12.keep hb13
  have pB13 := pB12.keep hb13
  have pC13 := pC12.keep hb13
  have hB13 := below_keep hb13 hB12
  clear pA12 pB12 pC12 hB12 hb13
  go_wp2
  go_ret
  exact ⟨rfl, hB13⟩
end Go.Proofs.Ytllhdalfhhjigaa
