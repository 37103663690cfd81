/-
  The walk of DigraphFlips over what awake and the code's Flip return. No condition.
-/
import Derived.Test.YtkmamdlhpbobhaaDigWIn
namespace Go.Proofs.Ytkmamdlhpbobhaa.dig
open Go.RowKit

theorem flipE_back {n m : Int} {l L : List Ar} {set : List Int} (h : flipE n l set = ((m, L), 0)) : flipE m L set = ((n, l), 0) := by
  unfold flipE at h
  by_cases hv : validD n l = false
  · rw [if_pos hv] at h; simp at h
  rw [if_neg hv] at h
  by_cases hc : chosen [] set l.length ≠ 0
  · rw [if_pos hc] at h; simp only [Prod.mk.injEq] at h; exact absurd h.2 hc
  rw [if_neg hc] at h
  simp only [Prod.mk.injEq, and_true] at h
  obtain ⟨rfl, rfl⟩ := h
  unfold flipE
  rw [flip_valid, flip_len, if_neg hv, if_neg hc, flip_back]
def FlipSays : Prop := ∀ (v sv : Value) (n m : Int) (l L : List Ar) (set : List Int) (E : Int) (w : World), Hid (DgV w v n l) → Hid (Ins w sv set) → Hid (flipE n l set = ((m, L), E)) → Calls Try.prog 20 #[v, sv] w (DgEOut m L E w)
set_option maxRecDepth 100000 in
set_option maxHeartbeats 8000000 in
theorem wflips (HA : AwakeSays) (HI : FlipSays) (v sv : Value) (n : Int) (l : List Ar) (set : List Int) (w : World) (h : Hid (DgV w v n l)) (hs : Hid (Ins w sv set)) :
    Calls Try.prog 5 #[v, sv] w fun e w' => e = .returned (.bool true) ∧ Below w.heap.size w w' := by
  obtain ⟨av, rfl, hl⟩ := id h.out
  obtain ⟨lo, lc, rfl, hq1, hq2, -⟩ := id hl
  obtain ⟨so, sc, rfl, hq3, hq4, -⟩ := id hs.out
  unfold maxLen at hq2 hq4
  obtain ⟨⟨⟨m, L⟩, E⟩, hE⟩ : ∃ x, flipE n l set = x := ⟨_, rfl⟩
  have HE := Lib.hid hE
  obtain ⟨W1, hW1⟩ : ∃ W1, w.alloc (.cells #[.int .i64 n, .slice lo l.length lc] 24) = W1 := ⟨_, rfl⟩
  have HB : Hid (Below w.heap.size w W1) := Lib.hid (by rw [← hW1]; exact al1 ..)
  have HD : Hid (dgb W1 w.heap.size n (.slice lo l.length lc)) := Lib.hid (by rw [← hW1]; exact dgb_new ..)
  have HW1 := Lib.hid hW1
  clear hE hW1 hl
  go_enter Try.func5, Try.ntmps5
  go_wp2_with fail
  rw [HW1.out]
  obtain ⟨g0, hg0⟩ : ∃ g, w.heap.size = g := ⟨_, rfl⟩
  have HG0 := Lib.hid hg0
  rw [hg0] at HD
  try simp only [hg0]
  clear hg0 HW1
  obtain ⟨R, hR⟩ : ∃ R, decide (400 < (l.length : Int)) = R := ⟨_, rfl⟩
  refine (dlong_of _ n l R _ (Lib.hid (h.out.keep HB.out)) (Lib.hid hR)).mono ?_
  rintro e w2 ⟨rfl, hb⟩
  have HB2 := Lib.hid (below_keep hb HB.out)
  have HD2 := Lib.hid (dgb_keep HD.out hb)
  clear hb HB HD W1
  cases R
  case true =>
    go_wp2_with fail
    refine (HA _).mono ?_
    rintro e w9 ⟨rfl, hb⟩
    go_wp2
    go_ret
    exact ⟨rfl, below_keep hb HB2.out⟩
  by_cases hk : (set.length : Int) > 400
  · have e2 : decide ((400 : Int) < (set.length : Int)) = true := decide_eq_true hk
    go_wp2_with fail
    refine (HA _).mono ?_
    rintro e w9 ⟨rfl, hb⟩
    go_wp2
    go_ret
    exact ⟨rfl, below_keep hb HB2.out⟩
  have e2 : decide ((400 : Int) < (set.length : Int)) = false := decide_eq_false hk
  obtain ⟨c0, c1, -, -⟩ := HD2.out
  go_wp2_with fail
  refine (HI _ _ n m l L set E _ (Lib.hid (h.out.keep HB2.out)) (Lib.hid (hs.out.keep HB2.out)) HE).mono ?_
  rintro e w3 ⟨v3, rfl, ⟨a3, rfl, hav⟩, hb⟩
  obtain ⟨ao, ac, rfl, -, -, -⟩ := id hav
  have hbx := al1 w3 (.cells #[.int .i64 m, .slice ao L.length ac] 24)
  have HB3 := Lib.hid (below_keep hbx (below_keep hb HB2.out))
  have HD3 := Lib.hid (dgb_keep (dgb_keep HD2.out hb) hbx)
  have HX3 := Lib.hid (dgb_new w3 m ao L.length ac 24)
  have HV3 := Lib.hid (hav.keep hbx)
  clear hb hbx hav c0 c1 HB2 HD2
  obtain ⟨c0, c1, -, -⟩ := HD3.out
  obtain ⟨x0, x1, -, -⟩ := HX3.out
  go_wp2_with fail
  generalize w3.alloc (.cells #[.int .i64 m, .slice ao L.length ac] 24) = w4 at *
  refine (rflip_of _ _ n m l L set E _ (Lib.hid (h.out.keep HB3.out)) (Lib.hid (hs.out.keep HB3.out)) HE).mono ?_
  rintro e w5 ⟨v5, rfl, ⟨a5, rfl, hav⟩, hb⟩
  obtain ⟨ao5, ac5, rfl, -, -, -⟩ := id hav
  have hbx := al1 w5 (.cells #[.int .i64 m, .slice ao5 L.length ac5] 24)
  have HB5 := Lib.hid (below_keep hbx (below_keep hb HB3.out))
  have HD5 := Lib.hid (dgb_keep (dgb_keep HD3.out hb) hbx)
  have HX5 := Lib.hid (dgb_keep (dgb_keep HX3.out hb) hbx)
  have HY5 := Lib.hid (dgb_new w5 m ao5 L.length ac5 24)
  have HV5 := Lib.hid ((HV3.out.keep hb).keep hbx)
  have HV6 := Lib.hid (hav.keep hbx)
  clear hb hbx hav c0 c1 x0 x1 HB3 HD3 HX3 HV3
  obtain ⟨x0, x1, -, -⟩ := HX5.out
  obtain ⟨y0, y1, -, -⟩ := HY5.out
  have ee : (E != E) = false := by simp
  go_wp2_with fail
  generalize w5.alloc (.cells #[.int .i64 m, .slice ao5 L.length ac5] 24) = w6 at *
  refine (rsame_of _ _ m m L L true _ (Lib.hid ⟨_, rfl, HV5.out⟩) (Lib.hid ⟨_, rfl, HV6.out⟩) (Lib.hid (by simp))).mono ?_
  rintro e w7 ⟨rfl, hb⟩
  have HB7 := Lib.hid (below_keep hb HB5.out)
  have HD7 := Lib.hid (dgb_keep HD5.out hb)
  have HX7 := Lib.hid (dgb_keep HX5.out hb)
  have HV7 := Lib.hid (HV5.out.keep hb)
  clear hb x0 x1 y0 y1 HB5 HD5 HX5 HY5 HV5 HV6
  by_cases hz : E ≠ 0
  · have z1 : (E != 0) = true := by simpa using hz
    go_wp2_with fail
    refine (HA _).mono ?_
    rintro e w9 ⟨rfl, hb⟩
    go_wp2
    go_ret
    exact ⟨rfl, below_keep hb HB7.out⟩
  obtain rfl : E = 0 := by omega
  clear hz ee
  obtain ⟨x0, x1, -, -⟩ := HX7.out
  have HE2 := Lib.hid (flipE_back HE.out)
  go_wp2_with fail
  refine (HI _ _ m n L l set 0 _ (Lib.hid ⟨_, rfl, HV7.out⟩) (Lib.hid (hs.out.keep HB7.out)) HE2).mono ?_
  rintro e w8 ⟨v8, rfl, ⟨a8, rfl, hav⟩, hb⟩
  obtain ⟨ao8, ac8, rfl, -, -, -⟩ := id hav
  have hbx := al1 w8 (.cells #[.int .i64 n, .slice ao8 l.length ac8] 24)
  have HB8 := Lib.hid (below_keep hbx (below_keep hb HB7.out))
  have HD8 := Lib.hid (dgb_keep (dgb_keep HD7.out hb) hbx)
  have HX8 := Lib.hid (dgb_new w8 n ao8 l.length ac8 24)
  have HV8 := Lib.hid (hav.keep hbx)
  clear hb hbx hav x0 x1 HB7 HD7 HX7 HV7
  obtain ⟨c0, c1, -, -⟩ := HD8.out
  obtain ⟨x0, x1, -, -⟩ := HX8.out
  go_wp2_with fail
  generalize w8.alloc (.cells #[.int .i64 n, .slice ao8 l.length ac8] 24) = wA at *
  refine (rsame_of _ _ n n l l true _ (Lib.hid ⟨_, rfl, HV8.out⟩) (Lib.hid (h.out.keep HB8.out)) (Lib.hid (by simp))).mono ?_
  rintro e wB ⟨rfl, hb⟩
  have HBB := Lib.hid (below_keep hb HB8.out)
  clear hb c0 c1 x0 x1
  go_wp2_with fail
  refine (HA _).mono ?_
  rintro e w9 ⟨rfl, hb⟩
  go_wp2
  go_ret
  exact ⟨rfl, below_keep hb HBB.out⟩
end Go.Proofs.Ytkmamdlhpbobhaa.dig
