/-
  The walk of DigraphSimple over what awake and the code's Simple return. No condition.
-/
import Derived.Test.YtkmamdlhpbobhaaDigWIn
namespace Go.Proofs.Ytkmamdlhpbobhaa.dig
open Go.RowKit

theorem simE_again {n m : Int} {l L : List Ar} {J : List Int} (h : simE n l = ((m, L), J)) : ∃ J2, simE m L = ((m, L), J2) := by
  unfold simE at h
  by_cases hv : validD n l = false
  · rw [if_pos hv] at h
    simp only [Prod.mk.injEq] at h
    obtain ⟨⟨rfl, rfl⟩, rfl⟩ := h
    exact ⟨[], by decide +kernel⟩
  rw [if_neg hv] at h
  simp only [Prod.mk.injEq] at h
  obtain ⟨⟨rfl, rfl⟩, rfl⟩ := h
  have hv' : validD n l = true := by simpa using hv
  have h2 := simA_valid hv'
  refine ⟨simI [] (simA [] l) 0, ?_⟩
  unfold simE
  rw [if_neg (by rw [h2]; decide), simA_again l [] [] (by simp)]
def SimSays : Prop := ∀ (v : Value) (n m : Int) (l L : List Ar) (J : List Int) (w : World), Hid (DgV w v n l) → Hid (l.length ≤ 256) → Hid (simE n l = ((m, L), J)) → Calls Try.prog 22 #[v] w (SimOut m L J w)
theorem simE_len {n m : Int} {l L : List Ar} {J : List Int} (h : simE n l = ((m, L), J)) : L.length ≤ l.length := by
  unfold simE at h
  by_cases hv : validD n l = false
  · rw [if_pos hv] at h
    simp only [Prod.mk.injEq] at h
    obtain ⟨⟨rfl, rfl⟩, rfl⟩ := h
    exact Nat.zero_le _
  rw [if_neg hv] at h
  simp only [Prod.mk.injEq] at h
  obtain ⟨⟨rfl, rfl⟩, rfl⟩ := h
  exact simA_len l []
set_option maxRecDepth 100000 in
set_option maxHeartbeats 8000000 in
theorem wsimple (HA : AwakeSays) (HI : SimSays) (v : Value) (n : Int) (l : List Ar) (w : World) (h : Hid (DgV w v n l)) :
    Calls Try.prog 6 #[v] w fun e w' => e = .returned (.bool true) ∧ Below w.heap.size w w' := by
  obtain ⟨av, rfl, hl⟩ := id h.out
  obtain ⟨lo, lc, rfl, hq1, hq2, -⟩ := id hl
  unfold maxLen at hq2
  obtain ⟨⟨⟨m, L⟩, J⟩, hE⟩ : ∃ x, simE n l = x := ⟨_, rfl⟩
  have HE := Lib.hid hE
  obtain ⟨J2, hE2⟩ := simE_again hE
  have HE2 := Lib.hid hE2
  have hLl := simE_len hE
  obtain ⟨W1, hW1⟩ : ∃ W1, w.alloc (.cells #[.int .i64 n, .slice lo l.length lc] 24) = W1 := ⟨_, rfl⟩
  have HB2 : Hid (Below w.heap.size w W1) := Lib.hid (by rw [← hW1]; exact al1 ..)
  have HD2 : Hid (dgb W1 w.heap.size n (.slice lo l.length lc)) := Lib.hid (by rw [← hW1]; exact dgb_new ..)
  have HW1 := Lib.hid hW1
  clear hE hE2 hW1 hl
  obtain ⟨g0, hg0⟩ : ∃ g, w.heap.size = g := ⟨_, rfl⟩
  have HG0 := Lib.hid hg0
  rw [hg0] at HD2
  by_cases hk : (l.length : Int) > 100
  · have e2 : decide ((100 : Int) < (l.length : Int)) = true := decide_eq_true hk
    obtain ⟨c0, c1, -, -⟩ := HD2.out
    go_enter Try.func6, Try.ntmps6
    go_wp2_with fail
    rw [HW1.out]
    refine (HA _).mono ?_
    rintro e w9 ⟨rfl, hb⟩
    go_wp2
    go_ret
    exact ⟨rfl, below_keep hb HB2.out⟩
  have e2 : decide ((100 : Int) < (l.length : Int)) = false := decide_eq_false hk
  have hl6 : Hid (l.length ≤ 256) := Lib.hid (by omega)
  have hL6 : Hid (L.length ≤ 256) := Lib.hid (by omega)
  go_enter Try.func6, Try.ntmps6
  go_wp2_with fail
  rw [HW1.out]
  try simp only [hg0]
  clear hg0 HW1 hLl
  obtain ⟨c0, c1, -, -⟩ := HD2.out
  refine (HI _ n m l L J _ (Lib.hid (h.out.keep HB2.out)) hl6 HE).mono ?_
  rintro e w3 ⟨v3, j3, rfl, ⟨a3, rfl, hav⟩, hj3, hb⟩
  obtain ⟨ao, ac, rfl, -, -, -⟩ := id hav
  have hbx := al1 w3 (.cells #[.int .i64 m, .slice ao L.length ac] 24)
  have HB3 := Lib.hid (below_keep hbx (below_keep hb HB2.out))
  have HD3 := Lib.hid (dgb_keep (dgb_keep HD2.out hb) hbx)
  have HX3 := Lib.hid (dgb_new w3 m ao L.length ac 24)
  have HV3 := Lib.hid (hav.keep hbx)
  have HJ3 := Lib.hid (hj3.keep hbx)
  clear hb hbx hav hj3 c0 c1 HB2 HD2
  obtain ⟨c0, c1, -, -⟩ := HD3.out
  obtain ⟨x0, x1, -, -⟩ := HX3.out
  go_wp2_with fail
  generalize w3.alloc (.cells #[.int .i64 m, .slice ao L.length ac] 24) = w4 at *
  refine (rsimple_of _ n m l L J _ (Lib.hid (h.out.keep HB3.out)) HE).mono ?_
  rintro e w5 ⟨v5, j5, rfl, ⟨a5, rfl, hav⟩, hj5, hb⟩
  obtain ⟨ao5, ac5, rfl, -, -, -⟩ := id hav
  have hbx := al1 w5 (.cells #[.int .i64 m, .slice ao5 L.length ac5] 24)
  have HB5 := Lib.hid (below_keep hbx (below_keep hb HB3.out))
  have HX5 := Lib.hid (dgb_keep (dgb_keep HX3.out hb) hbx)
  have HY5 := Lib.hid (dgb_new w5 m ao5 L.length ac5 24)
  have HV5 := Lib.hid ((HV3.out.keep hb).keep hbx)
  have HJ5 := Lib.hid ((HJ3.out.keep hb).keep hbx)
  have HV6 := Lib.hid (hav.keep hbx)
  have HJ6 := Lib.hid (hj5.keep hbx)
  clear hb hbx hav hj5 c0 c1 x0 x1 HB3 HD3 HX3 HV3 HJ3
  obtain ⟨x0, x1, -, -⟩ := HX5.out
  obtain ⟨y0, y1, -, -⟩ := HY5.out
  go_wp2_with fail
  generalize w5.alloc (.cells #[.int .i64 m, .slice ao5 L.length ac5] 24) = w6 at *
  refine (HI _ m m L L J2 _ (Lib.hid ⟨_, rfl, HV5.out⟩) hL6 HE2).mono ?_
  rintro e w7 ⟨v7, j7, rfl, ⟨a7, rfl, hav⟩, hj7, hb⟩
  obtain ⟨ao7, ac7, rfl, -, -, -⟩ := id hav
  have hbx := al1 w7 (.cells #[.int .i64 m, .slice ao7 L.length ac7] 24)
  have HB7 := Lib.hid (below_keep hbx (below_keep hb HB5.out))
  have HX7 := Lib.hid (dgb_keep (dgb_keep HX5.out hb) hbx)
  have HY7 := Lib.hid (dgb_keep (dgb_keep HY5.out hb) hbx)
  have HZ7 := Lib.hid (dgb_new w7 m ao7 L.length ac7 24)
  have HV7 := Lib.hid ((HV5.out.keep hb).keep hbx)
  have HJ7 := Lib.hid ((HJ5.out.keep hb).keep hbx)
  have HV8 := Lib.hid ((HV6.out.keep hb).keep hbx)
  have HJ8 := Lib.hid ((HJ6.out.keep hb).keep hbx)
  have HV9 := Lib.hid (hav.keep hbx)
  clear hb hbx hav hj7 x0 x1 y0 y1 HB5 HX5 HY5 HV5 HJ5 HV6 HJ6
  obtain ⟨x0, x1, -, -⟩ := HX7.out
  obtain ⟨y0, y1, -, -⟩ := HY7.out
  go_wp2_with fail
  generalize w7.alloc (.cells #[.int .i64 m, .slice ao7 L.length ac7] 24) = w8 at *
  refine (rsame_of _ _ m m L L true _ (Lib.hid ⟨_, rfl, HV7.out⟩) (Lib.hid ⟨_, rfl, HV8.out⟩) (Lib.hid (by simp))).mono ?_
  rintro e wA ⟨rfl, hb⟩
  have HBA := Lib.hid (below_keep hb HB7.out)
  have HXA := Lib.hid (dgb_keep HX7.out hb)
  have HZA := Lib.hid (dgb_keep HZ7.out hb)
  have HJA := Lib.hid (HJ7.out.keep hb)
  have HJB := Lib.hid (HJ8.out.keep hb)
  have HVA := Lib.hid (HV7.out.keep hb)
  have HVB := Lib.hid (HV9.out.keep hb)
  clear hb x0 x1 y0 y1 HX7 HY7 HZ7 HV7 HJ7 HV8 HJ8 HV9
  go_wp2_with fail
  refine (rints_of _ _ J J true _ HJA HJB (Lib.hid (by simp))).mono ?_
  rintro e wC ⟨rfl, hb⟩
  have HBC := Lib.hid (below_keep hb HBA.out)
  have HXC := Lib.hid (dgb_keep HXA.out hb)
  have HZC := Lib.hid (dgb_keep HZA.out hb)
  have HVC := Lib.hid (HVA.out.keep hb)
  have HVD := Lib.hid (HVB.out.keep hb)
  clear hb HXA HZA
  obtain ⟨x0, x1, -, -⟩ := HXC.out
  obtain ⟨y0, y1, -, -⟩ := HZC.out
  go_wp2_with fail
  refine (rsame_of _ _ m m L L true _ (Lib.hid ⟨_, rfl, HVD.out⟩) (Lib.hid ⟨_, rfl, HVC.out⟩) (Lib.hid (by simp))).mono ?_
  rintro e wD ⟨rfl, hb⟩
  have HBD := Lib.hid (below_keep hb HBC.out)
  clear hb x0 x1 y0 y1
  go_wp2_with fail
  refine (HA _).mono ?_
  rintro e w9 ⟨rfl, hb⟩
  go_wp2
  go_ret
  exact ⟨rfl, below_keep hb HBD.out⟩
end Go.Proofs.Ytkmamdlhpbobhaa.dig
