/-
  long of the statements of layer 14; the walk of DigraphInduced over what awake and the code's Induced return. No condition.
-/
import Derived.Test.YtkmamdlhpbobhaaDigRef6
namespace Go.Proofs.Ytkmamdlhpbobhaa.dig
open Go.RowKit

set_option maxRecDepth 100000 in
theorem dlong_of (v : Value) (n : Int) (l : List Ar) (R : Bool) (w : World) (h : Hid (DgV w v n l)) (hr : Hid (decide (400 < (l.length : Int)) = R)) :
    Calls Try.prog 9 #[v] w fun e w' => e = .returned (.bool R) ∧ Below w.heap.size w w' := by
  obtain ⟨av, rfl, hl⟩ := id h.out
  obtain ⟨lo, lc, rfl, -, -, -⟩ := id hl
  have HB := Lib.hid (al1 w (.cells #[.int .i64 n, .slice lo l.length lc] 24))
  go_enter Try.func9, Try.ntmps9
  go_wp2
  go_ret
  exact ⟨by rw [← hr.out]; rfl, HB.out⟩
def AwakeSays : Prop := ∀ w : World, Calls Try.prog 10 #[] w fun e w' => e = .returned (.bool true) ∧ Below w.heap.size w w'
def IndSays : Prop := ∀ (v sv : Value) (n m : Int) (l L : List Ar) (keep J : List Int) (E : Int) (w : World), Hid (DgV w v n l) → Hid (Ins w sv keep) → Hid (indE n l keep = (((m, L), J), E)) → Calls Try.prog 24 #[v, sv] w (IndOut m L J E w)
set_option maxRecDepth 100000 in
set_option maxHeartbeats 8000000 in
theorem winduced (HA : AwakeSays) (HI : IndSays) (v sv : Value) (n : Int) (l : List Ar) (keep : List Int) (w : World) (h : Hid (DgV w v n l)) (hs : Hid (Ins w sv keep)) :
    Calls Try.prog 7 #[v, sv] w fun e w' => e = .returned (.bool true) ∧ Below w.heap.size w w' := by
  obtain ⟨av, rfl, hl⟩ := id h.out
  obtain ⟨lo, lc, rfl, hq1, hq2, -⟩ := id hl
  obtain ⟨so, sc, rfl, hq3, hq4, -⟩ := id hs.out
  unfold maxLen at hq2 hq4
  obtain ⟨⟨⟨⟨m, L⟩, J⟩, E⟩, hE⟩ : ∃ x, indE n l keep = x := ⟨_, rfl⟩
  have HE := Lib.hid hE
  obtain ⟨W1, hW1⟩ : ∃ W1, w.alloc (.cells #[.int .i64 n, .slice lo l.length lc] 24) = W1 := ⟨_, rfl⟩
  have HB : Hid (Below w.heap.size w W1) := Lib.hid (by rw [← hW1]; exact al1 ..)
  have HD : Hid (dgb W1 w.heap.size n (.slice lo l.length lc)) := Lib.hid (by rw [← hW1]; exact dgb_new ..)
  have HW1 := Lib.hid hW1
  clear hE hW1 hl
  go_enter Try.func7, Try.ntmps7
  go_wp2_with fail
  rw [HW1.out]
  obtain ⟨g0, hg0⟩ : ∃ g, w.heap.size = g := ⟨_, rfl⟩
  have HG0 := Lib.hid hg0
  rw [hg0] at HD
  try simp only [hg0]
  clear hg0 HW1
  obtain ⟨R, hR⟩ : ∃ R, decide (400 < (l.length : Int)) = R := ⟨_, rfl⟩
  refine (dlong_of _ n l R _ (Lib.hid (h.out.keep HB.out)) (Lib.hid hR)).mono ?_
  rintro e w2 ⟨rfl, hb⟩
  have HB2 := Lib.hid (below_keep hb HB.out)
  have HD2 := Lib.hid (dgb_keep HD.out hb)
  clear hb HB HD W1
  cases R
  case true =>
    go_wp2_with fail
    refine (HA _).mono ?_
    rintro e w3 ⟨rfl, hb⟩
    go_wp2
    go_ret
    exact ⟨rfl, below_keep hb HB2.out⟩
  by_cases hk : (keep.length : Int) > 400
  · have e1 : decide ((keep.length : Int) > 400) = true := decide_eq_true hk
    have e2 : decide ((400 : Int) < (keep.length : Int)) = true := decide_eq_true hk
    go_wp2_with fail
    refine (HA _).mono ?_
    rintro e w3 ⟨rfl, hb⟩
    go_wp2
    go_ret
    exact ⟨rfl, below_keep hb HB2.out⟩
  have e1 : decide ((keep.length : Int) > 400) = false := decide_eq_false hk
  have e2 : decide ((400 : Int) < (keep.length : Int)) = false := decide_eq_false hk
  obtain ⟨c0, c1, -, -⟩ := HD2.out
  go_wp2_with fail
  refine (HI _ _ n m l L keep J E _ (Lib.hid (h.out.keep HB2.out)) (Lib.hid (hs.out.keep HB2.out)) HE).mono ?_
  rintro e w3 ⟨v3, j3, rfl, ⟨a3, rfl, hav⟩, hj3, hb⟩
  obtain ⟨ao, ac, rfl, -, -, -⟩ := id hav
  have hbx := al1 w3 (.cells #[.int .i64 m, .slice ao L.length ac] 24)
  have HB3 := Lib.hid (below_keep hbx (below_keep hb HB2.out))
  have HD3 := Lib.hid (dgb_keep (dgb_keep HD2.out hb) hbx)
  have HX3 := Lib.hid (dgb_new w3 m ao L.length ac 24)
  have HV3 := Lib.hid (hav.keep hbx)
  have HJ3 := Lib.hid (hj3.keep hbx)
  clear hb hbx hav hj3 c0 c1 HB2 HD2
  obtain ⟨c0, c1, -, -⟩ := HD3.out
  obtain ⟨x0, x1, -, -⟩ := HX3.out
  go_wp2_with fail
  generalize w3.alloc (.cells #[.int .i64 m, .slice ao L.length ac] 24) = w4 at *
  refine (rind_of _ _ n m l L keep J E _ (Lib.hid (h.out.keep HB3.out)) (Lib.hid (hs.out.keep HB3.out)) HE).mono ?_
  rintro e w5 ⟨v5, j5, rfl, ⟨a5, rfl, hav⟩, hj5, hb⟩
  obtain ⟨ao5, ac5, rfl, -, -, -⟩ := id hav
  have hbx := al1 w5 (.cells #[.int .i64 m, .slice ao5 L.length ac5] 24)
  have HB5 := Lib.hid (below_keep hbx (below_keep hb HB3.out))
  have HX5 := Lib.hid (dgb_keep (dgb_keep HX3.out hb) hbx)
  have HY5 := Lib.hid (dgb_new w5 m ao5 L.length ac5 24)
  have HV5 := Lib.hid ((HV3.out.keep hb).keep hbx)
  have HJ5 := Lib.hid ((HJ3.out.keep hb).keep hbx)
  have HV6 := Lib.hid (hav.keep hbx)
  have HJ6 := Lib.hid (hj5.keep hbx)
  clear hb hbx hav hj5 c0 c1 x0 x1 HB3 HD3 HX3 HV3 HJ3
  obtain ⟨x0, x1, -, -⟩ := HX5.out
  obtain ⟨y0, y1, -, -⟩ := HY5.out
  have ee : (E == E) = true := beq_self_eq_true E
  go_wp2_with fail
  generalize w5.alloc (.cells #[.int .i64 m, .slice ao5 L.length ac5] 24) = w6 at *
  refine (rsame_of _ _ m m L L true _ (Lib.hid ⟨_, rfl, HV5.out⟩) (Lib.hid ⟨_, rfl, HV6.out⟩) (Lib.hid (by simp))).mono ?_
  rintro e w7 ⟨rfl, hb⟩
  have HB7 := Lib.hid (below_keep hb HB5.out)
  have HJ7 := Lib.hid (HJ5.out.keep hb)
  have HJ8 := Lib.hid (HJ6.out.keep hb)
  clear hb x0 x1 y0 y1
  go_wp2_with fail
  refine (rints_of _ _ J J true _ HJ7 HJ8 (Lib.hid (by simp))).mono ?_
  rintro e w8 ⟨rfl, hb⟩
  have HB8 := Lib.hid (below_keep hb HB7.out)
  clear hb
  go_wp2_with fail
  refine (HA _).mono ?_
  rintro e w9 ⟨rfl, hb⟩
  go_wp2
  go_ret
  exact ⟨rfl, below_keep hb HB8.out⟩
end Go.Proofs.Ytkmamdlhpbobhaa.dig
