/-
  What Meet of layer 2 returns. Conditions: arguments are ints; no other.
-/
import Derived.Test.YtbdfmgnlmmihpaaGeoApi
import Derived.RegionTactic
namespace Go.Proofs.Ytbdfmgnlmmihpaa
open Go.RowKit

theorem contains_of (a1 a2 b1 b2 c1 c2 : Int) (v : Bool) (w : World) (ha : Hid (vld a1 a2 = true)) (hb : Hid (vld b1 b2 = true)) (hc : Hid (vld c1 c2 = true)) (hv : Hid (has a1 a2 b1 b2 c1 c2 = v)) :
    Calls Try.prog 27 #[.agg #[.int .i64 a1, .int .i64 a2, .int .i64 b1, .int .i64 b2], .agg #[.int .i64 c1, .int .i64 c2]] w fun e w' => e = .returned (.bool v) ∧ Below w.heap.size w w' := by
  have := contains_any a1 a2 b1 b2 c1 c2 w ha hb hc
  rw [hv.out] at this
  exact this
theorem crosses_of (a1 a2 b1 b2 c1 c2 d1 d2 : Int) (v : Bool) (w : World) (ha : Hid (vld a1 a2 = true)) (hb : Hid (vld b1 b2 = true)) (hc : Hid (vld c1 c2 = true)) (hd : Hid (vld d1 d2 = true)) (hv : Hid (crs a1 a2 b1 b2 c1 c2 d1 d2 = v)) :
    Calls Try.prog 29 #[.agg #[.int .i64 a1, .int .i64 a2, .int .i64 b1, .int .i64 b2], .agg #[.int .i64 c1, .int .i64 c2, .int .i64 d1, .int .i64 d2]] w fun e w' => e = .returned (.bool v) ∧ Below w.heap.size w w' := by
  have := crosses_any a1 a2 b1 b2 c1 c2 d1 d2 w ha hb hc hd
  rw [hv.out] at this
  exact this

set_option maxHeartbeats 2000000 in
theorem meet_any (a1 a2 b1 b2 c1 c2 d1 d2 : Int) (w : World) :
    Calls Try.prog 18 #[.agg #[.int .i64 a1, .int .i64 a2, .int .i64 b1, .int .i64 b2], .agg #[.int .i64 c1, .int .i64 c2, .int .i64 d1, .int .i64 d2]] w fun e w' => e = .returned (.bool (meet a1 a2 b1 b2 c1 c2 d1 d2)) ∧ Below w.heap.size w w' := by
  obtain ⟨v, hv⟩ : ∃ v, vld4 a1 a2 b1 b2 c1 c2 d1 d2 = v := ⟨_, rfl⟩
  obtain ⟨r0, h0⟩ : ∃ v, crs a1 a2 b1 b2 c1 c2 d1 d2 = v := ⟨_, rfl⟩
  obtain ⟨r1, h1⟩ : ∃ v, has a1 a2 b1 b2 c1 c2 = v := ⟨_, rfl⟩
  obtain ⟨r2, h2⟩ : ∃ v, has a1 a2 b1 b2 d1 d2 = v := ⟨_, rfl⟩
  obtain ⟨r3, h3⟩ : ∃ v, has c1 c2 d1 d2 a1 a2 = v := ⟨_, rfl⟩
  obtain ⟨r4, h4⟩ : ∃ v, has c1 c2 d1 d2 b1 b2 = v := ⟨_, rfl⟩
  have HV := Lib.hid hv
  have HO : Hid (meet a1 a2 b1 b2 c1 c2 d1 d2 = (v && (r0 || r1 || r2 || r3 || r4))) := Lib.hid (by unfold meet; rw [hv, h0, h1, h2, h3, h4])
  have H0 := Lib.hid h0
  have H1 := Lib.hid h1
  have H2 := Lib.hid h2
  have H3 := Lib.hid h3
  have H4 := Lib.hid h4
  clear hv h0 h1 h2 h3 h4
  cases v
  · go_enter Try.func18, Try.ntmps18
    go_wp2_with fail
    refine (allValid4 _ a1 a2 b1 b2 c1 c2 d1 d2 _ ?_ ?_ ?_ ?_ ?_ ?_ ?_ ?_ _ HV).mono ?_
    iterate 8 (· go_simp)
    rintro e w1 ⟨rfl, hb1⟩
    go_wp2
    go_ret
    refine ⟨ret_bool HO.out.symm, (((Below.refl _ _).alloc (Nat.le_refl _) _).alloc (by simp) _).alloc (by simp; omega) _ |>.trans (hb1.mono (by simp; omega))⟩
  · have HP := Lib.hid (vld4_parts HV.out)
    have HA := Lib.hid HP.out.1
    have HB := Lib.hid HP.out.2.1
    have HC := Lib.hid HP.out.2.2.1
    have HD := Lib.hid HP.out.2.2.2
    go_enter Try.func18, Try.ntmps18
    go_wp2_with fail
    refine (allValid4 _ a1 a2 b1 b2 c1 c2 d1 d2 _ ?_ ?_ ?_ ?_ ?_ ?_ ?_ ?_ _ HV).mono ?_
    iterate 8 (· go_simp)
    rintro e w1 ⟨rfl, hb1⟩
    have k0 : w1.cell? ⟨w.heap.size, 0, none⟩ = some (.int .i64 a1) := by rw [hb1.cell (p := ⟨w.heap.size, 0, none⟩) (by simp; omega)]; go_simp
    have k1 : w1.cell? ⟨w.heap.size, 1, none⟩ = some (.int .i64 a2) := by rw [hb1.cell (p := ⟨w.heap.size, 1, none⟩) (by simp; omega)]; go_simp
    have k2 : w1.cell? ⟨w.heap.size, 2, none⟩ = some (.int .i64 b1) := by rw [hb1.cell (p := ⟨w.heap.size, 2, none⟩) (by simp; omega)]; go_simp
    have k3 : w1.cell? ⟨w.heap.size, 3, none⟩ = some (.int .i64 b2) := by rw [hb1.cell (p := ⟨w.heap.size, 3, none⟩) (by simp; omega)]; go_simp
    have k4 : w1.cell? ⟨w.heap.size + 1, 0, none⟩ = some (.int .i64 c1) := by rw [hb1.cell (p := ⟨w.heap.size + 1, 0, none⟩) (by simp)]; go_simp
    have k5 : w1.cell? ⟨w.heap.size + 1, 1, none⟩ = some (.int .i64 c2) := by rw [hb1.cell (p := ⟨w.heap.size + 1, 1, none⟩) (by simp)]; go_simp
    have k6 : w1.cell? ⟨w.heap.size + 1, 2, none⟩ = some (.int .i64 d1) := by rw [hb1.cell (p := ⟨w.heap.size + 1, 2, none⟩) (by simp)]; go_simp
    have k7 : w1.cell? ⟨w.heap.size + 1, 3, none⟩ = some (.int .i64 d2) := by rw [hb1.cell (p := ⟨w.heap.size + 1, 3, none⟩) (by simp)]; go_simp
    have hz0 : w.heap.size < w1.heap.size := by have := hb1.size; simp at this; omega
    have hz1 : w.heap.size + 1 < w1.heap.size := by have := hb1.size; simp at this; omega
    have HB1 : Below w.heap.size w w1 := (((Below.refl _ _).alloc (Nat.le_refl _) _).alloc (by simp) _).alloc (by simp; omega) _ |>.trans (hb1.mono (by simp; omega))
    clear hb1
    go_wp2_with fail
    go_region
    all_goals (
      go_wp2_with fail
      refine (crosses_of _ _ _ _ _ _ _ _ _ _ HA HB HC HD H0).mono ?_
      rintro e w2 ⟨rfl, hb2⟩
      obtain ⟨hc2, hf2⟩ := bcell hb2
      have hz2 : w1.heap.size < w2.heap.size := by have := hb2.size; simp at this; omega
      have hy2 : w1.heap.size + 1 < w2.heap.size := by have := hb2.size; simp at this; omega
      go_wp2_with (first
        | (go_at_call 27; (with_reducible refine (contains_of _ _ _ _ _ _ _ _ HA HB HC H1).mono ?_); rintro e w3 ⟨rfl, hb3⟩; obtain ⟨hc3, hf3⟩ := bcell hb3; have hz3 : w1.heap.size < w3.heap.size := (by have := hb3.size; omega); have hy3 : w1.heap.size + 1 < w3.heap.size := (by have := hb3.size; omega))
        | (go_at_call 27; (with_reducible refine (contains_of _ _ _ _ _ _ _ _ HA HB HD H2).mono ?_); rintro e w3 ⟨rfl, hb3⟩; obtain ⟨hc3, hf3⟩ := bcell hb3; have hz3 : w1.heap.size < w3.heap.size := (by have := hb3.size; omega); have hy3 : w1.heap.size + 1 < w3.heap.size := (by have := hb3.size; omega))
        | (go_at_call 27; (with_reducible refine (contains_of _ _ _ _ _ _ _ _ HC HD HA H3).mono ?_); rintro e w3 ⟨rfl, hb3⟩; obtain ⟨hc3, hf3⟩ := bcell hb3; have hz3 : w1.heap.size < w3.heap.size := (by have := hb3.size; omega); have hy3 : w1.heap.size + 1 < w3.heap.size := (by have := hb3.size; omega))
        | (go_at_call 27; (with_reducible refine (contains_of _ _ _ _ _ _ _ _ HC HD HB H4).mono ?_); rintro e w3 ⟨rfl, hb3⟩; obtain ⟨hc3, hf3⟩ := bcell hb3; have hz3 : w1.heap.size < w3.heap.size := (by have := hb3.size; omega); have hy3 : w1.heap.size + 1 < w3.heap.size := (by have := hb3.size; omega))))
    all_goals go_ret
    all_goals refine ⟨ret_bool ?_, ?_⟩
    all_goals first
      | (rw [HO.out]; simp_all; done)
      | (iterate 6 (try (first | exact (((HB1.alloc (by omega) _).alloc (by simp; omega) _).drew) | refine below_keep (by assumption) ?_)))
end Go.Proofs.Ytbdfmgnlmmihpaa
