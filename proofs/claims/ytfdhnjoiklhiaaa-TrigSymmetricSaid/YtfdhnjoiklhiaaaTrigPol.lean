/-
  What Polar returns, in the code and in the reference. Conditions: arguments are ints; no other. (Printed by genpolar.py.)
-/
import Derived.Test.YtfdhnjoiklhiaaaGeoNum
import Derived.Test.YtfdhnjoiklhiaaaTrigSin
import Derived.Test.YtfdhnjoiklhiaaaTrigRef
import Derived.Test.YtfdhnjoiklhiaaaTwo
namespace Go.Proofs.Ytfdhnjoiklhiaaa
open Go.RowKit

theorem valid_at (x y : Int) (v : Bool) (w : World) (hv : Hid (vld x y = v)) :
    Calls Try.prog 20 #[.agg #[.int .i64 x, .int .i64 y]] w fun e w' => e = .returned (.bool v) ∧ Below w.heap.size w w' := by
  rw [← hv.out]; exact valid_any x y w
theorem refValid_at (x y : Int) (v : Bool) (w : World) (hv : Hid (vld x y = v)) :
    Calls Try.prog 16 #[.agg #[.int .i64 x, .int .i64 y]] w fun e w' => e = .returned (.bool v) ∧ Below w.heap.size w w' := by
  rw [← hv.out]; exact refValid_any x y w

/-- What the statement that lays the point leaves: a block of its own with both coordinates. -/
def PolCut (W : World) (x y : Int) (s : Value) (wx : World) : Prop := ∃ b : Nat, s = .pointer (some ⟨b, 0, none⟩) ∧ W.heap.size ≤ b ∧ ow2 wx b x y ∧ Below W.heap.size W wx

set_option maxHeartbeats 4000000 in
theorem polno (c1 c2 r d : Int) (w : World) (h : Hid (vld c1 c2 = false ∨ (vld c1 c2 = true ∧ (r < 0 ∨ 1048576 < r)))) :
    Calls Try.prog 13 #[.agg #[.int .i64 c1, .int .i64 c2], .int .i64 r, .int .i64 d] w fun e w' => e = .returned (.agg #[.int .i64 0, .int .i64 0]) ∧ Below w.heap.size w w' := by
  obtain ⟨u, hu⟩ : ∃ u, vld c1 c2 = u := ⟨_, rfl⟩
  have HU := Lib.hid hu
  have h' := h.out
  clear h
  rw [hu] at h'
  clear hu
  have H := Lib.hid h'
  clear h'
  go_enter Try.func13, Try.ntmps13
  go_wp2_with fail
  refine (valid_at _ _ _ _ HU).mono ?_
  rintro e w1 ⟨rfl, hb1⟩
  have hq1 := below_keep hb1 (al2 ..)
  have f0 : ow2 w1 (w.heap.size + 1) 0 0 := by simpa using ow2_keep hb1 (ow2_new (w.alloc (.cells #[.int .i64 c1, .int .i64 c2] 26)) 0 0 26)
  obtain ⟨k0, k1, k2, k3⟩ := f0
  clear hb1
  rcases H.out with h0 | ⟨h0, h0' | h0'⟩
  all_goals subst h0
  all_goals go_wp2
  all_goals exact bodyPost_ret (v := .agg #[.int .i64 0, .int .i64 0]) (by simp [results, Try.results13, go_sem, k0, k1]) rfl ⟨rfl, set2 hq1 (by omega)⟩

set_option maxHeartbeats 16000000 in
theorem polyes (c1 c2 r d x y : Int) (v : Bool) (w : World) (HU : Hid (vld c1 c2 = true)) (h0 : 0 ≤ r) (h1 : r ≤ 1048576) (hx : c1 + prt r (cosD d) = x) (hy : c2 + prt r (sinD d) = y) (HV : Hid (vld x y = v)) :
    Calls Try.prog 13 #[.agg #[.int .i64 c1, .int .i64 c2], .int .i64 r, .int .i64 d] w fun e w' => e = .returned (.agg #[.int .i64 (if v then x else 0), .int .i64 (if v then y else 0)]) ∧ Below w.heap.size w w' := by
  obtain ⟨kc, hkc⟩ : ∃ u, cosD d = u := ⟨_, rfl⟩
  obtain ⟨ks, hks⟩ : ∃ u, sinD d = u := ⟨_, rfl⟩
  have rc := cos_range d
  have rs := sin_range d
  rw [hkc] at rc hx
  rw [hks] at rs hy
  have HC := Lib.hid hkc
  have HS := Lib.hid hks
  clear hkc hks
  obtain ⟨a, ha⟩ : ∃ u, prt r kc = u := ⟨_, rfl⟩
  obtain ⟨b, hb⟩ : ∃ u, prt r ks = u := ⟨_, rfl⟩
  have ra := prt_range r kc h0 rc.1 rc.2
  have rb := prt_range r ks h0 rs.1 rs.2
  have HRC : Hid (0 ≤ r ∧ r ≤ 1048576 ∧ -10000 ≤ kc ∧ kc ≤ 10000) := Lib.hid ⟨h0, h1, rc⟩
  have HRS : Hid (0 ≤ r ∧ r ≤ 1048576 ∧ -10000 ≤ ks ∧ ks ≤ 10000) := Lib.hid ⟨h0, h1, rs⟩
  rw [ha] at hx ra
  rw [hb] at hy rb
  have HA := Lib.hid ha
  have HB := Lib.hid hb
  clear ha hb
  have hc := (vld_iff _ _).1 HU.out
  have e1 : IntKind.i64.wrap (c1 + a) = x := by rw [← hx]; exact IntWalk.i64_in _ (by omega)
  have e2 : IntKind.i64.wrap (c2 + b) = y := by rw [← hy]; exact IntWalk.i64_in _ (by omega)
  have E1 := Lib.hid e1
  have E2 := Lib.hid e2
  clear hx hy rc rs ra rb hc e1 e2
  go_enter Try.func13, Try.ntmps13
  go_upto_region 3 with ((go_at_call 20; refine (valid_at _ _ _ _ HU).mono ?_; rintro e w1 ⟨rfl, hb1⟩))
  have hq1 := below_keep hb1 (al2 ..)
  have f0 : ow2 w1 (w.heap.size + 1) 0 0 := by simpa using ow2_keep hb1 (ow2_new (w.alloc (.cells #[.int .i64 c1, .int .i64 c2] 26)) 0 0 26)
  have f1 : at2 w1 w.heap.size c1 c2 := at2_keep hb1 (at2_keep (al1 ..) (at2_new w c1 c2 26))
  clear hb1
  go_cut [7] (fun s wx => PolCut w1 x y s wx)
  case first =>
    have hD1 := E1.out
    have hD2 := E2.out
    obtain ⟨d0, d1⟩ := f1
    have z0 : w.heap.size + 1 < w1.heap.size := by have := World.block_lt_of_cell? w1 _ f0.1; simpa using this
    have F0 : True → ow2 w1 (w.heap.size + 1) 0 0 := fun _ => f0
    have HQ := Lib.hid hq1
    clear f0 hq1
    have hP0 : Below w1.heap.size w1 w1 ∧ w1.cell? ⟨w.heap.size, 0, none⟩ = some (.int .i64 c1) ∧ w1.cell? ⟨w.heap.size, 1, none⟩ = some (.int .i64 c2) := k_refl d0 d1
    go_region_held3 (fun w' => Below w1.heap.size w1 w' ∧ w'.cell? ⟨w.heap.size, 0, none⟩ = some (.int .i64 c1) ∧ w'.cell? ⟨w.heap.size, 1, none⟩ = some (.int .i64 c2))
      ((repeat (first | (with_reducible assumption) | (with_reducible refine k_drew ?_) | (with_reducible refine k_alloc ?_) | (with_reducible refine k_set ?_ ?_ ?_) | omega)))
      (first
        | (go_at_call 10; (with_reducible refine (cos_of _ _ _ HC).mono ?_); rintro e w2 ⟨rfl, hb2⟩; have hP : Below w1.heap.size w1 w2 ∧ w2.cell? ⟨w.heap.size, 0, none⟩ = some (.int .i64 c1) ∧ w2.cell? ⟨w.heap.size, 1, none⟩ = some (.int .i64 c2) := (by refine k_call hb2 ?_; (repeat (first | (with_reducible assumption) | (with_reducible refine k_drew ?_) | (with_reducible refine k_alloc ?_) | (with_reducible refine k_set ?_ ?_ ?_) | omega))); have l2 := hb2.size; (try simp at l2); (try ((with_reducible have hk := ow2_keep hb2 (ow2_new _ 0 0 26)); (try simp only [World.size_alloc] at hk); have g0 := hk.1; have g1 := hk.2.1; have g2 := hk.2.2.1; have g3 := hk.2.2.2; have gl := ow2_lt hk; have gn := Nat.ne_of_lt gl; have gm := Nat.ne_of_gt gl)); (try ((with_reducible have hk := ow2_keep hb2 (ow2_drew (ow2_new _ 0 0 26))); (try simp only [World.size_alloc] at hk); have g0 := hk.1; have g1 := hk.2.1; have g2 := hk.2.2.1; have g3 := hk.2.2.2; have gl := ow2_lt hk; have gn := Nat.ne_of_lt gl; have gm := Nat.ne_of_gt gl)))
        | (go_at_call 8; (with_reducible refine (sin_of _ _ _ HS).mono ?_); rintro e w2 ⟨rfl, hb2⟩; have hP : Below w1.heap.size w1 w2 ∧ w2.cell? ⟨w.heap.size, 0, none⟩ = some (.int .i64 c1) ∧ w2.cell? ⟨w.heap.size, 1, none⟩ = some (.int .i64 c2) := (by refine k_call hb2 ?_; (repeat (first | (with_reducible assumption) | (with_reducible refine k_drew ?_) | (with_reducible refine k_alloc ?_) | (with_reducible refine k_set ?_ ?_ ?_) | omega))); have l2 := hb2.size; (try simp at l2); (try ((with_reducible have hk := ow2_keep hb2 (ow2_new _ 0 0 26)); (try simp only [World.size_alloc] at hk); have g0 := hk.1; have g1 := hk.2.1; have g2 := hk.2.2.1; have g3 := hk.2.2.2; have gl := ow2_lt hk; have gn := Nat.ne_of_lt gl; have gm := Nat.ne_of_gt gl)); (try ((with_reducible have hk := ow2_keep hb2 (ow2_drew (ow2_new _ 0 0 26))); (try simp only [World.size_alloc] at hk); have g0 := hk.1; have g1 := hk.2.1; have g2 := hk.2.2.1; have g3 := hk.2.2.2; have gl := ow2_lt hk; have gn := Nat.ne_of_lt gl; have gm := Nat.ne_of_gt gl)); (try ((with_reducible have hk := ow2_keep hb2 ((by assumption : ow2 _ w1.heap.size 0 0))); (try simp only [World.size_alloc] at hk); have g0 := hk.1; have g1 := hk.2.1; have g2 := hk.2.2.1; have g3 := hk.2.2.2; have gl := ow2_lt hk; have gn := Nat.ne_of_lt gl; have gm := Nat.ne_of_gt gl)))
        | (go_at_call 21; (with_reducible refine (scale_of _ _ _ _ HRC HA).mono ?_); rintro e w2 ⟨rfl, rfl⟩)
        | (go_at_call 21; (with_reducible refine (scale_of _ _ _ _ HRS HB).mono ?_); rintro e w2 ⟨rfl, rfl⟩))
    all_goals
      go_split_ands
      go_wp2_with fail
      go_meet
      refine ⟨_, rfl, ?_, ?_, ?_⟩
      · omega
      · (repeat (first | (with_reducible assumption) | (with_reducible exact ow2_new _ _ _ _) | (with_reducible refine ow2_set0 _ _ ?_) | (with_reducible refine ow2_far ?_ ?_) | (with_reducible refine ow2_here _ _ _ ?_; simp; done) | (with_reducible refine ow2_keep (al1 ..) ?_) | omega))
      · (with_reducible assumption)
  case rest =>
    obtain ⟨g, rfl, hg, g1, hB⟩ := hcut
    have z0 : w.heap.size + 1 < w1.heap.size := by have := World.block_lt_of_cell? w1 _ f0.1; simpa using this
    have f2 := ow2_keep hB f0
    have hq2 := below_keep hB hq1
    clear f0 f1 hB hq1 E1 E2 HA HB HC HS HRC HRS
    have g2 := g1
    obtain ⟨p0, p1, p2, p3⟩ := g2
    have z1 : w.heap.size + 1 ≠ g := by omega
    have z2 : g ≠ w.heap.size + 1 := by omega
    go_wp2_with fail
    refine (valid_at _ _ _ _ HV).mono ?_
    rintro e w3 ⟨rfl, hb3⟩
    have f3 := ow2_keep hb3 f2
    have hq3 := below_keep hb3 hq2
    have g3 := ow2_keep hb3 g1
    clear p0 p1 p2 p3 hb3 hq2 f2 g1
    obtain ⟨p0, p1, p2, p3⟩ := g3
    obtain ⟨k0, k1, k2, k3⟩ := f3
    cases v
    · go_wp2
      exact bodyPost_ret (v := .agg #[.int .i64 0, .int .i64 0]) (by simp [results, Try.results13, go_sem, k0, k1]) rfl ⟨rfl, set2 hq3 (by omega)⟩
    · go_wp2
      exact bodyPost_ret (v := .agg #[.int .i64 x, .int .i64 y]) (by simp [results, Try.results13, go_sem, k0, k1]) rfl ⟨rfl, set2 hq3 (by omega)⟩

theorem pol_any (c1 c2 r d : Int) (w : World) :
    Calls Try.prog 13 #[.agg #[.int .i64 c1, .int .i64 c2], .int .i64 r, .int .i64 d] w fun e w' => e = .returned (.agg #[.int .i64 (polX c1 c2 r d), .int .i64 (polY c1 c2 r d)]) ∧ Below w.heap.size w w' := by
  have zero : polB c1 c2 r d = false → (vld c1 c2 = false ∨ (vld c1 c2 = true ∧ (r < 0 ∨ 1048576 < r))) → Calls Try.prog 13 #[.agg #[.int .i64 c1, .int .i64 c2], .int .i64 r, .int .i64 d] w fun e w' => e = .returned (.agg #[.int .i64 (polX c1 c2 r d), .int .i64 (polY c1 c2 r d)]) ∧ Below w.heap.size w w' := by
    intro h1 h2
    rw [show polX c1 c2 r d = 0 by unfold polX; rw [h1]; rfl, show polY c1 c2 r d = 0 by unfold polY; rw [h1]; rfl]
    exact polno c1 c2 r d w (Lib.hid h2)
  cases hv : vld c1 c2
  · exact zero (by unfold polB; rw [hv]; rfl) (Or.inl hv)
  · by_cases hr : 0 ≤ r ∧ r ≤ 1048576
    · have e : polB c1 c2 r d = vld (c1 + prt r (cosD d)) (c2 + prt r (sinD d)) := by unfold polB; rw [hv]; simp [hr]
      have := polyes c1 c2 r d _ _ _ w (Lib.hid hv) hr.1 hr.2 rfl rfl (Lib.hid rfl)
      unfold polX polY
      rw [e]
      exact this
    · exact zero (by unfold polB; rw [hv]; simp; omega) (Or.inr ⟨hv, by omega⟩)

theorem pol_of (c1 c2 r d x y : Int) (w : World) (hx : Hid (polX c1 c2 r d = x)) (hy : Hid (polY c1 c2 r d = y)) :
    Calls Try.prog 13 #[.agg #[.int .i64 c1, .int .i64 c2], .int .i64 r, .int .i64 d] w fun e w' => e = .returned (.agg #[.int .i64 x, .int .i64 y]) ∧ Below w.heap.size w w' := by
  rw [← hx.out, ← hy.out]; exact pol_any c1 c2 r d w

set_option maxHeartbeats 4000000 in
theorem refPolno (c1 c2 r d : Int) (w : World) (h : Hid (vld c1 c2 = false ∨ (vld c1 c2 = true ∧ (r < 0 ∨ 1048576 < r)))) :
    Calls Try.prog 14 #[.agg #[.int .i64 c1, .int .i64 c2], .int .i64 r, .int .i64 d] w fun e w' => e = .returned (.agg #[.int .i64 0, .int .i64 0]) ∧ Below w.heap.size w w' := by
  obtain ⟨u, hu⟩ : ∃ u, vld c1 c2 = u := ⟨_, rfl⟩
  have HU := Lib.hid hu
  have h' := h.out
  clear h
  rw [hu] at h'
  clear hu
  have H := Lib.hid h'
  clear h'
  go_enter Try.func14, Try.ntmps14
  go_wp2_with fail
  refine (refValid_at _ _ _ _ HU).mono ?_
  rintro e w1 ⟨rfl, hb1⟩
  have hq1 := below_keep hb1 (al2 ..)
  have f0 : ow2 w1 (w.heap.size + 1) 0 0 := by simpa using ow2_keep hb1 (ow2_new (w.alloc (.cells #[.int .i64 c1, .int .i64 c2] 26)) 0 0 26)
  obtain ⟨k0, k1, k2, k3⟩ := f0
  clear hb1
  rcases H.out with h0 | ⟨h0, h0' | h0'⟩
  all_goals subst h0
  all_goals go_wp2
  all_goals exact bodyPost_ret (v := .agg #[.int .i64 0, .int .i64 0]) (by simp [results, Try.results14, go_sem, k0, k1]) rfl ⟨rfl, set2 hq1 (by omega)⟩

set_option maxHeartbeats 16000000 in
theorem refPolyes (c1 c2 r d x y : Int) (v : Bool) (w : World) (HU : Hid (vld c1 c2 = true)) (h0 : 0 ≤ r) (h1 : r ≤ 1048576) (hx : c1 + prt r (cosD d) = x) (hy : c2 + prt r (sinD d) = y) (HV : Hid (vld x y = v)) :
    Calls Try.prog 14 #[.agg #[.int .i64 c1, .int .i64 c2], .int .i64 r, .int .i64 d] w fun e w' => e = .returned (.agg #[.int .i64 (if v then x else 0), .int .i64 (if v then y else 0)]) ∧ Below w.heap.size w w' := by
  obtain ⟨kc, hkc⟩ : ∃ u, cosD d = u := ⟨_, rfl⟩
  obtain ⟨ks, hks⟩ : ∃ u, sinD d = u := ⟨_, rfl⟩
  have rc := cos_range d
  have rs := sin_range d
  rw [hkc] at rc hx
  rw [hks] at rs hy
  have HC := Lib.hid hkc
  have HS := Lib.hid hks
  clear hkc hks
  obtain ⟨a, ha⟩ : ∃ u, prt r kc = u := ⟨_, rfl⟩
  obtain ⟨b, hb⟩ : ∃ u, prt r ks = u := ⟨_, rfl⟩
  have ra := prt_range r kc h0 rc.1 rc.2
  have rb := prt_range r ks h0 rs.1 rs.2
  have HRC : Hid (0 ≤ r ∧ r ≤ 1048576 ∧ -10000 ≤ kc ∧ kc ≤ 10000) := Lib.hid ⟨h0, h1, rc⟩
  have HRS : Hid (0 ≤ r ∧ r ≤ 1048576 ∧ -10000 ≤ ks ∧ ks ≤ 10000) := Lib.hid ⟨h0, h1, rs⟩
  rw [ha] at hx ra
  rw [hb] at hy rb
  have HA := Lib.hid ha
  have HB := Lib.hid hb
  clear ha hb
  have hc := (vld_iff _ _).1 HU.out
  have e1 : IntKind.i64.wrap (c1 + a) = x := by rw [← hx]; exact IntWalk.i64_in _ (by omega)
  have e2 : IntKind.i64.wrap (c2 + b) = y := by rw [← hy]; exact IntWalk.i64_in _ (by omega)
  have E1 := Lib.hid e1
  have E2 := Lib.hid e2
  clear hx hy rc rs ra rb hc e1 e2
  go_enter Try.func14, Try.ntmps14
  go_upto_region 3 with ((go_at_call 16; refine (refValid_at _ _ _ _ HU).mono ?_; rintro e w1 ⟨rfl, hb1⟩))
  have hq1 := below_keep hb1 (al2 ..)
  have f0 : ow2 w1 (w.heap.size + 1) 0 0 := by simpa using ow2_keep hb1 (ow2_new (w.alloc (.cells #[.int .i64 c1, .int .i64 c2] 26)) 0 0 26)
  have f1 : at2 w1 w.heap.size c1 c2 := at2_keep hb1 (at2_keep (al1 ..) (at2_new w c1 c2 26))
  clear hb1
  go_cut [7] (fun s wx => PolCut w1 x y s wx)
  case first =>
    have hD1 := E1.out
    have hD2 := E2.out
    obtain ⟨d0, d1⟩ := f1
    have z0 : w.heap.size + 1 < w1.heap.size := by have := World.block_lt_of_cell? w1 _ f0.1; simpa using this
    have F0 : True → ow2 w1 (w.heap.size + 1) 0 0 := fun _ => f0
    have HQ := Lib.hid hq1
    clear f0 hq1
    have hP0 : Below w1.heap.size w1 w1 ∧ w1.cell? ⟨w.heap.size, 0, none⟩ = some (.int .i64 c1) ∧ w1.cell? ⟨w.heap.size, 1, none⟩ = some (.int .i64 c2) := k_refl d0 d1
    go_region_held3 (fun w' => Below w1.heap.size w1 w' ∧ w'.cell? ⟨w.heap.size, 0, none⟩ = some (.int .i64 c1) ∧ w'.cell? ⟨w.heap.size, 1, none⟩ = some (.int .i64 c2))
      ((repeat (first | (with_reducible assumption) | (with_reducible refine k_drew ?_) | (with_reducible refine k_alloc ?_) | (with_reducible refine k_set ?_ ?_ ?_) | omega)))
      (first
        | (go_at_call 11; (with_reducible refine (refCos_of _ _ _ HC).mono ?_); rintro e w2 ⟨rfl, hb2⟩; have hP : Below w1.heap.size w1 w2 ∧ w2.cell? ⟨w.heap.size, 0, none⟩ = some (.int .i64 c1) ∧ w2.cell? ⟨w.heap.size, 1, none⟩ = some (.int .i64 c2) := (by refine k_call hb2 ?_; (repeat (first | (with_reducible assumption) | (with_reducible refine k_drew ?_) | (with_reducible refine k_alloc ?_) | (with_reducible refine k_set ?_ ?_ ?_) | omega))); have l2 := hb2.size; (try simp at l2); (try ((with_reducible have hk := ow2_keep hb2 (ow2_new _ 0 0 26)); (try simp only [World.size_alloc] at hk); have g0 := hk.1; have g1 := hk.2.1; have g2 := hk.2.2.1; have g3 := hk.2.2.2; have gl := ow2_lt hk; have gn := Nat.ne_of_lt gl; have gm := Nat.ne_of_gt gl)); (try ((with_reducible have hk := ow2_keep hb2 (ow2_drew (ow2_new _ 0 0 26))); (try simp only [World.size_alloc] at hk); have g0 := hk.1; have g1 := hk.2.1; have g2 := hk.2.2.1; have g3 := hk.2.2.2; have gl := ow2_lt hk; have gn := Nat.ne_of_lt gl; have gm := Nat.ne_of_gt gl)))
        | (go_at_call 9; (with_reducible refine (refSin_of _ _ _ HS).mono ?_); rintro e w2 ⟨rfl, hb2⟩; have hP : Below w1.heap.size w1 w2 ∧ w2.cell? ⟨w.heap.size, 0, none⟩ = some (.int .i64 c1) ∧ w2.cell? ⟨w.heap.size, 1, none⟩ = some (.int .i64 c2) := (by refine k_call hb2 ?_; (repeat (first | (with_reducible assumption) | (with_reducible refine k_drew ?_) | (with_reducible refine k_alloc ?_) | (with_reducible refine k_set ?_ ?_ ?_) | omega))); have l2 := hb2.size; (try simp at l2); (try ((with_reducible have hk := ow2_keep hb2 (ow2_new _ 0 0 26)); (try simp only [World.size_alloc] at hk); have g0 := hk.1; have g1 := hk.2.1; have g2 := hk.2.2.1; have g3 := hk.2.2.2; have gl := ow2_lt hk; have gn := Nat.ne_of_lt gl; have gm := Nat.ne_of_gt gl)); (try ((with_reducible have hk := ow2_keep hb2 (ow2_drew (ow2_new _ 0 0 26))); (try simp only [World.size_alloc] at hk); have g0 := hk.1; have g1 := hk.2.1; have g2 := hk.2.2.1; have g3 := hk.2.2.2; have gl := ow2_lt hk; have gn := Nat.ne_of_lt gl; have gm := Nat.ne_of_gt gl)); (try ((with_reducible have hk := ow2_keep hb2 ((by assumption : ow2 _ w1.heap.size 0 0))); (try simp only [World.size_alloc] at hk); have g0 := hk.1; have g1 := hk.2.1; have g2 := hk.2.2.1; have g3 := hk.2.2.2; have gl := ow2_lt hk; have gn := Nat.ne_of_lt gl; have gm := Nat.ne_of_gt gl)))
        | (go_at_call 22; (with_reducible refine (part_of _ _ _ _ HRC HA).mono ?_); rintro e w2 ⟨rfl, rfl⟩)
        | (go_at_call 22; (with_reducible refine (part_of _ _ _ _ HRS HB).mono ?_); rintro e w2 ⟨rfl, rfl⟩))
    all_goals
      go_split_ands
      go_wp2_with fail
      go_meet
      refine ⟨_, rfl, ?_, ?_, ?_⟩
      · omega
      · (repeat (first | (with_reducible assumption) | (with_reducible exact ow2_new _ _ _ _) | (with_reducible refine ow2_set0 _ _ ?_) | (with_reducible refine ow2_far ?_ ?_) | (with_reducible refine ow2_here _ _ _ ?_; simp; done) | (with_reducible refine ow2_keep (al1 ..) ?_) | omega))
      · (with_reducible assumption)
  case rest =>
    obtain ⟨g, rfl, hg, g1, hB⟩ := hcut
    have z0 : w.heap.size + 1 < w1.heap.size := by have := World.block_lt_of_cell? w1 _ f0.1; simpa using this
    have f2 := ow2_keep hB f0
    have hq2 := below_keep hB hq1
    clear f0 f1 hB hq1 E1 E2 HA HB HC HS HRC HRS
    have g2 := g1
    obtain ⟨p0, p1, p2, p3⟩ := g2
    have z1 : w.heap.size + 1 ≠ g := by omega
    have z2 : g ≠ w.heap.size + 1 := by omega
    go_wp2_with fail
    refine (refValid_at _ _ _ _ HV).mono ?_
    rintro e w3 ⟨rfl, hb3⟩
    have f3 := ow2_keep hb3 f2
    have hq3 := below_keep hb3 hq2
    have g3 := ow2_keep hb3 g1
    clear p0 p1 p2 p3 hb3 hq2 f2 g1
    obtain ⟨p0, p1, p2, p3⟩ := g3
    obtain ⟨k0, k1, k2, k3⟩ := f3
    cases v
    · go_wp2
      exact bodyPost_ret (v := .agg #[.int .i64 0, .int .i64 0]) (by simp [results, Try.results14, go_sem, k0, k1]) rfl ⟨rfl, set2 hq3 (by omega)⟩
    · go_wp2
      exact bodyPost_ret (v := .agg #[.int .i64 x, .int .i64 y]) (by simp [results, Try.results14, go_sem, k0, k1]) rfl ⟨rfl, set2 hq3 (by omega)⟩

theorem refPol_any (c1 c2 r d : Int) (w : World) :
    Calls Try.prog 14 #[.agg #[.int .i64 c1, .int .i64 c2], .int .i64 r, .int .i64 d] w fun e w' => e = .returned (.agg #[.int .i64 (polX c1 c2 r d), .int .i64 (polY c1 c2 r d)]) ∧ Below w.heap.size w w' := by
  have zero : polB c1 c2 r d = false → (vld c1 c2 = false ∨ (vld c1 c2 = true ∧ (r < 0 ∨ 1048576 < r))) → Calls Try.prog 14 #[.agg #[.int .i64 c1, .int .i64 c2], .int .i64 r, .int .i64 d] w fun e w' => e = .returned (.agg #[.int .i64 (polX c1 c2 r d), .int .i64 (polY c1 c2 r d)]) ∧ Below w.heap.size w w' := by
    intro h1 h2
    rw [show polX c1 c2 r d = 0 by unfold polX; rw [h1]; rfl, show polY c1 c2 r d = 0 by unfold polY; rw [h1]; rfl]
    exact refPolno c1 c2 r d w (Lib.hid h2)
  cases hv : vld c1 c2
  · exact zero (by unfold polB; rw [hv]; rfl) (Or.inl hv)
  · by_cases hr : 0 ≤ r ∧ r ≤ 1048576
    · have e : polB c1 c2 r d = vld (c1 + prt r (cosD d)) (c2 + prt r (sinD d)) := by unfold polB; rw [hv]; simp [hr]
      have := refPolyes c1 c2 r d _ _ _ w (Lib.hid hv) hr.1 hr.2 rfl rfl (Lib.hid rfl)
      unfold polX polY
      rw [e]
      exact this
    · exact zero (by unfold polB; rw [hv]; simp; omega) (Or.inr ⟨hv, by omega⟩)

theorem refPol_of (c1 c2 r d x y : Int) (w : World) (hx : Hid (polX c1 c2 r d = x)) (hy : Hid (polY c1 c2 r d = y)) :
    Calls Try.prog 14 #[.agg #[.int .i64 c1, .int .i64 c2], .int .i64 r, .int .i64 d] w fun e w' => e = .returned (.agg #[.int .i64 x, .int .i64 y]) ∧ Below w.heap.size w w' := by
  rw [← hx.out, ← hy.out]; exact refPol_any c1 c2 r d w
end Go.Proofs.Ytfdhnjoiklhiaaa
