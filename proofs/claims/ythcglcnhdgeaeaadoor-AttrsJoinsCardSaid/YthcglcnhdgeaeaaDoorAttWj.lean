/-
  The walk of AttrsJoins over the premise AttOk. No condition.
-/
import Derived.Test.YthcglcnhdgeaeaaDoorMAw
namespace Go.Proofs.YthcglcnhdgeaeaaDoor.att
open Go.RowKit lex tre

theorem asc_at : ∀ {l : List Pr}, Asc l → ∀ j (h : j + 1 < l.length), l[j].1 < l[j + 1].1 := by
  intro l
  induction l with
  | nil => intro _ j h; simp at h
  | cons x t ih =>
    intro ha j h
    cases j with
    | zero => exact ha.1 _ (List.getElem_mem (by simpa using h))
    | succ j => exact ih ha.2 j (by simpa using h)
theorem merge_len (l m : List Pr) : (mergeL l m).length ≤ l.length + m.length := by
  have := sort_len (l ++ m)
  rw [List.length_append] at this
  exact this
theorem merge_bnd {l m : List Pr} (h : Bnd l) (k : Bnd m) : Bnd (mergeL l m) := (h.app k).sort
set_option maxRecDepth 100000 in
set_option maxHeartbeats 4000000 in
theorem wjoi_pa (C : AttOk) (va vb vc : Value) (a b c : List Pr) (w : World) (ha : Hid (Prs w va a)) (hb : Hid (Prs w vb b)) (hc : Hid (Prs w vc c)) (h : 20 < a.length) (hMX : Hid (Mx w)) :
    Calls Tryd.prog 7 #[va, vb, vc] w fun e w' => e = .returned (.bool true) ∧ Below w.heap.size w w' := by
  obtain ⟨ao, ac, rfl, _, _, _⟩ := id ha.out
  obtain ⟨bo, bc, rfl, _, _, _⟩ := id hb.out
  obtain ⟨co, cc, rfl, _, _, _⟩ := id hc.out
  have HB0 := Lib.hid (Below.refl w.heap.size w)
  have pa : decide ((20 : Int) < (a.length : Int)) = true := by simp; omega
  go_enter Tryd.func7, Tryd.ntmps7
  go_wp2_with fail
  refine (awk10 C w (mxh hMX (by first | exact Below.refl _ _ | assumption))).mono ?_
  rintro e wz ⟨rfl, hbz⟩
  have HBz := Lib.hid (below_keep hbz HB0.out)
  clear hbz
  go_wp2
  go_ret
  exact ⟨rfl, HBz.out⟩
set_option maxRecDepth 100000 in
set_option maxHeartbeats 4000000 in
theorem wjoi_pb (C : AttOk) (va vb vc : Value) (a b c : List Pr) (w : World) (ha : Hid (Prs w va a)) (hb : Hid (Prs w vb b)) (hc : Hid (Prs w vc c)) (h1 : a.length ≤ 20) (h : 20 < b.length) (hMX : Hid (Mx w)) :
    Calls Tryd.prog 7 #[va, vb, vc] w fun e w' => e = .returned (.bool true) ∧ Below w.heap.size w w' := by
  obtain ⟨ao, ac, rfl, _, _, _⟩ := id ha.out
  obtain ⟨bo, bc, rfl, _, _, _⟩ := id hb.out
  obtain ⟨co, cc, rfl, _, _, _⟩ := id hc.out
  have HB0 := Lib.hid (Below.refl w.heap.size w)
  have pa : decide ((20 : Int) < (a.length : Int)) = false := by simp; omega
  have pb : decide ((20 : Int) < (b.length : Int)) = true := by simp; omega
  go_enter Tryd.func7, Tryd.ntmps7
  go_wp2_with fail
  refine (awk10 C w (mxh hMX (by first | exact Below.refl _ _ | assumption))).mono ?_
  rintro e wz ⟨rfl, hbz⟩
  have HBz := Lib.hid (below_keep hbz HB0.out)
  clear hbz
  go_wp2
  go_ret
  exact ⟨rfl, HBz.out⟩
set_option maxRecDepth 100000 in
set_option maxHeartbeats 4000000 in
theorem wjoi_pc (C : AttOk) (va vb vc : Value) (a b c : List Pr) (w : World) (ha : Hid (Prs w va a)) (hb : Hid (Prs w vb b)) (hc : Hid (Prs w vc c)) (h1 : a.length ≤ 20) (h2 : b.length ≤ 20) (h : 20 < c.length) (hMX : Hid (Mx w)) :
    Calls Tryd.prog 7 #[va, vb, vc] w fun e w' => e = .returned (.bool true) ∧ Below w.heap.size w w' := by
  obtain ⟨ao, ac, rfl, _, _, _⟩ := id ha.out
  obtain ⟨bo, bc, rfl, _, _, _⟩ := id hb.out
  obtain ⟨co, cc, rfl, _, _, _⟩ := id hc.out
  have HB0 := Lib.hid (Below.refl w.heap.size w)
  have pa : decide ((20 : Int) < (a.length : Int)) = false := by simp; omega
  have pb : decide ((20 : Int) < (b.length : Int)) = false := by simp; omega
  have pc : decide ((20 : Int) < (c.length : Int)) = true := by simp; omega
  go_enter Tryd.func7, Tryd.ntmps7
  go_wp2_with fail
  refine (awk10 C w (mxh hMX (by first | exact Below.refl _ _ | assumption))).mono ?_
  rintro e wz ⟨rfl, hbz⟩
  have HBz := Lib.hid (below_keep hbz HB0.out)
  clear hbz
  go_wp2
  go_ret
  exact ⟨rfl, HBz.out⟩
set_option maxRecDepth 100000 in
set_option maxHeartbeats 4000000 in
theorem wjoi_fa (C : AttOk) (va vb vc : Value) (a b c : List Pr) (w : World) (ha : Hid (Prs w va a)) (hb : Hid (Prs w vb b)) (hc : Hid (Prs w vc c)) (h1 : a.length ≤ 20) (h2 : b.length ≤ 20) (h3 : c.length ≤ 20) (HFa : Hid (fewV a = false)) (hMX : Hid (Mx w)) :
    Calls Tryd.prog 7 #[va, vb, vc] w fun e w' => e = .returned (.bool true) ∧ Below w.heap.size w w' := by
  obtain ⟨ao, ac, rfl, _, _, _⟩ := id ha.out
  obtain ⟨bo, bc, rfl, _, _, _⟩ := id hb.out
  obtain ⟨co, cc, rfl, _, _, _⟩ := id hc.out
  have HB0 := Lib.hid (Below.refl w.heap.size w)
  have Ha0 := ha
  have Hb0 := hb
  have Hc0 := hc
  have pa : decide ((20 : Int) < (a.length : Int)) = false := by simp; omega
  have pb : decide ((20 : Int) < (b.length : Int)) = false := by simp; omega
  have pc : decide ((20 : Int) < (c.length : Int)) = false := by simp; omega
  go_enter Tryd.func7, Tryd.ntmps7
  go_wp2_with fail
  refine (rfew_of _ a false w Ha0 HFa).mono ?_
  rintro e w1 ⟨rfl, hb'⟩
  have HB1 := Lib.hid (below_keep hb' HB0.out)
  clear hb'
  go_wp2_with fail
  refine (awk10 C w1 (mxh hMX (by first | exact Below.refl _ _ | assumption))).mono ?_
  rintro e wz ⟨rfl, hbz⟩
  have HBz := Lib.hid (below_keep hbz HB1.out)
  clear hbz
  go_wp2
  go_ret
  exact ⟨rfl, HBz.out⟩
set_option maxRecDepth 100000 in
set_option maxHeartbeats 4000000 in
theorem wjoi_fb (C : AttOk) (va vb vc : Value) (a b c : List Pr) (w : World) (ha : Hid (Prs w va a)) (hb : Hid (Prs w vb b)) (hc : Hid (Prs w vc c)) (h1 : a.length ≤ 20) (h2 : b.length ≤ 20) (h3 : c.length ≤ 20) (HFa : Hid (fewV a = true)) (HFb : Hid (fewV b = false)) (hMX : Hid (Mx w)) :
    Calls Tryd.prog 7 #[va, vb, vc] w fun e w' => e = .returned (.bool true) ∧ Below w.heap.size w w' := by
  obtain ⟨ao, ac, rfl, _, _, _⟩ := id ha.out
  obtain ⟨bo, bc, rfl, _, _, _⟩ := id hb.out
  obtain ⟨co, cc, rfl, _, _, _⟩ := id hc.out
  have HB0 := Lib.hid (Below.refl w.heap.size w)
  have Ha0 := ha
  have Hb0 := hb
  have Hc0 := hc
  have pa : decide ((20 : Int) < (a.length : Int)) = false := by simp; omega
  have pb : decide ((20 : Int) < (b.length : Int)) = false := by simp; omega
  have pc : decide ((20 : Int) < (c.length : Int)) = false := by simp; omega
  go_enter Tryd.func7, Tryd.ntmps7
  go_wp2_with fail
  refine (rfew_of _ a true w Ha0 HFa).mono ?_
  rintro e w1 ⟨rfl, hb'⟩
  have HB1 := Lib.hid (below_keep hb' HB0.out)
  have Hb1 := Lib.hid (Hb0.out.keep hb')
  clear hb'
  go_wp2_with fail
  refine (rfew_of _ b false w1 Hb1 HFb).mono ?_
  rintro e w2 ⟨rfl, hb'⟩
  have HB2 := Lib.hid (below_keep hb' HB1.out)
  clear hb'
  go_wp2_with fail
  refine (awk10 C w2 (mxh hMX (by first | exact Below.refl _ _ | assumption))).mono ?_
  rintro e wz ⟨rfl, hbz⟩
  have HBz := Lib.hid (below_keep hbz HB2.out)
  clear hbz
  go_wp2
  go_ret
  exact ⟨rfl, HBz.out⟩
set_option maxRecDepth 100000 in
set_option maxHeartbeats 4000000 in
theorem wjoi_fc (C : AttOk) (va vb vc : Value) (a b c : List Pr) (w : World) (ha : Hid (Prs w va a)) (hb : Hid (Prs w vb b)) (hc : Hid (Prs w vc c)) (h1 : a.length ≤ 20) (h2 : b.length ≤ 20) (h3 : c.length ≤ 20) (HFa : Hid (fewV a = true)) (HFb : Hid (fewV b = true)) (HFc : Hid (fewV c = false)) (hMX : Hid (Mx w)) :
    Calls Tryd.prog 7 #[va, vb, vc] w fun e w' => e = .returned (.bool true) ∧ Below w.heap.size w w' := by
  obtain ⟨ao, ac, rfl, _, _, _⟩ := id ha.out
  obtain ⟨bo, bc, rfl, _, _, _⟩ := id hb.out
  obtain ⟨co, cc, rfl, _, _, _⟩ := id hc.out
  have HB0 := Lib.hid (Below.refl w.heap.size w)
  have Ha0 := ha
  have Hb0 := hb
  have Hc0 := hc
  have pa : decide ((20 : Int) < (a.length : Int)) = false := by simp; omega
  have pb : decide ((20 : Int) < (b.length : Int)) = false := by simp; omega
  have pc : decide ((20 : Int) < (c.length : Int)) = false := by simp; omega
  go_enter Tryd.func7, Tryd.ntmps7
  go_wp2_with fail
  refine (rfew_of _ a true w Ha0 HFa).mono ?_
  rintro e w1 ⟨rfl, hb'⟩
  have HB1 := Lib.hid (below_keep hb' HB0.out)
  have Hb1 := Lib.hid (Hb0.out.keep hb')
  have Hc1 := Lib.hid (Hc0.out.keep hb')
  clear hb'
  go_wp2_with fail
  refine (rfew_of _ b true w1 Hb1 HFb).mono ?_
  rintro e w2 ⟨rfl, hb'⟩
  have HB2 := Lib.hid (below_keep hb' HB1.out)
  have Hc2 := Lib.hid (Hc1.out.keep hb')
  clear hb'
  go_wp2_with fail
  refine (rfew_of _ c false w2 Hc2 HFc).mono ?_
  rintro e w3 ⟨rfl, hb'⟩
  have HB3 := Lib.hid (below_keep hb' HB2.out)
  clear hb'
  go_wp2_with fail
  refine (awk10 C w3 (mxh hMX (by first | exact Below.refl _ _ | assumption))).mono ?_
  rintro e wz ⟨rfl, hbz⟩
  have HBz := Lib.hid (below_keep hbz HB3.out)
  clear hbz
  go_wp2
  go_ret
  exact ⟨rfl, HBz.out⟩
set_option maxRecDepth 100000 in
set_option maxHeartbeats 4000000 in
theorem wjoi_all (C : AttOk) (va vb vc : Value) (a b c : List Pr) (w : World) (ha : Hid (Prs w va a)) (hb : Hid (Prs w vb b)) (hc : Hid (Prs w vc c)) (h1 : a.length ≤ 20) (h2 : b.length ≤ 20) (h3 : c.length ≤ 20) (HFa : Hid (fewV a = true)) (HFb : Hid (fewV b = true)) (HFc : Hid (fewV c = true)) (hMX : Hid (Mx w)) :
    Calls Tryd.prog 7 #[va, vb, vc] w fun e w' => e = .returned (.bool true) ∧ Below w.heap.size w w' := by
  obtain ⟨ao, ac, rfl, _, _, _⟩ := id ha.out
  obtain ⟨bo, bc, rfl, _, _, _⟩ := id hb.out
  obtain ⟨co, cc, rfl, _, _, _⟩ := id hc.out
  have HB0 := Lib.hid (Below.refl w.heap.size w)
  have Ha0 := ha
  have Hb0 := hb
  have Hc0 := hc
  have HDa := Lib.hid (prs_bnd ha.out)
  have HDb := Lib.hid (prs_bnd hb.out)
  have HDc := Lib.hid (prs_bnd hc.out)
  have pa : decide ((20 : Int) < (a.length : Int)) = false := by simp; omega
  have pb : decide ((20 : Int) < (b.length : Int)) = false := by simp; omega
  have pc : decide ((20 : Int) < (c.length : Int)) = false := by simp; omega
  go_enter Tryd.func7, Tryd.ntmps7
  go_wp2_with fail
  refine (rfew_of _ a true w Ha0 HFa).mono ?_
  rintro e w1 ⟨rfl, hb'⟩
  have HB1 := Lib.hid (below_keep hb' HB0.out)
  have Ha1 := Lib.hid (Ha0.out.keep hb')
  have Hb1 := Lib.hid (Hb0.out.keep hb')
  have Hc1 := Lib.hid (Hc0.out.keep hb')
  clear hb'
  go_wp2_with fail
  refine (rfew_of _ b true w1 Hb1 HFb).mono ?_
  rintro e w2 ⟨rfl, hb'⟩
  have HB2 := Lib.hid (below_keep hb' HB1.out)
  have Ha2 := Lib.hid (Ha1.out.keep hb')
  have Hb2 := Lib.hid (Hb1.out.keep hb')
  have Hc2 := Lib.hid (Hc1.out.keep hb')
  clear hb'
  go_wp2_with fail
  refine (rfew_of _ c true w2 Hc2 HFc).mono ?_
  rintro e w3 ⟨rfl, hb'⟩
  have HB3 := Lib.hid (below_keep hb' HB2.out)
  have Ha3 := Lib.hid (Ha2.out.keep hb')
  have Hb3 := Lib.hid (Hb2.out.keep hb')
  have Hc3 := Lib.hid (Hc2.out.keep hb')
  clear hb'
  clear Ha0 Hb0 Hc0 Ha1 Hb1 Hc1 Ha2 Hb2 Hc2 HB0 HB1 HB2 ha hb hc
  go_wp2_with fail
  refine (C.merge _ _ a b w3 Ha3 Hb3 (by omega) (by omega) HDa HDb).mono ?_
  rintro e w4 ⟨v4, rfl, hp4, hb4⟩
  obtain ⟨mo, mc, rfl, hmc, hmm, _⟩ := id hp4
  have HB4 := Lib.hid (below_keep hb4 HB3.out)
  have Ha4 := Lib.hid (Ha3.out.keep hb4)
  have Hb4 := Lib.hid (Hb3.out.keep hb4)
  have Hc4 := Lib.hid (Hc3.out.keep hb4)
  have Hm4 := Lib.hid hp4
  have hml : (mergeL a b).length ≤ 40 := Nat.le_trans (merge_len a b) (by omega)
  have HAs := Lib.hid (merge_asc a b)
  have HMg := Lib.hid (merge_get a b)
  have HDm := Lib.hid (merge_bnd HDa.out HDb.out)
  have HMa := Lib.hid (merge_assoc a b c)
  obtain ⟨m, hm⟩ : ∃ m, mergeL a b = m := ⟨_, rfl⟩
  rw [hm] at Hm4 hml HAs HMg HDm HMa ⊢
  clear hb4 hp4 Ha3 Hb3 Hc3 HB3 hm hmc hmm
  go_wp2_with fail
  go_loopw [8] (fun iv wr => ∃ j : Nat, iv = .int .i64 ((j : Int) + 1) ∧ (j = 0 ∨ j + 1 ≤ m.length) ∧ Below w4.heap.size w4 wr) (fun iv _ => m.length + 1 - (intOf iv).toNat)
  case atStart => exact ⟨0, by simp, Or.inl rfl, Below.refl _ _⟩
  case round =>
    obtain ⟨j, rfl, hj, hbl⟩ := hrel
    rename World => wr
    have HBl := Lib.hid hbl
    clear hbl
    by_cases hlt : j + 1 < m.length
    · obtain ⟨A, e1, q0, -, -, -⟩ := (Hm4.out.keep HBl.out).get (show j < m.length by omega)
      cases e1
      obtain ⟨A', e2, r0, -, -, -⟩ := (Hm4.out.keep HBl.out).get hlt
      cases e2
      have hasc := asc_at HAs.out j hlt
      obtain ⟨x, hx⟩ : ∃ x, (m[j]'(by omega)).1 = x := ⟨_, rfl⟩
      obtain ⟨y, hy⟩ : ∃ y, m[j + 1].1 = y := ⟨_, rfl⟩
      rw [hx] at q0 hasc
      rw [hy] at r0 hasc
      have bl : Op.bytesLess x y = true := by rw [less_eq]; exact decide_eq_true hasc
      have i0 : (0 : Int) ≤ (j : Int) := by omega
      have i1 : (j : Int) < (m.length : Int) := by omega
      have i2 : (0 : Int) ≤ (j : Int) + 1 := by omega
      have i3 : (j : Int) + 1 < (m.length : Int) := by omega
      have i4 : (j : Int) + 1 - 1 = (j : Int) := by omega
      have i5 : IntKind.i64.wrap ((j : Int) + 1 - 1) = (j : Int) := by rw [i4]; exact IntWalk.i64_in _ (by omega)
      have i6 : ((j : Int) + 1).toNat = j + 1 := by omega
      clear hx hy hasc
      go_wp2_with fail
      go_quiet (fail)
      have HB5 := Lib.hid (below_keep (drew_n wr nq) HBl.out)
      generalize wr.drewN nq = w5 at HB5 ⊢
      go_wp2
      go_roundw
      case rel => exact ⟨j + 1, by go_num, Or.inr (by omega), HB5.out⟩
      case measure => simp [intOf]; omega
    · have bl : decide ((j : Int) + 1 < (m.length : Int)) = false := by simp; omega
      have Ha5 := Lib.hid (Ha4.out.keep HBl.out)
      have Hb5 := Lib.hid (Hb4.out.keep HBl.out)
      have Hc5 := Lib.hid (Hc4.out.keep HBl.out)
      have Hm5 := Lib.hid (Hm4.out.keep HBl.out)
      have HB5 := Lib.hid (below_keep HBl.out HB4.out)
      clear Ha4 Hb4 Hc4 Hm4 HB4 HBl hj hlt
      go_wp2_with fail
      go_loopw [9] (fun iv w6 => ∃ i : Nat, iv = .int .i64 i ∧ i ≤ a.length ∧ Below wr.heap.size wr w6) (fun iv _ => a.length - (intOf iv).toNat)
      case atStart => exact ⟨0, rfl, Nat.zero_le _, Below.refl _ _⟩
      case round =>
        obtain ⟨i, rfl, hi, hbl⟩ := hrel
        rename World => w6
        have HBl := Lib.hid hbl
        clear hbl
        by_cases hlt : i < a.length
        · have Ha6 := Lib.hid (Ha5.out.keep HBl.out)
          have Hb6 := Lib.hid (Hb5.out.keep HBl.out)
          have Hm6 := Lib.hid (Hm5.out.keep HBl.out)
          obtain ⟨A, e1, q0, -, -, -⟩ := Ha6.out.get hlt
          cases e1
          obtain ⟨x, hx⟩ : ∃ x, a[i].1 = x := ⟨_, rfl⟩
          have HXa : Hid (a[i].1 = x) := Lib.hid hx
          rw [hx] at q0
          have hin : (getL a x).2 = true := getL_mem.2 ⟨a[i], List.getElem_mem hlt, hx⟩
          obtain ⟨ga, ra, hga⟩ : ∃ g r, getL a x = (g, r) := ⟨_, _, rfl⟩
          rw [hga] at hin
          simp only at hin
          subst hin
          obtain ⟨gb, rb, hgb⟩ : ∃ g r, getL b x = (g, r) := ⟨_, _, rfl⟩
          have hgm := HMg.out x
          rw [hga, hgb] at hgm
          simp only at hgm
          have HGa : Hid (getL a (bb x).data.toList = (ga, true)) := Lib.hid hga
          have HGb : Hid (getL b (bb x).data.toList = (gb, rb)) := Lib.hid hgb
          have i0 : (0 : Int) ≤ (i : Int) := by omega
          have i1 : (i : Int) < (a.length : Int) := by omega
          clear hx hga hgb
          cases rb
          · rw [if_neg (by decide)] at hgm
            have HGm : Hid (getL m (bb x).data.toList = (ga, true)) := Lib.hid hgm
            clear hgm
            go_wp2_with fail
            refine (C.get _ m (bb x) ga true w6 Hm6 (by omega) HGm).mono ?_
            rintro e w7 ⟨rfl, hb7⟩
            have HB7 := Lib.hid (below_keep hb7 HBl.out)
            have Ha7 := Lib.hid (Ha6.out.keep hb7)
            have Hb7 := Lib.hid (Hb6.out.keep hb7)
            clear hb7 q0
            obtain ⟨A', e1, q0, -, -, -⟩ := Ha7.out.get hlt
            cases e1
            rw [HXa.out] at q0
            go_wp2_with fail
            refine (C.get _ b (bb x) gb false w7 Hb7 (by omega) HGb).mono ?_
            rintro e w8 ⟨rfl, hb8⟩
            have HB8 := Lib.hid (below_keep hb8 HB7.out)
            have Ha8 := Lib.hid (Ha7.out.keep hb8)
            clear hb8 q0
            obtain ⟨A', e1, q0, -, -, -⟩ := Ha8.out.get hlt
            cases e1
            rw [HXa.out] at q0
            go_wp2_with fail
            refine (C.get _ a (bb x) ga true w8 Ha8 (by omega) HGa).mono ?_
            rintro e w9 ⟨rfl, hb9⟩
            have HB9 := Lib.hid (below_keep hb9 HB8.out)
            clear hb9 q0
            go_wp2
            go_roundw
            case rel => exact ⟨i + 1, by go_num, by omega, HB9.out⟩
            case measure => simp [intOf]; omega
          · rw [if_pos rfl] at hgm
            have HGm : Hid (getL m (bb x).data.toList = (gb, true)) := Lib.hid hgm
            clear hgm
            go_wp2_with fail
            refine (C.get _ m (bb x) gb true w6 Hm6 (by omega) HGm).mono ?_
            rintro e w7 ⟨rfl, hb7⟩
            have HB7 := Lib.hid (below_keep hb7 HBl.out)
            have Ha7 := Lib.hid (Ha6.out.keep hb7)
            have Hb7 := Lib.hid (Hb6.out.keep hb7)
            clear hb7 q0
            obtain ⟨A', e1, q0, -, -, -⟩ := Ha7.out.get hlt
            cases e1
            rw [HXa.out] at q0
            go_wp2_with fail
            refine (C.get _ b (bb x) gb true w7 Hb7 (by omega) HGb).mono ?_
            rintro e w8 ⟨rfl, hb8⟩
            have HB8 := Lib.hid (below_keep hb8 HB7.out)
            clear hb8 q0
            go_wp2
            go_roundw
            case rel => exact ⟨i + 1, by go_num, by omega, HB8.out⟩
            case measure => simp [intOf]; omega
        · have Ha6 := Lib.hid (Ha5.out.keep HBl.out)
          have Hb6 := Lib.hid (Hb5.out.keep HBl.out)
          have Hc6 := Lib.hid (Hc5.out.keep HBl.out)
          have Hm6 := Lib.hid (Hm5.out.keep HBl.out)
          have HB6 := Lib.hid (below_keep HBl.out HB5.out)
          obtain rfl : i = a.length := by omega
          clear Ha5 Hb5 Hc5 Hm5 HB5 HBl
          go_wp2_with fail
          refine (C.merge _ _ m c w6 Hm6 Hc6 (by omega) (by omega) HDm HDc).mono ?_
          rintro e w7 ⟨v7, rfl, hp7, hb7⟩
          have HB7 := Lib.hid (below_keep hb7 HB6.out)
          have Ha7 := Lib.hid (Ha6.out.keep hb7)
          have Hb7 := Lib.hid (Hb6.out.keep hb7)
          have Hc7 := Lib.hid (Hc6.out.keep hb7)
          have HP7 := Lib.hid hp7
          clear hb7 hp7 Ha6 Hb6 Hc6 Hm6
          go_wp2_with fail
          refine (C.merge _ _ b c w7 Hb7 Hc7 (by omega) (by omega) HDb HDc).mono ?_
          rintro e w8 ⟨v8, rfl, hp8, hb8⟩
          have HB8 := Lib.hid (below_keep hb8 HB7.out)
          have Ha8 := Lib.hid (Ha7.out.keep hb8)
          have HP8 := Lib.hid (HP7.out.keep hb8)
          have HQ8 := Lib.hid hp8
          have hbcl : (mergeL b c).length ≤ 60 := Nat.le_trans (merge_len b c) (by omega)
          clear hb8 hp8 Ha7 Hb7 Hc7 HP7
          go_wp2_with fail
          refine (C.merge _ _ a (mergeL b c) w8 Ha8 HQ8 (by omega) hbcl HDa (Lib.hid (merge_bnd HDb.out HDc.out))).mono ?_
          rintro e w9 ⟨v9, rfl, hp9, hb9⟩
          rw [← HMa.out] at hp9
          have HB9 := Lib.hid (below_keep hb9 HB8.out)
          have Ha9 := Lib.hid (Ha8.out.keep hb9)
          have HP9 := Lib.hid (HP8.out.keep hb9)
          have HQ9 := Lib.hid hp9
          clear hb9 hp9 Ha8 HP8 HQ8
          go_wp2_with fail
          refine (lsame_of _ _ (mergeL m c) w9 HP9 HQ9).mono ?_
          rintro e x0 ⟨rfl, hc0⟩
          have HC0 := Lib.hid (below_keep hc0 HB9.out)
          have Hx0 := Lib.hid (Ha9.out.keep hc0)
          clear hc0 HP9 HQ9 Ha9
          go_wp2_with fail
          refine (C.merge _ _ a [] x0 Hx0 (Lib.hid (Prs.nil x0)) (by omega) (by decide) HDa (Lib.hid fun r hr => nomatch hr)).mono ?_
          rintro e x1 ⟨u1, rfl, hp1, hc1⟩
          rw [merge_self] at hp1
          have HC1 := Lib.hid (below_keep hc1 HC0.out)
          have Hx1 := Lib.hid (Hx0.out.keep hc1)
          have HR1 := Lib.hid hp1
          clear hc1 hp1 Hx0
          go_wp2_with fail
          refine (C.merge _ _ a a x1 Hx1 Hx1 (by omega) (by omega) HDa HDa).mono ?_
          rintro e x2 ⟨u2, rfl, hp2, hc2⟩
          have HC2 := Lib.hid (below_keep hc2 HC1.out)
          have HR2 := Lib.hid (HR1.out.keep hc2)
          have HS2 := Lib.hid hp2
          clear hc2 hp2 Hx1
          go_wp2_with fail
          refine (lsame_of _ _ (mergeL a a) x2 HR2 HS2).mono ?_
          rintro e x3 ⟨rfl, hc3⟩
          have HC3 := Lib.hid (below_keep hc3 HC2.out)
          clear hc3
          go_wp2_with fail
          refine (awk10 C x3 (mxh hMX (by first | exact Below.refl _ _ | assumption))).mono ?_
          rintro e x4 ⟨rfl, hc4⟩
          have HC4 := Lib.hid (below_keep hc4 HC3.out)
          clear hc4
          go_wp2
          go_ret
          exact ⟨ret_bool (by simp), HC4.out⟩
theorem wjoi (C : AttOk) (va vb vc : Value) (a b c : List Pr) (w : World) (ha : Hid (Prs w va a)) (hb : Hid (Prs w vb b)) (hc : Hid (Prs w vc c)) (hMX : Hid (Mx w)) :
    Calls Tryd.prog 7 #[va, vb, vc] w fun e w' => e = .returned (.bool true) ∧ Below w.heap.size w w' := by
  by_cases h1 : 20 < a.length
  · exact wjoi_pa C va vb vc a b c w ha hb hc h1 hMX
  by_cases h2 : 20 < b.length
  · exact wjoi_pb C va vb vc a b c w ha hb hc (by omega) h2 hMX
  by_cases h3 : 20 < c.length
  · exact wjoi_pc C va vb vc a b c w ha hb hc (by omega) (by omega) h3 hMX
  cases fa : fewV a
  · exact wjoi_fa C va vb vc a b c w ha hb hc (by omega) (by omega) (by omega) (Lib.hid fa) hMX
  cases fb : fewV b
  · exact wjoi_fb C va vb vc a b c w ha hb hc (by omega) (by omega) (by omega) (Lib.hid fa) (Lib.hid fb) hMX
  cases fc : fewV c
  · exact wjoi_fc C va vb vc a b c w ha hb hc (by omega) (by omega) (by omega) (Lib.hid fa) (Lib.hid fb) (Lib.hid fc) hMX
  exact wjoi_all C va vb vc a b c w ha hb hc (by omega) (by omega) (by omega) (Lib.hid fa) (Lib.hid fb) (Lib.hid fc) hMX
end Go.Proofs.YthcglcnhdgeaeaaDoor.att
