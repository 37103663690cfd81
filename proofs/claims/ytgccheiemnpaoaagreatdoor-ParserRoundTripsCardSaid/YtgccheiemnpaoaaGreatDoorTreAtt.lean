/-
  What attributes of the reference of layer 7 returns. Condition: the lists lie in memory.
-/
import Derived.Test.YtgccheiemnpaoaaGreatDoorTreFld
import Derived.Deep.QuietTactic
namespace Go.Proofs.YtgccheiemnpaoaaGreatDoor.tre
open Go.RowKit lex

/-- The cells of the k-th pair of a slice. -/
theorem Prs.get {w : World} {ao : Option Addr} {n cap : Nat} {l : List Pr} (h : Prs w (.slice ao n cap) l) {k : Nat} (hk : k < l.length) : ∃ A, ao = some A ∧ prAt w A k l[k] := by
  obtain ⟨ao', cap', e, _, _, hA⟩ := h
  cases e
  obtain ⟨A, rfl, h2⟩ := hA (by omega)
  exact ⟨A, rfl, h2 k hk⟩
theorem below_drewT (w : World) : ∀ n, Below w.heap.size w (w.drewN n)
  | 0 => Below.refl _ _
  | n + 1 => (below_drewT w n).drew
theorem attL_nil (k : Int) (d : List Pr) : attL k d [] = 0 := by rw [attL]
theorem attL_cons (k : Int) (d : List Pr) (a : Pr) (t : List Pr) : attL k d (a :: t) = if k ≠ 4 ∧ isNm a.1 = false then 5 else if d.any (fun x => decide (x.1 = a.1)) = true then 6 else if 32 < a.2.length then 2 else if a.2.all isPl = false then 7 else attL k (d ++ [a]) t := by rw [attL]
theorem drop_pr {l : List Pr} {k : Nat} (h : k < l.length) : l.drop k = l[k] :: l.drop (k + 1) := List.drop_eq_getElem_cons h
theorem take_pr {l : List Pr} {k : Nat} (h : k < l.length) : l.take (k + 1) = l.take k ++ [l[k]] := by rw [List.take_add_one, List.getElem?_eq_getElem h]; rfl
theorem at2_str (w : World) (x y : ByteArray) (t : TypeId) : (w.alloc (.cells #[.string x, .string y] t)).cell? ⟨w.heap.size, 0, none⟩ = some (.string x) ∧ (w.alloc (.cells #[.string x, .string y] t)).cell? ⟨w.heap.size, 1, none⟩ = some (.string y) := by
  constructor <;> go_simp
set_option maxRecDepth 100000 in
set_option maxHeartbeats 8000000 in
theorem ratt_of (s : St) (rv av bv : Value) (R : Int) (w : World) (h : Hid (fvOk w ⟨s, 0, rv, av, bv⟩)) (hR : Hid (attE s = R)) :
    Calls Tryz.prog 30 #[stV s rv av bv] w fun e w' => e = .returned (.int .i64 R) ∧ Below w.heap.size w w' := by
  have hav := h.out.2.2.1
  clear h
  have hr := hR.out
  unfold attE at hr
  simp only at hav
  obtain ⟨k0, hk0⟩ : ∃ q, s.kind = q := ⟨_, rfl⟩
  obtain ⟨a, ha⟩ : ∃ q, s.attrs = q := ⟨_, rfl⟩
  obtain ⟨X, hX⟩ : ∃ X, bb s.name = X := ⟨_, rfl⟩
  show Calls Tryz.prog 30 #[.agg #[.int .i64 s.kind, .string (bb s.name), rv, av, bv]] w _
  rw [hk0, ha] at hr
  rw [ha] at hav
  rw [hk0, hX]
  obtain ⟨so, sc, rfl, _, _, _⟩ := id hav
  have HAV := Lib.hid hav
  have hB := al1 w (.cells #[.int .i64 k0, .string X, rv, .slice so a.length sc, bv] 44)
  have h5 := at5_new w k0 X rv (.slice so a.length sc) bv 44
  clear hR hk0 ha hX hav s
  by_cases h16 : 16 < a.length
  · rw [if_pos h16] at hr
    subst hr
    have l1 : (16 : Int) < (a.length : Int) := by omega
    clear h16 HAV h5
    go_enter Tryz.func30, Tryz.ntmps30
    go_wp2
    go_ret
    exact ⟨rfl, hB⟩
  rw [if_neg h16] at hr
  have HR := Lib.hid hr
  have l1 : ¬ (16 : Int) < (a.length : Int) := by omega
  have hal : a.length ≤ 16 := by omega
  clear h16 hr
  go_enter Tryz.func30, Tryz.ntmps30
  go_wp2_with fail
  generalize w.alloc (.cells #[.int .i64 k0, .string X, rv, .slice so a.length sc, bv] 44) = w1 at hB h5 ⊢
  have hav1 := HAV.out.keep hB
  have HA1 := Lib.hid hav1
  clear HAV hav1
  go_loopw [3] (fun iv wr => ∃ k : Nat, k ≤ a.length ∧ iv = .int .i64 k ∧ attL k0 (a.take k) (a.drop k) = R ∧ Below w1.heap.size w1 wr) (fun iv _ => a.length - (intOf iv).toNat)
  case atStart => exact ⟨0, Nat.zero_le _, rfl, HR.out, Below.refl _ _⟩
  case round =>
    obtain ⟨k, hk, rfl, hx, hBr⟩ := hrel
    rename World => wr
    have HX := Lib.hid hx
    obtain ⟨c0, c1, c2, c3, c4⟩ := at5_keep h5 hBr
    clear hx HR
    by_cases hlt : k < a.length
    · obtain ⟨A, rfl, p0, p1, z2, z3⟩ := (HA1.out.keep hBr).get hlt
      have hcons := HX.out
      rw [drop_pr hlt, attL_cons] at hcons
      obtain ⟨x, hxe⟩ : ∃ x, a[k] = x := ⟨_, rfl⟩
      rw [hxe] at p0 p1 z2 z3 hcons
      obtain ⟨X1, hX1⟩ : ∃ Y, bb x.1 = Y := ⟨_, rfl⟩
      obtain ⟨X2, hX2⟩ : ∃ Y, bb x.2 = Y := ⟨_, rfl⟩
      have d1 : X1.data.toList = x.1 := by rw [← hX1]
      have d2 : X2.data.toList = x.2 := by rw [← hX2]
      have s1 : X1.size ≤ maxLen := by rw [← b_size, d1]; exact z2
      have s2 : X2.size = x.2.length := by rw [← b_size, d2]
      rw [hX1] at p0
      rw [hX2] at p1
      have hBq := below_keep (al1 wr (.cells #[.string X1, .string X2] 63)) hBr
      obtain ⟨v0, v1⟩ := at2_str wr X1 X2 63
      obtain ⟨q0, q1, q2, q3, q4⟩ := at5_keep h5 hBq
      obtain ⟨nm, hnm⟩ : ∃ b, isNm x.1 = b := ⟨_, rfl⟩
      have HNM : Hid (isNm X1.data.toList = nm) := Lib.hid (by rw [d1]; exact hnm)
      have HS1 := Lib.hid s1
      rw [hnm] at hcons
      have i0 : (0 : Int) ≤ (k : Int) := by omega
      have i1 : (k : Int) < (a.length : Int) := by omega
      have HD1 := Lib.hid d1
      have HD2 := Lib.hid d2
      have HXE := Lib.hid hxe
      clear HX hX1 hX2 hnm d1 d2 z2 z3 s1 hxe
      have hk4 : (k0 != 4) = decide (k0 ≠ 4) := by rw [Bool.eq_iff_iff]; simp
      by_cases g1 : k0 ≠ 4 ∧ nm = false
      · obtain ⟨g1a, rfl⟩ := g1
        rw [if_pos ⟨g1a, rfl⟩] at hcons
        subst hcons
        rw [decide_eq_true g1a] at hk4
        clear g1a
        go_wp2_with (go_at_call 16; refine (rnm_of _ _ _ HS1.out HNM).mono ?_; rintro e w' ⟨rfl, rfl⟩)
        go_ret
        exact ⟨rfl, below_keep hBq hB⟩
      · have hcons2 : (if (a.take k).any (fun y => decide (y.1 = x.1)) = true then 6 else if 32 < x.2.length then 2 else if x.2.all isPl = false then 7 else attL k0 (a.take k ++ [x]) (a.drop (k + 1))) = R := by rw [if_neg g1] at hcons; exact hcons
        have HC := Lib.hid hcons2
        have hg : (k0 != 4) = true → nm = true := fun e => by
          cases nm
          · exact absurd ⟨by simpa using e, rfl⟩ g1
          · rfl
        have hway : (k0 != 4) = false ∨ ((k0 != 4) = true ∧ nm = true) := by
          cases e : (k0 != 4)
          · exact Or.inl rfl
          · exact Or.inr ⟨rfl, hg e⟩
        have HP0 := Lib.hid (HA1.out.keep hBq)
        clear hcons hcons2 hg g1 hk4
        rcases hway with hk4 | ⟨hk4, rfl⟩
        all_goals
          go_wp2_with (go_at_call 16; refine (rnm_of _ _ _ HS1.out HNM).mono ?_; rintro e w' ⟨rfl, rfl⟩)
          generalize wr.alloc (.cells #[.string X1, .string X2] 63) = wq at hBq v0 v1 q0 q1 q2 q3 q4 HP0 ⊢
          clear p0 p1 c0 c1 c2 c3 c4
          go_loopw [5] (fun jv wz => ∃ j : Nat, j ≤ k ∧ jv = .int .i64 j ∧ (a.take j).any (fun y => decide (y.1 = x.1)) = false ∧ Below wq.heap.size wq wz) (fun jv _ => k - (intOf jv).toNat)
          case atStart => exact ⟨0, Nat.zero_le _, rfl, rfl, Below.refl _ _⟩
          case round =>
            obtain ⟨j, hj, rfl, hany, hBz⟩ := hrel
            rename World => wz
            have HANY := Lib.hid hany
            clear hany
            have c0 := cell_keep hBz q0
            have c2 := cell_keep hBz q2
            have c3 := cell_keep hBz q3
            have u0 := cell_keep hBz v0
            have u1 := cell_keep hBz v1
            by_cases hjk : j < k
            · obtain ⟨A', eA, p0, _, _, _⟩ := (HP0.out.keep hBz).get (show j < a.length by omega)
              obtain rfl : A = A' := Option.some.inj eA
              obtain ⟨Y, hY⟩ : ∃ Y, bb (a[j]'(by omega)).1 = Y := ⟨_, rfl⟩
              obtain ⟨dp, hdp⟩ : ∃ b, decide ((a[j]'(by omega)).1 = x.1) = b := ⟨_, rfl⟩
              have he : (Y.toList == X1.toList) = dp := by
                rw [ByteArray.toList_eq, ByteArray.toList_eq, HD1.out, ← hY, ← hdp, Bool.eq_iff_iff]; simp
              rw [hY] at p0
              have HDP := Lib.hid hdp
              have j0 : (0 : Int) ≤ (j : Int) := by omega
              have j1 : (j : Int) < (a.length : Int) := by omega
              have j2 : (j : Int) < (k : Int) := by omega
              clear hY hdp
              cases dp
              · have HN : Hid ((a.take (j + 1)).any (fun y => decide (y.1 = x.1)) = false) := Lib.hid (by rw [take_pr (show j < a.length by omega), List.any_append, HANY.out]; simp [HDP.out])
                go_wp2_with fail
                go_quiet (fail)
                have hB2 := below_keep (below_drewT wz nq) hBz
                generalize wz.drewN nq = wn at hB2 ⊢
                go_wp2
                go_roundw
                case rel => exact ⟨j + 1, by omega, by go_num, HN.out, hB2⟩
                case measure => simp [intOf]; omega
              · have HN : Hid (R = 6) := Lib.hid (by
                  have h6 : (a.take k).any (fun y => decide (y.1 = x.1)) = true := by
                    rw [List.any_eq_true]
                    exact ⟨a[j]'(by omega), List.mem_take_iff_getElem.2 ⟨j, by omega, rfl⟩, HDP.out⟩
                  have := HC.out; rw [if_pos h6] at this; exact this.symm)
                obtain rfl := HN.out
                go_wp2_with fail
                go_quiet (fail)
                have hB2 := below_keep (below_drewT wz nq) hBz
                generalize wz.drewN nq = wn at hB2 ⊢
                go_wp2
                go_ret
                exact ⟨rfl, below_keep hB2 (below_keep hBq hB)⟩
            · obtain rfl : j = k := by omega
              have HC2 : Hid ((if 32 < x.2.length then 2 else if x.2.all isPl = false then 7 else attL k0 (a.take j ++ [x]) (a.drop (j + 1))) = R) := Lib.hid (by
                have := HC.out; rw [if_neg (by rw [HANY.out]; simp)] at this; exact this)
              have hBz2 := below_keep hBz hBq
              have hz2 : (X2.size : Int) = (x.2.length : Int) := by omega
              have HPL : Hid (X2.data.toList = x.2) := HD2
              clear HC HANY
              by_cases h32 : 32 < X2.size
              · have HN : Hid (R = 2) := Lib.hid (by have := HC2.out; rw [if_pos (by omega)] at this; exact this.symm)
                obtain rfl := HN.out
                have l32 : (32 : Int) < (X2.size : Int) := by omega
                clear h32 hz2 s2
                go_wp2
                go_ret
                exact ⟨rfl, below_keep hBz2 hB⟩
              · have HC3 : Hid ((if x.2.all isPl = false then 7 else attL k0 (a.take j ++ [x]) (a.drop (j + 1))) = R) := Lib.hid (by
                  have := HC2.out; rw [if_neg (by omega)] at this; exact this)
                have l32 : ¬ (32 : Int) < (X2.size : Int) := by omega
                clear h32 hz2 s2 HC2
                go_wp2_with fail
                go_loopw [6] (fun mv wy => ∃ m : Nat, m ≤ X2.size ∧ mv = .int .i64 m ∧ (X2.data.toList.take m).all isPl = true ∧ wz = wy) (fun mv _ => X2.size - (intOf mv).toNat)
                case atStart => exact ⟨0, Nat.zero_le _, rfl, rfl, rfl⟩
                case round =>
                  obtain ⟨m, hm, rfl, hpl, rfl⟩ := hrel
                  have HW := Lib.hid hpl
                  clear hpl
                  by_cases hlm : m < X2.size
                  · have HD := Lib.hid (b_dig X2 m hlm)
                    by_cases p1 : (X2[m].toNat : Int) < 32
                    · have HN : Hid (R = 7) := Lib.hid (by
                        have hb : x.2.all isPl = false := by
                          rw [← HPL.out, List.all_eq_false]
                          exact ⟨X2[m], List.mem_of_getElem? HD.out, by unfold isPl; simp; omega⟩
                        have := HC3.out; rw [if_pos hb] at this; exact this.symm)
                      obtain rfl := HN.out
                      go_wp2
                      go_ret
                      exact ⟨rfl, below_keep hBz2 hB⟩
                    · by_cases p2 : 126 < (X2[m].toNat : Int)
                      · have HN : Hid (R = 7) := Lib.hid (by
                          have hb : x.2.all isPl = false := by
                            rw [← HPL.out, List.all_eq_false]
                            exact ⟨X2[m], List.mem_of_getElem? HD.out, by unfold isPl; simp; omega⟩
                          have := HC3.out; rw [if_pos hb] at this; exact this.symm)
                        obtain rfl := HN.out
                        go_wp2
                        go_ret
                        exact ⟨rfl, below_keep hBz2 hB⟩
                      · have HN : Hid ((X2.data.toList.take (m + 1)).all isPl = true) := Lib.hid (by
                          rw [List.take_add_one, HD.out, List.all_append, HW.out]; unfold isPl; simp; omega)
                        go_wp2
                        go_roundw
                        case rel => exact ⟨m + 1, by omega, by go_num, HN.out, by trivial⟩
                        case measure => simp [intOf]; omega
                  · obtain rfl : m = X2.size := by omega
                    have HN : Hid (attL k0 (a.take (j + 1)) (a.drop (j + 1)) = R) := Lib.hid (by
                      have hb : x.2.all isPl = true := by
                        have := HW.out; rw [← b_size, List.take_length, HPL.out] at this; exact this
                      have := HC3.out; rw [if_neg (by rw [hb]; simp), ← HXE.out, ← take_pr hlt] at this; exact this)
                    go_wp2
                    go_roundw
                    case rel => exact ⟨j + 1, by omega, by go_num, HN.out, hBz2⟩
                    case measure => simp [intOf]; omega
    · obtain rfl : k = a.length := by omega
      have HN : Hid (R = 0) := Lib.hid (by have := HX.out; rw [List.drop_length, attL_nil] at this; exact this.symm)
      obtain rfl := HN.out
      go_wp2
      go_ret
      exact ⟨rfl, below_keep hBr hB⟩
end Go.Proofs.YtgccheiemnpaoaaGreatDoor.tre
