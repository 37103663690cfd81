/-
  What ports of the reference of layer 11 returns. Condition: a list of ports in memory.
-/
import Derived.Test.YtjeacpohanadnaaGraRef1
import Derived.Lib.QuietBelow
namespace Go.Proofs.Ytjeacpohanadnaa.gra
open Go.RowKit lex

theorem drew_n (w : World) : ∀ n, Below w.heap.size w (w.drewN n)
  | 0 => Below.refl _ _
  | n + 1 => (drew_n w n).drew
set_option maxRecDepth 100000 in
set_option maxHeartbeats 8000000 in
theorem gports_of (v : Value) (l : List Pt) (R : Int) (w : World) (h : Hid (Pts w v l)) (hr : Hid (firstE portE [] l = R)) :
    Calls Try.prog 59 #[v] w fun e w' => e = .returned (.int .i64 R) ∧ Below w.heap.size w w' := by
  obtain ⟨ao, cap, rfl, hc, hm, _⟩ := id h.out
  unfold maxLen at hm
  have hlm : l.length ≤ 9223372036854775807 := by omega
  clear hc hm
  have HR : Hid (firstE portE (l.take 0) (l.drop 0) = R) := hr
  clear hr
  go_enter Try.func59, Try.ntmps59
  go_wp2_with fail
  go_loopw [3] (fun iv wr => ∃ i : Nat, iv = .int .i64 i ∧ i ≤ l.length ∧ firstE portE (l.take i) (l.drop i) = R ∧ Below w.heap.size w wr) (fun iv _ => l.length - (intOf iv).toNat)
  case atStart => exact ⟨0, rfl, Nat.zero_le _, HR.out, Below.refl _ _⟩
  case round =>
    obtain ⟨i, rfl, hi, hfe, hB⟩ := hrel
    rename World => wr
    clear HR
    by_cases hlt : i < l.length
    · rw [firstE_at hlt] at hfe
      have hq := (h.out.keep hB).get hlt
      obtain ⟨A, rfl, q0, q1, q2, -⟩ := hq
      obtain ⟨Y, hY⟩ : ∃ Y, bb l[i].1 = Y := ⟨_, rfl⟩
      rw [hY] at q0
      have hY2 : Y.data.toList = l[i].1 := by rw [← hY]
      have hYs : Y.size ≤ maxLen := by rw [← size_list, hY2]; exact q2
      have i0 : (0 : Int) ≤ (i : Int) := by omega
      have i1 : (i : Int) < (l.length : Int) := by omega
      obtain ⟨nm, hnm⟩ : ∃ b, isNm l[i].1 = b := ⟨_, rfl⟩
      have HNM : Hid (isNm Y.data.toList = nm) := Lib.hid (by rw [hY2]; exact hnm)
      have hb0 := hB
      have HB := Lib.hid hB
      cases nm
      · have e5 : portE (l.take i) l[i] = 5 := by unfold portE; rw [if_pos hnm]
        rw [e5, if_pos (by decide)] at hfe
        subst hfe
        clear hY hY2 hnm e5 hB hb0
        go_wp2_with fail
        refine (rname_of _ _ _ hYs HNM).mono ?_
        rintro e w1 ⟨rfl, rfl⟩
        go_wp2
        go_ret
        exact ⟨rfl, HB.out⟩
      · have HF := Lib.hid hfe
        have HNN := Lib.hid hnm
        clear hfe hnm hB hb0
        go_wp2_with fail
        refine (rname_of _ _ _ hYs HNM).mono ?_
        rintro e w1 ⟨rfl, rfl⟩
        go_wp2_with fail
        go_loopw [4] (fun kv wq => ∃ k : Nat, kv = .int .i64 k ∧ k ≤ i ∧ (l.take k).any (fun q => q.1 == l[i].1) = false ∧ Below w.heap.size w wq) (fun kv _ => i - (intOf kv).toNat)
        case atStart => exact ⟨0, rfl, Nat.zero_le _, by simp, HB.out⟩
        case round =>
          obtain ⟨k, rfl, hk, hany, hB2⟩ := hrel
          rename World => wq
          by_cases hki : k < i
          · obtain ⟨A1, e1, p0, -⟩ := (h.out.keep hB2).get (k := k) (by omega)
            cases e1
            obtain ⟨A2, e2, s0, -⟩ := (h.out.keep hB2).get hlt
            cases e2
            rw [hY] at s0
            obtain ⟨X, hX⟩ : ∃ X, bb (l[k]'(by omega)).1 = X := ⟨_, rfl⟩
            rw [hX] at p0
            have hX2 : X.data.toList = (l[k]'(by omega)).1 := by rw [← hX]
            have k0 : (0 : Int) ≤ (k : Int) := by omega
            have k1 : (k : Int) < (l.length : Int) := by omega
            obtain ⟨b, hb⟩ : ∃ b, (X.toList == Y.toList) = b := ⟨_, rfl⟩
            have hb2 : ((l[k]'(by omega)).1 == l[i].1) = b := by rw [← hb, ByteArray.toList_eq, ByteArray.toList_eq, hX2, hY2]
            have HB2 := Lib.hid hB2
            cases b
            · have HA : Hid ((l.take (k + 1)).any (fun q => q.1 == l[i].1) = false) := Lib.hid (by rw [any_step (by omega), hany, hb2]; rfl)
              clear hX hX2 hb2 hany hB2
              go_wp2_with fail
              go_quiet (fail)
              have HB3 := Lib.hid (below_keep (drew_n wq nq) HB2.out)
              generalize wq.drewN nq = w3 at HB3 ⊢
              go_wp2
              go_roundw
              case rel => exact ⟨k + 1, by go_num, by omega, HA.out, HB3.out⟩
              case measure => simp [intOf]; omega
            · have HA : Hid ((l.take i).any (fun q => q.1 == l[i].1) = true) := Lib.hid (any_more (by omega) hki hb2)
              have e6 : portE (l.take i) l[i] = 6 := by unfold portE; rw [if_neg (by rw [HNN.out]; decide), if_pos HA.out]
              have hfe := HF.out
              rw [e6, if_pos (by decide)] at hfe
              subst hfe
              clear hX hX2 hb2 hany hB2 HF e6
              go_wp2_with fail
              go_quiet (fail)
              have HB3 := Lib.hid (below_keep (drew_n wq nq) HB2.out)
              generalize wq.drewN nq = w3 at HB3 ⊢
              go_wp2
              go_ret
              exact ⟨rfl, HB3.out⟩
          · obtain rfl : k = i := by omega
            obtain ⟨A2, e2, -, s1, -⟩ := (h.out.keep hB2).get hlt
            cases e2
            obtain ⟨u, hu⟩ : ∃ u, l[k].2 = u := ⟨_, rfl⟩
            rw [hu] at s1
            have HB2 := Lib.hid hB2
            have hE : portE (l.take k) l[k] = if u < 0 ∨ 3 < u then 7 else 0 := by
              unfold portE; rw [if_neg (by rw [HNN.out]; decide), if_neg (by rw [hany]; decide), hu]
            have hfe := HF.out
            rw [hE] at hfe
            clear HF hany hB2 hu hE hY hY2
            by_cases h1 : u < 0
            · rw [if_pos (Or.inl h1), if_pos (by decide)] at hfe
              subst hfe
              go_wp2
              go_ret
              exact ⟨rfl, HB2.out⟩
            · by_cases h2 : 3 < u
              · rw [if_pos (Or.inr h2), if_pos (by decide)] at hfe
                subst hfe
                go_wp2
                go_ret
                exact ⟨rfl, HB2.out⟩
              · rw [show (if u < 0 ∨ 3 < u then (7 : Int) else 0) = 0 from if_neg (by omega), if_neg (by decide)] at hfe
                have HF2 := Lib.hid hfe
                clear hfe
                go_wp2
                go_roundw
                case rel => exact ⟨k + 1, by go_num, by omega, HF2.out, HB2.out⟩
                case measure => simp [intOf]; omega
    · rw [firstE_end (by omega)] at hfe
      subst hfe
      go_wp2
      go_ret
      exact ⟨rfl, hB⟩
end Go.Proofs.Ytjeacpohanadnaa.gra
