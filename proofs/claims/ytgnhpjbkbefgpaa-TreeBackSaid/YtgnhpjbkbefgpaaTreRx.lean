/-
  The walk of a copy that renames a node: the step over one row of statements, and the whole. Conditions: as before.
-/
import Derived.Test.YtgnhpjbkbefgpaaTreRw
namespace Go.Proofs.Ytgnhpjbkbefgpaa.tre
open Go.RowKit lex

set_option maxRecDepth 100000 in
set_option maxHeartbeats 8000000 in
theorem rw_step (fb tb : Nat) (a b : List UInt8) (hbm : b.length ≤ maxLen) (l : List St) (ih : ∀ s ∈ l, RwOk fb tb a b s.body) : RwOk fb tb a b l := by
  intro lo hi v lv W HO h0 h1 hfl htl HF HT
  obtain ⟨hle, ao, cap, rfl, hcap, hmax, _⟩ := id HO.out
  have IH := Lib.hid ih
  have hlm : l.length ≤ 1000 := by have := len_cnt l; omega
  have HMX := Lib.hid hmax
  have HCP := Lib.hid hcap
  clear ih hmax hcap
  go_enter Try.func28, Try.ntmps28
  go_wp2_with fail
  go_loopw [12] (fun iv wr => ∃ k : Nat, iv = .int .i64 k ∧ k ≤ l.length ∧ own wr (mix (renS a b) k l) lo hi (.slice ao l.length cap) ∧ Chg (inI lo hi) W wr) (fun iv _ => l.length - (intOf iv).toNat)
  case atStart => exact ⟨0, rfl, Nat.zero_le _, HO.out, Chg.refl _ _⟩
  case round =>
    obtain ⟨k, rfl, hk, how, hch⟩ := hrel
    rename World => wr
    have HOw := Lib.hid how
    have HCH := Lib.hid hch
    clear how hch HO
    by_cases hlt : k < l.length
    · have hx := List.getElem_mem hlt
      obtain ⟨_, ao', cap', e, _, _, hrow⟩ := HOw.out
      injection e with e1 e2 e3
      subst e1 e3
      have hml := mix_len (renS a b) k l
      obtain ⟨g, arr, rfl, hlg, hbk, hchain⟩ := hrow (by omega)
      rw [(mix_next (renS a b) hlt).1] at hchain
      obtain ⟨m1, hA, m2, rv, av, bv, q0, q1, q2, q3, q4, hE, hD⟩ := chain_app.1 hchain
      have hlen : ((l.take k).map (renS a b)).length = k := by rw [List.length_map, List.length_take]; omega
      rw [hlen, Nat.zero_add] at q0 q1 q2 q3 q4 hD
      obtain ⟨hnm, lb, hb, hlb, hhb, hR, hTt, hOb⟩ := (ownE_eq ..).1 hE
      have hm1 := chain_le hA
      have hm2 := chain_le hD
      have hlh := hOb.1
      have hkid : Hid (RwOk fb tb a b l[k].body) := Lib.hid (IH.out _ hx)
      have hctk : cnt l[k].body + 1 ≤ cnt l := by
        have := (cnt_take hlt).1
        omega
      obtain ⟨lw, hlw⟩ : ∃ q : Int, (if l[k].kind = 5 then lv + 1 else lv) = q := ⟨_, rfl⟩
      have hl0 : 0 ≤ lw := by rw [← hlw]; split <;> omega
      have hl1 : lw + cnt l[k].body ≤ 1000 := by rw [← hlw]; split <;> omega
      have hway : ((l[k].kind == 5) = true ∧ lw = lv + 1) ∨ ((l[k].kind == 5) = false ∧ lv = lw) := by
        by_cases h5 : l[k].kind = 5
        · rw [if_pos h5] at hlw; exact Or.inl ⟨by rw [beq_iff_eq]; exact h5, hlw.symm⟩
        · rw [if_neg h5] at hlw; exact Or.inr ⟨by rw [beq_eq_false_iff_ne]; exact h5, hlw⟩
      have hRR : rowP wr 39 rv l[k].refs (fun q => outI m1 m2 lb hb q ∧ ∃ x, blk wr q 39 x) := by
        obtain ⟨ro, rc, e, r1, r2, r3⟩ := hR
        refine ⟨ro, rc, e, r1, r2, fun hn => ?_⟩
        obtain ⟨g', ar, e, r4, r5, r6⟩ := r3 hn
        exact ⟨g', ar, e, ⟨r4, ar, r5⟩, r5, r6⟩
      have hfw := HCH.out.cell (fun e => by have := e.1; omega) HF.out
      have htw := HCH.out.cell (fun e => by have := e.1; omega) HT.out
      have HV := Lib.hid (visit_of g (k * 5) l[k].kind l[k].name rv l[k].refs arr (fun q => outI m1 m2 lb hb q ∧ ∃ x, blk wr q 39 x) fb tb a b lv wr (Lib.hid hbk) q0 q1 q2 (Lib.hid hRR) hfw htw (by omega) (by omega) (fun e => by have := e.1.1; omega) (fun e => by have := e.1.1; omega) (fun e => by have := e.1.1; omega) hbm _ (Lib.hid rfl))
      have c0 : wr.cell? ⟨g, k * 5, none⟩ = some (.int .i64 l[k].kind) := by rw [blk_cell hbk]; exact q0
      have z0 : (0 : Int) ≤ (k : Int) := by omega
      have z1 : (k : Int) < (l.length : Int) := by omega
      have HA := Lib.hid hA
      have HD := Lib.hid hD
      have HQ := Lib.hid (show arr[k * 5]? = some (.int .i64 l[k].kind) ∧ arr[k * 5 + 2]? = some rv ∧ arr[k * 5 + 3]? = some av ∧ arr[k * 5 + 4]? = some bv from ⟨q0, q2, q3, q4⟩)
      have HTt := Lib.hid hTt
      have HOb := Lib.hid hOb
      have HNM := Lib.hid hnm
      have HHB := Lib.hid hhb
      have HLB := Lib.hid hlb
      have HLG := Lib.hid hlg
      have HBK := Lib.hid hbk
      obtain ⟨kd, hkd⟩ : ∃ q, l[k].kind = q := ⟨_, rfl⟩
      rw [hkd] at c0 hway
      have HLT := Lib.hid hlt
      have hgl : g < lb := by omega
      have hfl2 : fb < lb := by omega
      have htl2 : tb < lb := by omega
      have hfg : ¬ fb = g := by omega
      have htg : ¬ tb = g := by omega
      have HFW := Lib.hid hfw
      have HTW := Lib.hid htw
      clear e2 hrow hchain q0 q1 q2 q3 q4 hE hR hTt hOb hRR hA hD hnm hbk hlw hml hx hkd hlen hfw htw hctk
      rcases hway with ⟨b5, rfl⟩ | ⟨b5, rfl⟩
      all_goals
        go_wp2_with fail
        refine HV.out.mono ?_
        rintro e w1 ⟨rfl, arr', hk1, hs1, hn1, hr1, hc1⟩
        have HK1 := Lib.hid hk1
        have HS1 := Lib.hid hs1
        have HN1 := Lib.hid hn1
        have HR1 := Lib.hid hr1
        have HC1 := Lib.hid hc1
        have c4 : w1.cell? ⟨g, k * 5 + 4, none⟩ = some bv := by rw [blk_cell hk1, hs1 _ (by omega)]; exact HQ.out.2.2.2
        have HOb1 : Hid (own w1 l[k].body lb hb bv) := Lib.hid (own_move HOb.out (fun q h1 h2 => hc1.block q (fun e => by
          rcases e with e | e
          · omega
          · exact e.1.2.2 ⟨h1, h2⟩)))
        have HF1 : Hid (w1.cell? ⟨fb, 0, none⟩ = some (.string (bb a))) := Lib.hid (hc1.cell (fun e => by
          rcases e with e | e
          · omega
          · have := e.1.1; omega) HFW.out)
        have HT1 : Hid (w1.cell? ⟨tb, 0, none⟩ = some (.string (bb b))) := Lib.hid (hc1.cell (fun e => by
          rcases e with e | e
          · omega
          · have := e.1.1; omega) HTW.out)
        clear hk1 hs1 hn1 hr1 hc1 c0 b5
        go_wp2_with fail
        with_reducible refine (RwOk.use hkid HOb1 hl0 hl1 hfl2 htl2 HF1 HT1).mono ?_
        rintro e w2 ⟨rfl, ho2, hc2⟩
        have HO2 := Lib.hid ho2
        have HC2 := Lib.hid hc2
        clear ho2 hc2 c4
        go_wp2_with fail
        go_roundw
        case rel =>
          refine ⟨k + 1, by go_num, by omega, ?_, ?_⟩
          · refine own_next HLT.out hbm HLG.out HCP.out HMX.out (HC2.out.blk (fun e => by have := e.1; omega) HK1.out) HA.out HLB.out HHB.out HQ.out.1 HQ.out.2.1 HQ.out.2.2.1 HQ.out.2.2.2 HNM.out HS1.out HN1.out ?_ HTt.out HO2.out HD.out ?_
            · exact (HR1.out.keep (fun q hq => HC2.out.block q (fun e => hq.1.2.2 e))).mono (fun q hq => hq.1)
            · intro q h1 h2 h3
              rw [HC2.out.block q h2]
              exact HC1.out.block q (fun e => by
                rcases e with e | e
                · exact h1 e
                · exact h3 e)
          · have hHB := HHB.out
            have hLB := HLB.out
            have hLG := HLG.out
            refine (HCH.out.trans (HC1.out.mono ?_)).trans (HC2.out.mono ?_)
            · intro q e
              rcases e with e | e
              · exact ⟨by omega, by omega⟩
              · exact ⟨by have := e.1.1; omega, by have := e.1.2.1; omega⟩
            · intro q e
              exact ⟨by have := e.1; omega, by have := e.2; omega⟩
        case measure => simp [intOf]; omega
    · obtain rfl : k = l.length := by omega
      have HE : Hid (mix (renS a b) l.length l = renL a b l) := Lib.hid (by rw [mix_end, renL_map])
      go_wp2
      go_ret
      exact ⟨rfl, by rw [← HE.out]; exact HOw.out, HCH.out⟩
theorem rw_ok (fb tb : Nat) (a b : List UInt8) (hbm : b.length ≤ maxLen) (l : List St) : RwOk fb tb a b l := lst_ind (rw_step fb tb a b hbm) l
end Go.Proofs.Ytgnhpjbkbefgpaa.tre
