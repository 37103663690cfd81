/-
  copied, the walk: one round after the other, and the whole. Conditions: as before.
-/
import Derived.Test.YtgnhpjbkbefgpaaTreCp
namespace Go.Proofs.Ytgnhpjbkbefgpaa.tre
open Go.RowKit lex

def ClOut (t : TypeId) (l : List Pr) (w : World) (e : Ending) (w' : World) : Prop := ∃ v', e = .returned v' ∧ rowP w' t v' l (inI w.heap.size w'.heap.size) ∧ Below w.heap.size w w'
theorem blk_below {W w : World} {g : Nat} {t : TypeId} {arr : Array Value} (h : blk W g t arr) (hb : Below W.heap.size W w) : blk w g t arr := by
  have := hb.block g (blk_lt h)
  unfold blk at h ⊢; rw [this]; exact h
set_option maxRecDepth 100000 in
set_option maxHeartbeats 16000000 in
theorem cp_step (l : List St) (ih : ∀ s ∈ l, CpOk s.body) : CpOk l := by
  intro w v HS hn hok
  have hmx : Try.prog.follows .mixedOrders = true := by kernel_rfl
  have hlm : l.length ≤ 600 := by have := len_cnt l; omega
  have IH := Lib.hid ih
  have HOK := Lib.hid hok
  have CL := Lib.hid (cls_of v l w HS (by omega))
  clear ih hok
  go_enter Try.func44, Try.ntmps44
  go_wp2_with fail
  refine CL.out.mono ?_
  rintro e w1 ⟨ao, cap, rfl, hc1, hc2, hb1, hrow⟩
  have HB1 := Lib.hid hb1
  have HC1 := Lib.hid hc1
  have HC2 := Lib.hid hc2
  by_cases h0 : l.length = 0
  · obtain rfl : l = [] := List.length_eq_zero_iff.1 h0
    have hsz := hb1.size
    have HSZ := Lib.hid hsz
    clear CL hb1 hrow hc1 hc2 h0 hsz HS IH HOK hn hlm
    go_wp2_with fail
    go_loopw [10] (fun iv wr => iv = .int .i64 0 ∧ w1 = wr) (fun _ _ => 0)
    case atStart => exact ⟨rfl, rfl⟩
    case round =>
      obtain ⟨rfl, rfl⟩ := hrel
      go_wp2
      go_ret
      exact ⟨_, rfl, ⟨HSZ.out, ao, cap, rfl, Nat.zero_le _, HC2.out, fun h => absurd h (by simp)⟩, HB1.out⟩
  · obtain ⟨g, arr0, rfl, hwg, hbk, Q, q1, q2, q3⟩ := hrow (by omega)
    have hQl : Q.length = l.length := by rw [← q1, List.length_map]
    have HQ1 := Lib.hid q1
    have HQ2 := Lib.hid q2
    have HQ3 := Lib.hid q3
    have HBK := Lib.hid hbk
    have HQL := Lib.hid hQl
    clear CL hb1 hrow hc1 hc2 h0 HS q1 q2 q3 hbk hQl
    go_wp2_with fail
    go_loopw [10] (fun iv wr => ∃ (k : Nat) (arr : Array Value), iv = .int .i64 k ∧ k ≤ l.length ∧ blk wr g 43 arr ∧ chain wr (l.take k) (g + 1) wr.heap.size arr 0 ∧ (∀ j, k * 5 ≤ j → arr[j]? = arr0[j]?) ∧ Below w.heap.size w wr) (fun iv _ => l.length - (intOf iv).toNat)
    case atStart => exact ⟨0, arr0, rfl, Nat.zero_le _, HBK.out, blk_lt HBK.out, fun _ _ => rfl, HB1.out⟩
    case round =>
      obtain ⟨k, arr, rfl, hk, hbk, hch, hold, hBr⟩ := hrel
      rename World => wr
      have HBk := Lib.hid hbk
      have HCh := Lib.hid hch
      have HOd := Lib.hid hold
      have HBr := Lib.hid hBr
      clear hbk hch hold hBr
      by_cases hlt : k < l.length
      · have hQk : k < Q.length := by rw [HQL.out]; exact hlt
        have hxs : Q[k].s = l[k] := by
          have : (Q.map Sv.s)[k]? = some Q[k].s := by rw [List.getElem?_map, List.getElem?_eq_getElem hQk]; rfl
          rw [HQ1.out, List.getElem?_eq_getElem hlt] at this
          exact (Option.some.inj this).symm
        obtain ⟨hnm, hpr, hpa, hsb⟩ := HQ2.out _ (List.getElem_mem hQk)
        have hcell : ∀ j, j < 5 → arr[k * 5 + j]? = (svC Q[k])[j]? := fun j hj => by rw [HOd.out _ (by omega)]; exact HQ3.out k hQk j hj
        have a0 := hcell 0 (by omega)
        have a1 := hcell 1 (by omega)
        have a2 := hcell 2 (by omega)
        have a3 := hcell 3 (by omega)
        have a4 := hcell 4 (by omega)
        have hasz : k * 5 + 4 < arr.size := (Array.getElem?_eq_some_iff.1 a4).1
        have hcnt : cnt l[k].body ≤ 600 := by have := (cnt_take hlt).1; omega
        have hkok : okL [l[k]] := okL_mem HOK.out _ (List.getElem_mem hlt)
        obtain ⟨hk1, hk2, _⟩ := okL_cons.1 hkok
        have hih := IH.out _ (List.getElem_mem hlt)
        obtain ⟨x, hx⟩ : ∃ x, Q[k] = x := ⟨_, rfl⟩
        rw [hx] at hxs hnm hpr hpa hsb a0 a1 a2 a3 a4
        obtain ⟨sx, xr, xa, xb⟩ := x
        simp only [svC] at hxs hnm hpr hpa hsb a0 a1 a2 a3 a4
        subst hxs
        have HR1 : Hid (∀ W, Below wr.heap.size wr W → Calls Try.prog 59 #[xr] W (ClOut 39 l[k].refs W)) := Lib.hid (fun W hW => clr_of xr _ W (Lib.hid (hpr.keep (below_keep hW HBr.out))) (by omega))
        have HR2 : Hid (∀ W, Below wr.heap.size wr W → Calls Try.prog 60 #[xa] W (ClOut 70 l[k].attrs W)) := Lib.hid (fun W hW => cla_of xa _ W (Lib.hid (hpa.keep (below_keep hW HBr.out))) (by omega))
        have HR3 : Hid (∀ W, Below wr.heap.size wr W → Calls Try.prog 44 #[xb] W (CpOut l[k].body W)) := Lib.hid (fun W hW => hih W xb (Lib.hid (hsb.keep (below_keep hW HBr.out))) hcnt hk2)
        obtain ⟨ro, rc, rfl, -, -, -⟩ := hpr
        obtain ⟨so, sc, rfl, -, -, -⟩ := hpa
        obtain ⟨bo, bc, rfl, -, -, -⟩ := hsb
        have c2 : wr.cell? ⟨g, k * 5 + 2, none⟩ = some (.slice ro l[k].refs.length rc) := by rw [blk_cell HBk.out]; exact a2
        have c3 : wr.cell? ⟨g, k * 5 + 3, none⟩ = some (.slice so l[k].attrs.length sc) := by rw [blk_cell HBk.out]; exact a3
        have c4 : wr.cell? ⟨g, k * 5 + 4, none⟩ = some (.slice bo l[k].body.length bc) := by rw [blk_cell HBk.out]; exact a4
        have f2 : wr.frozen? ⟨g, k * 5 + 2, none⟩ = false := blk_free HBk.out
        have f3 : wr.frozen? ⟨g, k * 5 + 3, none⟩ = false := blk_free HBk.out
        have f4 : wr.frozen? ⟨g, k * 5 + 4, none⟩ = false := blk_free HBk.out
        have HA := Lib.hid (show arr[k * 5]? = some (.int .i64 l[k].kind) ∧ arr[k * 5 + 1]? = some (.string (bb l[k].name)) ∧ k * 5 + 4 < arr.size ∧ l[k].name.length ≤ maxLen from ⟨a0, a1, hasz, hnm⟩)
        have z0 : (0 : Int) ≤ (k : Int) := by omega
        have z1 : (k : Int) < (l.length : Int) := by omega
        have HLT := Lib.hid hlt
        clear hx a0 a1 a2 a3 a4 hasz hcell hnm hkok hk1 hk2 hih hcnt hQk
        go_upto_block 1 with (fail)
        go_cut [5] (fun sv wx => ∃ q, sv = .pointer q ∧ CpCut wr g k l[k] wx)
        case first =>
          go_wp2_with fail
          go_region_law (first
            | (go_simp; go_at_call 59; refine (HR1.out _ (by repeat (first | (with_reducible assumption) | (with_reducible exact Below.refl _ _) | (with_reducible refine b_drew ?_)))).mono ?_; rintro e w3 ⟨v3, rfl, hr3, hb3⟩; have hB3 : Below wr.heap.size wr w3 := below_keep hb3 (by repeat (first | (with_reducible assumption) | (with_reducible exact Below.refl _ _) | (with_reducible refine b_drew ?_))); obtain ⟨o3, p3, rfl, -⟩ := id hr3; have c2 := cell_keep hB3 c2; have c3 := cell_keep hB3 c3; have c4 := cell_keep hB3 c4)
            | (go_simp; go_at_call 60; refine (HR2.out _ hB3).mono ?_; rintro e w4 ⟨v4, rfl, hr4, hb4⟩; have hB4 : Below wr.heap.size wr w4 := below_keep hb4 hB3; obtain ⟨o4, p4, rfl, -⟩ := id hr4; have c2 := cell_keep hb4 c2; have c3 := cell_keep hb4 c3; have c4 := cell_keep hb4 c4)
            | (go_simp; go_at_call 44; refine (HR3.out _ hB4).mono ?_; rintro e w5 ⟨v5, rfl, hr5, hb5⟩; have hB5 : Below wr.heap.size wr w5 := below_keep hb5 hB4; obtain ⟨-, o5, p5, rfl, -⟩ := id hr5; have c2 := cell_keep hb5 c2; have c3 := cell_keep hb5 c3; have c4 := cell_keep hb5 c4; have hk5 : blk w5 g 43 arr := blk_below HBk.out hB5; have f2 : w5.frozen? ⟨g, k * 5 + 2, none⟩ = false := blk_free hk5; have f3 : w5.frozen? ⟨g, k * 5 + 3, none⟩ = false := blk_free hk5; have f4 : w5.frozen? ⟨g, k * 5 + 4, none⟩ = false := blk_free hk5))
          all_goals
            go_wp2_with fail
            go_meet
            exact ⟨_, rfl, w5, w3.heap.size, w4.heap.size, _, _, _, hB5, hB3.size, hb4.size, hr3.keep (fun q hq => (below_keep hb5 hb4).block q hq.2), hr4.keep (fun q hq => hb5.block q hq.2), hr5, rfl⟩
        case rest =>
          obtain ⟨q, rfl, hcut⟩ := hcut
          rename World => wx
          obtain ⟨arr', e1, e2, e3, e4⟩ := cp_next HLT.out HBk.out hwg HBr.out HCh.out HOd.out HA.out.1 HA.out.2.1 HA.out.2.2.1 HA.out.2.2.2 hcut
          have E := Lib.hid (show blk wx g 43 arr' ∧ chain wx (l.take (k + 1)) (g + 1) wx.heap.size arr' 0 ∧ (∀ j, (k + 1) * 5 ≤ j → arr'[j]? = arr0[j]?) ∧ Below w.heap.size w wx from ⟨e1, e2, e3, e4⟩)
          clear e1 e2 e3 e4 hcut c2 c3 c4 f2 f3 f4
          go_wp2_with fail
          go_roundw
          case rel => exact ⟨k + 1, arr', by go_num, by omega, E.out.1, E.out.2.1, E.out.2.2.1, E.out.2.2.2⟩
          case measure => simp [intOf]; omega
      · obtain rfl : k = l.length := by omega
        have HE : Hid (own wr l w.heap.size wr.heap.size (.slice (some ⟨g, 0, none⟩) l.length cap)) := Lib.hid (by
          have := HCh.out
          rw [List.take_length] at this
          exact ⟨HBr.out.size, _, cap, rfl, HC1.out, HC2.out, fun _ => ⟨g, arr, rfl, hwg, HBk.out, this⟩⟩)
        go_wp2
        go_ret
        exact ⟨_, rfl, HE.out, HBr.out⟩
theorem cp_ok (l : List St) : CpOk l := lst_ind cp_step l
end Go.Proofs.Ytgnhpjbkbefgpaa.tre
