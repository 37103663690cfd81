/-
  What cluster of the reference of layer 11 returns. Condition: a graph in memory; the clusters before lie in earlier ones.
-/
import Derived.Test.YtjeacpohanadnaaGraRef2
import Derived.Test.YtjeacpohanadnaaGraRef3
namespace Go.Proofs.Ytjeacpohanadnaa.gra
open Go.RowKit lex

/-- A graph's five cells; a cluster's two. -/
def gat (w : World) (b : Nat) (x : ByteArray) (d : Bool) (nv ev cv : Value) : Prop := w.cell? ⟨b, 0, none⟩ = some (.string x) ∧ w.cell? ⟨b, 1, none⟩ = some (.bool d) ∧ w.cell? ⟨b, 2, none⟩ = some nv ∧ w.cell? ⟨b, 3, none⟩ = some ev ∧ w.cell? ⟨b, 4, none⟩ = some cv
theorem gat_new (w : World) (x : ByteArray) (d : Bool) (nv ev cv : Value) (t : TypeId) : gat (w.alloc (.cells #[.string x, .bool d, nv, ev, cv] t)) w.heap.size x d nv ev cv := by
  refine ⟨?_, ?_, ?_, ?_, ?_⟩ <;> go_simp
theorem gat_keep {w1 w2 : World} {b : Nat} {x : ByteArray} {d : Bool} {nv ev cv : Value} (h : gat w1 b x d nv ev cv) (h2 : Below w1.heap.size w1 w2) : gat w2 b x d nv ev cv :=
  ⟨cell_keep h2 h.1, cell_keep h2 h.2.1, cell_keep h2 h.2.2.1, cell_keep h2 h.2.2.2.1, cell_keep h2 h.2.2.2.2⟩
def kat (w : World) (b : Nat) (x : ByteArray) (u : Int) : Prop := w.cell? ⟨b, 0, none⟩ = some (.string x) ∧ w.cell? ⟨b, 1, none⟩ = some (.int .i64 u)
theorem kat_new (w : World) (x : ByteArray) (u : Int) (t : TypeId) : kat (w.alloc (.cells #[.string x, .int .i64 u] t)) w.heap.size x u := by
  refine ⟨?_, ?_⟩ <;> go_simp
theorem kat_keep {w1 w2 : World} {b : Nat} {x : ByteArray} {u : Int} (h : kat w1 b x u) (h2 : Below w1.heap.size w1 w2) : kat w2 b x u := ⟨cell_keep h2 h.1, cell_keep h2 h.2⟩
theorem wf_next {cs : List Cl} {i : Nat} (hi : i < cs.length) (h : Wf (cs.take i)) (h1 : -1 ≤ cs[i].2) (h2 : cs[i].2 < (i : Int)) : Wf (cs.take (i + 1)) := by
  intro j x hx
  rw [List.getElem?_take] at hx
  split at hx
  · rename_i hj
    by_cases he : j = i
    · subst he
      rw [List.getElem?_eq_getElem hi] at hx
      cases hx
      exact ⟨h1, h2⟩
    · exact h j x (by rw [List.getElem?_take, if_pos (by omega)]; exact hx)
  · exact nomatch hx
set_option maxRecDepth 100000 in
set_option maxHeartbeats 8000000 in
theorem gcluster_of (v : Value) (g : Gr) (i : Nat) (R : Int) (w : World) (h : Hid (GrV w v g)) (hi : i < g.cs.length) (hw : Hid (Wf (g.cs.take i))) (hr : Hid (clusterE g (g.cs.take i) g.cs[i] = R)) :
    Calls Try.prog 33 #[v, .int .i64 i] w fun e w' => e = .returned (.int .i64 R) ∧ Below w.heap.size w w' := by
  have hg := h.out
  obtain ⟨nv, ev, cv, rfl, hnl, hns, he, hc⟩ := h.out
  have hB := al1 w (.cells #[.string (bb g.nm), .bool g.dir, nv, ev, cv] 26)
  have HC := Lib.hid (hc.keep hB)
  obtain ⟨ao, cap, rfl, hc', hm, _⟩ := id HC.out
  unfold maxLen at hm
  have hlm : g.cs.length ≤ 9223372036854775807 := by omega
  clear hns he hc hnl hc' hm
  obtain ⟨A, rfl, q0, q1, q2, -⟩ := HC.out.get hi
  obtain ⟨Y, hY⟩ : ∃ Y, bb g.cs[i].1 = Y := ⟨_, rfl⟩
  obtain ⟨u, hu⟩ : ∃ u, g.cs[i].2 = u := ⟨_, rfl⟩
  rw [hY] at q0
  rw [hu] at q1
  have hY2 : Y.data.toList = g.cs[i].1 := by rw [← hY]
  have hYs : Y.size ≤ maxLen := by rw [← size_list, hY2]; exact q2
  have i0 : (0 : Int) ≤ (i : Int) := by omega
  have i1 : (i : Int) < (g.cs.length : Int) := by omega
  obtain ⟨nm, hnm⟩ : ∃ b, isNm g.cs[i].1 = b := ⟨_, rfl⟩
  have HNM : Hid (isNm Y.data.toList = nm) := Lib.hid (by rw [hY2]; exact hnm)
  have hfe := hr.out
  obtain ⟨cv, hcv⟩ : ∃ cv : Value, Value.slice (some A) g.cs.length cap = cv := ⟨_, rfl⟩
  have HG0 := gat_keep (gat_new w (bb g.nm) g.dir nv ev cv 26) (al1 _ (.cells #[.string Y, .int .i64 u] 50))
  have HK0 := kat_new (w.alloc (.cells #[.string (bb g.nm), .bool g.dir, nv, ev, cv] 26)) Y u 50
  have HB0 := below_keep (al1 (w.alloc (.cells #[.string (bb g.nm), .bool g.dir, nv, ev, cv] 26)) (.cells #[.string Y, .int .i64 u] 50)) (al1 w _)
  rw [show (w.alloc (.cells #[.string (bb g.nm), .bool g.dir, nv, ev, cv] 26)).heap.size = w.heap.size + 1 by simp] at HK0
  subst hcv
  have HG := Lib.hid HG0
  have HK := Lib.hid HK0
  have HB := Lib.hid HB0
  clear hY hr HG0 HK0 HB0
  cases nm
  · have e5 : clusterE g (g.cs.take i) g.cs[i] = 5 := by unfold clusterE; rw [if_pos hnm]
    rw [e5] at hfe
    subst hfe
    clear e5 hnm hu hY2
    go_enter Try.func33, Try.ntmps33
    go_wp2_with fail
    refine (rname_of _ _ _ hYs HNM).mono ?_
    rintro e w1 ⟨rfl, rfl⟩
    go_wp2
    go_ret
    exact ⟨rfl, HB.out⟩
  have HF := Lib.hid hfe
  have HNN := Lib.hid hnm
  have HU := Lib.hid hu
  clear hfe hnm hB hu
  go_enter Try.func33, Try.ntmps33
  go_wp2_with fail
  refine (rname_of _ _ _ hYs HNM).mono ?_
  rintro e w1 ⟨rfl, rfl⟩
  generalize ((w.alloc (.cells #[.string (bb g.nm), .bool g.dir, nv, ev, .slice (some A) g.cs.length cap] 26)).alloc (.cells #[.string Y, .int .i64 u] 50)) = w1 at HG HK HB ⊢
  go_wp2_with fail
  go_loopw [6] (fun kv wq => ∃ k : Nat, kv = .int .i64 k ∧ k ≤ i ∧ (g.cs.take k).any (fun q => q.1 == g.cs[i].1) = false ∧ Below w1.heap.size w1 wq) (fun kv _ => i - (intOf kv).toNat)
  case atStart => exact ⟨0, rfl, Nat.zero_le _, by simp, Below.refl _ _⟩
  case round =>
    obtain ⟨k, rfl, hk, hany, hB2⟩ := hrel
    rename World => wq
    have hBw := below_keep hB2 HB.out
    have HBw := Lib.hid hBw
    have HGQ := Lib.hid (gat_keep HG.out hB2)
    have HKQ := Lib.hid (kat_keep HK.out hB2)
    obtain ⟨g0, g1, g2, g3, g4⟩ := HGQ.out
    obtain ⟨c0, c1⟩ := HKQ.out
    by_cases hki : k < i
    · obtain ⟨nv', ev', cv', e0, _, _, _, hcs⟩ := hg.keep hBw
      cases e0
      obtain ⟨A1, e1, p0, -⟩ := hcs.get (k := k) (by omega)
      cases e1
      obtain ⟨X, hX⟩ : ∃ X, bb (g.cs[k]'(by omega)).1 = X := ⟨_, rfl⟩
      rw [hX] at p0
      have hX2 : X.data.toList = (g.cs[k]'(by omega)).1 := by rw [← hX]
      have k0 : (0 : Int) ≤ (k : Int) := by omega
      have k1 : (k : Int) < (g.cs.length : Int) := by omega
      obtain ⟨b, hb⟩ : ∃ b, (X.toList == Y.toList) = b := ⟨_, rfl⟩
      have hb2 : ((g.cs[k]'(by omega)).1 == g.cs[i].1) = b := by rw [← hb, ByteArray.toList_eq, ByteArray.toList_eq, hX2, hY2]
      have HB2 := Lib.hid hB2
      clear hBw
      cases b
      · have HA : Hid ((g.cs.take (k + 1)).any (fun q => q.1 == g.cs[i].1) = false) := Lib.hid (by rw [any_step (by omega), hany, hb2]; rfl)
        clear hX hX2 hb2 hany hB2
        go_wp2_with fail
        go_quiet (fail)
        have HB3 := Lib.hid (below_keep (drew_n wq nq) HB2.out)
        generalize wq.drewN nq = w3 at HB3 ⊢
        go_wp2
        go_roundw
        case rel => exact ⟨k + 1, by go_num, by omega, HA.out, HB3.out⟩
        case measure => simp [intOf]; omega
      · have HA : Hid ((g.cs.take i).any (fun q => q.1 == g.cs[i].1) = true) := Lib.hid (any_more (by omega) hki hb2)
        have e6 : clusterE g (g.cs.take i) g.cs[i] = 6 := by unfold clusterE; rw [if_neg (by rw [HNN.out]; decide), if_pos HA.out]
        have hfe := HF.out
        rw [e6] at hfe
        subst hfe
        clear hX hX2 hb2 hany hB2 HF e6
        go_wp2_with fail
        go_quiet (fail)
        have HB3 := Lib.hid (below_keep (drew_n wq nq) HBw.out)
        generalize wq.drewN nq = w3 at HB3 ⊢
        go_wp2
        go_ret
        exact ⟨rfl, HB3.out⟩
    · obtain rfl : k = i := by omega
      obtain ⟨F, hF⟩ : ∃ F, findV g Y.data.toList = F := ⟨_, rfl⟩
      have HFI := Lib.hid hF
      have hF2 := findG_any (s := g.cs[k].1) g.ns 0
      have hF3 : findG g.ns g.cs[k].1 0 = F := by rw [← hY2]; exact hF
      rw [hF3] at hF2
      have HGK := Lib.hid (hg.keep hBw)
      have HANY := Lib.hid hany
      clear hBw hF hF3 hany hB2
      go_wp2_with fail
      refine (gfind_of _ g Y F wq HGK HFI).mono ?_
      rintro e w4 ⟨rfl, hb4⟩
      have HB4 := Lib.hid (below_keep hb4 HBw.out)
      have g0 := cell_keep hb4 g0
      have g1 := cell_keep hb4 g1
      have g2 := cell_keep hb4 g2
      have g3 := cell_keep hb4 g3
      have g4 := cell_keep hb4 g4
      have c1 := cell_keep hb4 c1
      have HGK4 := Lib.hid (hg.keep HB4.out)
      have hfe := HF.out
      unfold clusterE at hfe
      rw [if_neg (by rw [HNN.out]; decide), if_neg (by rw [HANY.out]; decide)] at hfe
      clear hb4
      by_cases f0 : 0 ≤ F
      · rw [if_pos (hF2.1 f0)] at hfe
        subst hfe
        clear hF2 HF
        go_wp2
        go_ret
        exact ⟨rfl, HB4.out⟩
      rw [if_neg (fun e => f0 (hF2.2 e)), HU.out, List.length_take, Nat.min_eq_left (by omega)] at hfe
      clear hF2 HF
      by_cases u0 : u < -1
      · rw [if_pos (Or.inl u0)] at hfe
        subst hfe
        go_wp2
        go_ret
        exact ⟨rfl, HB4.out⟩
      by_cases u1 : (k : Int) ≤ u
      · rw [if_pos (Or.inr u1)] at hfe
        subst hfe
        go_wp2
        go_ret
        exact ⟨rfl, HB4.out⟩
      rw [if_neg (by omega)] at hfe
      have HWN := Lib.hid (wf_next hi hw.out (by rw [HU.out]; omega) (by rw [HU.out]; omega))
      rw [show g.cs.take k ++ [g.cs[k]] = g.cs.take (k + 1) from (List.take_succ_eq_append_getElem hi).symm] at hfe
      obtain ⟨D, hD⟩ : ∃ D, dep (g.cs.take (k + 1)) (k : Int) = D := ⟨_, rfl⟩
      have HD := Lib.hid hD
      rw [hD] at hfe
      clear hD
      go_wp2_with fail
      refine (gdepth_of _ g (k + 1) (k : Int) D w4 HGK4 (by omega) HWN (by omega) (by omega) HD).mono ?_
      rintro e w5 ⟨rfl, hb5⟩
      have HB5 := Lib.hid (below_keep hb5 HB4.out)
      clear hb5
      by_cases d6 : 6 < D
      · rw [if_pos d6] at hfe
        subst hfe
        go_wp2
        go_ret
        exact ⟨rfl, HB5.out⟩
      · rw [if_neg d6] at hfe
        subst hfe
        go_wp2
        go_ret
        exact ⟨rfl, HB5.out⟩
end Go.Proofs.Ytjeacpohanadnaa.gra
