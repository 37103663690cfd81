/-
  What clusterError of the landed graph returns. Conditions: a graph in memory; clusters before it that lie in earlier ones.
-/
import Derived.Test.YtjeacpohanadnaaGraC4
import Derived.Deep.RegionHeld3
namespace Go.Proofs.Ytjeacpohanadnaa.gra
open Go.RowKit lex

theorem cb_drew {W w : World} (h : Below W.heap.size W w) : Below W.heap.size W w.drew := h.drew
theorem cb_alloc {W w : World} {o : Obj} (h : Below W.heap.size W w) : Below W.heap.size W (w.alloc o) := below_keep (al1 ..) h
theorem cb_set {W w : World} {g : Nat} {o : Nat} {v : Value} (hg : W.heap.size ≤ g) (h : Below W.heap.size W w) : Below W.heap.size W (w.setCell ⟨g, o, none⟩ v) := h.setCell hg _
theorem cl_keep {W w : World} {p0 p1 p2 : Addr} {u0 u1 u2 : Value} (a0 : W.cell? p0 = some u0) (a1 : W.cell? p1 = some u1) (a2 : W.cell? p2 = some u2) (h : Below W.heap.size W w) : Below W.heap.size W w ∧ w.cell? p0 = some u0 ∧ w.cell? p1 = some u1 ∧ w.cell? p2 = some u2 :=
  ⟨h, cell_later' h a0, cell_later' h a1, cell_later' h a2⟩
set_option maxRecDepth 100000 in
set_option maxHeartbeats 16000000 in
theorem cluster_of (v : Value) (g : Gr) (i : Nat) (R : Int) (w : World) (h : Hid (GrV w v g)) (hi : i < g.cs.length) (hw : Hid (Wf (g.cs.take i))) (hr : Hid (clusterE g (g.cs.take i) g.cs[i] = R)) :
    Calls Try.prog 29 #[v, .int .i64 i] w fun e w' => e = .returned (.int .i64 R) ∧ Below w.heap.size w w' := by
  have hmf : ∀ (fn : Fn) (first cap : Array Value) (w : World), (Instr.makeFunc fn first cap).run Try.prog w = .ok (.func fn first cap) w := fun _ _ _ _ => rfl
  have hg := h.out
  obtain ⟨nv, ev, cv, rfl, hnl, hns, hes, hcs⟩ := h.out
  obtain ⟨no, nc, rfl, -, -, -⟩ := id hns
  obtain ⟨eo, ec, rfl, -, -, -⟩ := id hes
  obtain ⟨co, cc, rfl, hm0, hm1, -⟩ := id hcs
  unfold maxLen at hm1
  have hlm : g.cs.length ≤ 9223372036854775807 := by omega
  obtain ⟨x, hx⟩ : ∃ x, g.cs[i] = x := ⟨_, rfl⟩
  have hget := (hcs.keep (al1 w (.cells #[.string (bb g.nm), .bool g.dir, .slice no g.ns.length nc, .slice eo g.es.length ec, .slice co g.cs.length cc] 26))).get hi
  have hfe := hr.out
  rw [hx] at hget hfe
  obtain ⟨A, rfl, q0, q1, z0, -⟩ := hget
  obtain ⟨xn, u⟩ := x
  have HXI : Hid (g.cs[i].2 = u) := Lib.hid (by rw [hx])
  have HTK : Hid (g.cs.take i ++ [(xn, u)] = g.cs.take (i + 1)) := Lib.hid (by rw [List.take_succ_eq_append_getElem hi, hx])
  simp only at q0 q1 z0 hfe
  obtain ⟨Y, hY⟩ : ∃ Y, bb xn = Y := ⟨_, rfl⟩
  rw [hY] at q0
  have hY2 : Y.data.toList = xn := by rw [← hY]
  have hYs : Y.size ≤ maxLen := by rw [← size_list, hY2]; exact z0
  have i0 : (0 : Int) ≤ (i : Int) := by omega
  have i1 : (i : Int) < (g.cs.length : Int) := by omega
  obtain ⟨W1, hW1⟩ : ∃ W1, w.alloc (.cells #[.string (bb g.nm), .bool g.dir, .slice no g.ns.length nc, .slice eo g.es.length ec, .slice (some A) g.cs.length cc] 26) = W1 := ⟨_, rfl⟩
  have HW1 := Lib.hid hW1
  have hB := al1 w (.cells #[.string (bb g.nm), .bool g.dir, .slice no g.ns.length nc, .slice eo g.es.length ec, .slice (some A) g.cs.length cc] 26)
  have hG := gat_new w (bb g.nm) g.dir (.slice no g.ns.length nc) (.slice eo g.es.length ec) (.slice (some A) g.cs.length cc) 26
  rw [hW1] at hB hG q0 q1
  have hs1 : W1.heap.size = w.heap.size + 1 := by rw [← hW1]; simp
  have HB := Lib.hid hB
  have HG := Lib.hid hG
  have HCS := Lib.hid (hcs.keep hB)
  clear hW1 hB hG hY z0 hx hns hes hcs hnl h hr
  go_enter Try.func29, Try.ntmps29
  go_wp2_with fail
  rw [HW1.out]
  obtain ⟨g0, g1, g2, g3, g4⟩ := HG.out
  go_region_held3 (fun w' => Below W1.heap.size W1 w' ∧ w'.cell? ⟨w.heap.size, 4, none⟩ = some (.slice (some A) g.cs.length cc) ∧ w'.cell? (A.add (i * 2)) = some (.string Y) ∧ w'.cell? ⟨(A.add (i * 2)).block, (A.add (i * 2)).off + 1, none⟩ = some (.int .i64 u))
    (first | assumption | (refine cl_keep g4 q0 q1 ?_; repeat (first | (with_reducible exact Below.refl _ _) | (with_reducible refine cb_drew ?_) | (with_reducible refine cb_alloc ?_) | (with_reducible refine cb_set (by simp) ?_))))
    (fail)
  have HB2 : Hid (Below w.heap.size w (W1.alloc (.cells #[.string Y] 9)).drew) := Lib.hid ((below_keep (al1 ..) HB.out).drew)
  have HG2 : Hid (gat (W1.alloc (.cells #[.string Y] 9)).drew w.heap.size (bb g.nm) g.dir (.slice no g.ns.length nc) (.slice eo g.es.length ec) (.slice (some A) g.cs.length cc)) := Lib.hid (gat_keep HG.out (cb_drew (al1 ..)))
  have HY2 : Hid ((W1.alloc (.cells #[.string Y] 9)).drew.cell? ⟨w.heap.size + 1, 0, none⟩ = some (.string Y)) := Lib.hid (by rw [← hs1]; show (W1.alloc (.cells #[.string Y] 9)).cell? _ = _; go_simp)
  have HCS2 := Lib.hid (HCS.out.keep (cb_drew (al1 W1 (.cells #[.string Y] 9))))
  have HGR2 := Lib.hid (hg.keep HB2.out)
  go_split_ands
  clear q0 q1 g0 g1 g2 g3 g4 HB HG HCS
  generalize (W1.alloc (.cells #[.string Y] 9)).drew = W2 at *
  clear HW1 hs1
  obtain ⟨b1, hb1⟩ : ∃ b, isNm Y.data.toList = b := ⟨_, rfl⟩
  obtain ⟨b2, hb2⟩ : ∃ b, (g.cs.take i).any (fun p => p.1 == Y.data.toList) = b := ⟨_, rfl⟩
  obtain ⟨b3, hb3⟩ : ∃ b, g.ns.any (fun y => y.nm == Y.data.toList) = b := ⟨_, rfl⟩
  obtain ⟨F, hF⟩ : ∃ F, findV g Y.data.toList = F := ⟨_, rfl⟩
  have hF3 : (F != -1) = b3 := by
    have h1 := findG_any (s := Y.data.toList) g.ns 0
    have h2 := findG_ge g.ns Y.data.toList 0
    have h3 : findG g.ns Y.data.toList 0 = F := hF
    rw [h3, hb3] at h1
    rw [h3] at h2
    rw [Bool.eq_iff_iff, bne_iff_ne, ← h1]
    omega
  have H1 := Lib.hid hb1
  have H2 := Lib.hid hb2
  have HF := Lib.hid hF
  have HF3 := Lib.hid hF3
  unfold clusterE at hfe
  simp only at hfe
  rw [← hY2, hb1, hb2, hb3] at hfe
  rw [← hY2] at HTK
  have HE := Lib.hid hfe
  have y0 := HY2.out
  clear hfe hb1 hb2 hb3 hF hF3 hY2
  go_wp2_with fail
  refine (isname_of Y b1 _ hYs H1).mono ?_
  rintro e w3 ⟨rfl, hw3⟩
  have HB3 := Lib.hid (below_keep hw3 HB2.out)
  have HG3 := Lib.hid (gat_keep HG2.out hw3)
  have HY3 := Lib.hid (cell_keep hw3 HY2.out)
  have HCS3 := Lib.hid (HCS2.out.keep hw3)
  clear y0 hw3 HGR2
  cases b1
  · obtain rfl : 5 = R := by rw [← HE.out]; rfl
    go_wp2
    go_ret
    exact ⟨rfl, HB3.out⟩
  have HFR := Lib.hid (HCS3.out.front (Nat.le_of_lt hi))
  obtain ⟨g0, g1, g2, g3, g4⟩ := HG3.out
  have y0 := HY3.out
  have i2 : (i : Int) ≤ (cc : Int) := by omega
  have hcm : cc ≤ 9223372036854775807 := by omega
  go_wp2_with fail
  refine (clucon_of _ _ (w.heap.size + 1) Y b2 w3 HFR HY3 H2).mono ?_
  rintro e w4 ⟨rfl, hw4⟩
  have HB4 := Lib.hid (below_keep hw4 HB3.out)
  have HG4 := Lib.hid (gat_keep HG3.out hw4)
  have HY4 := Lib.hid (cell_keep hw4 HY3.out)
  have HGR4 := Lib.hid (hg.keep HB4.out)
  clear y0 g0 g1 g2 g3 g4 hw4 HCS3 HFR i2 hcm
  cases b2
  case true =>
    obtain rfl : 6 = R := by rw [← HE.out]; rfl
    go_wp2
    go_ret
    exact ⟨rfl, HB4.out⟩
  obtain ⟨g0, g1, g2, g3, g4⟩ := HG4.out
  have y0 := HY4.out
  go_wp2_with fail
  refine (cfind_of _ g Y F _ HGR4 HF).mono ?_
  rintro e w5 ⟨rfl, hw5⟩
  have HB5 := Lib.hid (below_keep hw5 HB4.out)
  have HG5 := Lib.hid (gat_keep HG4.out hw5)
  have HGR5 := Lib.hid (hg.keep HB5.out)
  clear y0 g0 g1 g2 g3 g4 hw5 HGR4
  have zf := HF3.out
  cases b3
  case true =>
    obtain rfl : 6 = R := by rw [← HE.out]; rfl
    go_wp2
    go_ret
    exact ⟨rfl, HB5.out⟩
  have hE := HE.out
  simp only [Bool.true_eq_false, if_false, Bool.false_eq_true] at hE
  have hpl : (g.cs.take i).length = i := by rw [List.length_take]; omega
  rw [hpl] at hE
  have e1 : IntKind.i64.wrap ((i : Int) - 1) = (i : Int) - 1 := IntWalk.i64_in _ (by omega)
  obtain ⟨b4, hb4⟩ : ∃ b, decide (-1 ≤ u ∧ u ≤ (i : Int) - 1) = b := ⟨_, rfl⟩
  have H4 := Lib.hid hb4
  have HE2 := Lib.hid hE
  clear hE HE hb4
  go_wp2_with fail
  refine (isfrom_of (-1) ((i : Int) - 1) u b4 _ H4).mono ?_
  rintro e w6 ⟨rfl, rfl⟩
  clear zf
  cases b4
  · have h4 := of_decide_eq_false H4.out
    obtain rfl : 3 = R := by rw [← HE2.out, if_pos (by omega)]
    clear h4
    go_wp2
    go_ret
    exact ⟨rfl, HB5.out⟩
  have h4 := of_decide_eq_true H4.out
  have hE := HE2.out
  rw [if_neg (by omega)] at hE
  have hx2 : g.cs[i].2 = u := HXI.out
  have HWN := Lib.hid (wf_next hi hw.out (by rw [hx2]; exact h4.1) (by rw [hx2]; omega))
  obtain ⟨D, hD⟩ : ∃ D, dep (g.cs.take (i + 1)) (i : Int) = D := ⟨_, rfl⟩
  have HD := Lib.hid hD
  rw [HTK.out, hD] at hE
  obtain ⟨g0, g1, g2, g3, g4⟩ := HG5.out
  have HE3 := Lib.hid hE
  clear hE HE2 h4 hD hx2
  go_wp2_with fail
  refine (cdepth_of _ g (i + 1) (i : Int) D _ HGR5 hi HWN (by omega) (by omega) HD).mono ?_
  rintro e w7 ⟨rfl, hw7⟩
  have HB7 := Lib.hid (below_keep hw7 HB5.out)
  clear hw7 g0 g1 g2 g3 g4
  by_cases h6 : 6 < D
  · obtain rfl : 2 = R := by rw [← HE3.out, if_pos h6]
    go_wp2
    go_ret
    exact ⟨rfl, HB7.out⟩
  · obtain rfl : 0 = R := by rw [← HE3.out, if_neg h6]
    go_wp2
    go_ret
    exact ⟨rfl, HB7.out⟩
end Go.Proofs.Ytjeacpohanadnaa.gra
