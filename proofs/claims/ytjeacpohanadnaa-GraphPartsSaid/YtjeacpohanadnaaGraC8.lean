/-
  What Members, Depth and Common of the landed graph return. Condition: a graph in memory.
-/
import Derived.Test.YtjeacpohanadnaaGraC7
import Derived.Test.YtjeacpohanadnaaGraRefA
import Derived.Test.YtjeacpohanadnaaGraDg
import Derived.StillTailTactics
namespace Go.Proofs.Ytjeacpohanadnaa.gra
open Go.RowKit lex

set_option maxRecDepth 100000 in
set_option maxHeartbeats 8000000 in
theorem cDepth_of (v : Value) (g : Gr) (c R : Int) (w : World) (h : Hid (GrV w v g)) (hr : Hid (depthV g c = R)) :
    Calls Try.prog 21 #[v, .int .i64 c] w fun e w' => e = .returned (.int .i64 R) ∧ Below w.heap.size w w' := by
  have hg := h.out
  obtain ⟨nv, ev, cv, rfl, hnl, hns, hes, hcs⟩ := h.out
  obtain ⟨no, nc, rfl, -, hm1, -⟩ := id hns
  obtain ⟨eo, ec, rfl, -, hm2, -⟩ := id hes
  obtain ⟨co, cc, rfl, -, hm3, -⟩ := id hcs
  have hfe := hr.out
  unfold depthV at hfe
  have HG := Lib.hid (gat_new w (bb g.nm) g.dir (.slice no g.ns.length nc) (.slice eo g.es.length ec) (.slice co g.cs.length cc) 26)
  have HB := Lib.hid (al1 w (.cells #[.string (bb g.nm), .bool g.dir, .slice no g.ns.length nc, .slice eo g.es.length ec, .slice co g.cs.length cc] 26))
  have HGR := Lib.hid (hg.keep HB.out)
  clear hns hes hcs hm1 hm2 hm3 hnl h hr
  obtain ⟨V, hV⟩ : ∃ V, validE g = V := ⟨_, rfl⟩
  have HV := Lib.hid hV
  obtain ⟨b1, hb1⟩ : ∃ b, decide (-1 ≤ c ∧ c < (g.cs.length : Int)) = b := ⟨_, rfl⟩
  have H1 := Lib.hid hb1
  rw [hV] at hfe
  clear hV hb1
  go_enter Try.func21, Try.ntmps21
  go_wp2_with fail
  refine (isclu_of _ g c b1 _ HGR H1).mono ?_
  rintro e w1 ⟨rfl, hb1⟩
  have HB1 := Lib.hid (below_keep hb1 HB.out)
  have HG1 := Lib.hid (gat_keep HG.out hb1)
  have HGR1 := Lib.hid (hg.keep HB1.out)
  obtain ⟨g0, g1, g2, g3, g4⟩ := HG1.out
  clear hb1 HGR
  cases b1
  · have h1 := of_decide_eq_false H1.out
    rw [if_pos (Or.inr (by omega))] at hfe
    subst hfe
    clear h1
    go_wp2
    go_ret
    exact ⟨rfl, HB1.out⟩
  have h1 := of_decide_eq_true H1.out
  go_wp2_with fail
  refine (cvalid_of _ g V _ HGR1 HV).mono ?_
  rintro e w2 ⟨rfl, hb2⟩
  have HB2 := Lib.hid (below_keep hb2 HB1.out)
  have HG2 := Lib.hid (gat_keep HG1.out hb2)
  have HGR2 := Lib.hid (hg.keep HB2.out)
  clear g0 g1 g2 g3 g4 hb2 HGR1
  obtain ⟨g0, g1, g2, g3, g4⟩ := HG2.out
  by_cases v0 : V = 0
  case neg =>
    have b0 : (V != 0) = true := by rw [bne_iff_ne]; exact v0
    rw [if_pos (Or.inl v0)] at hfe
    subst hfe
    clear v0
    go_wp2
    go_ret
    exact ⟨rfl, HB2.out⟩
  have b0 : (V != 0) = false := by rw [v0]; rfl
  rw [if_neg (by omega)] at hfe
  have HWF := Lib.hid (wf_all (valid_wf g (HV.out.trans v0)).1)
  have HR : Hid (dep (g.cs.take g.cs.length) c = R) := Lib.hid (by rw [List.take_length]; exact hfe)
  clear v0 hfe HV
  go_wp2_with fail
  refine (cdepth_of _ g g.cs.length c R w2 HGR2 (Nat.le_refl _) HWF h1.1 h1.2 HR).mono ?_
  rintro e w3 ⟨rfl, hb3⟩
  have HB3 := Lib.hid (below_keep hb3 HB2.out)
  clear hb3
  go_wp2
  go_ret
  exact ⟨rfl, HB3.out⟩
set_option maxRecDepth 100000 in
set_option maxHeartbeats 8000000 in
theorem cCommon_of (v : Value) (g : Gr) (a b R : Int) (w : World) (h : Hid (GrV w v g)) (hr : Hid (commV g a b = R)) :
    Calls Try.prog 23 #[v, .int .i64 a, .int .i64 b] w fun e w' => e = .returned (.int .i64 R) ∧ Below w.heap.size w w' := by
  have hmx : Try.prog.follows .mixedOrders = true := by kernel_rfl
  have hg := h.out
  obtain ⟨nv, ev, cv, rfl, hnl, hns, hes, hcs⟩ := h.out
  obtain ⟨no, nc, rfl, -, hm1, -⟩ := id hns
  obtain ⟨eo, ec, rfl, -, hm2, -⟩ := id hes
  obtain ⟨co, cc, rfl, -, hm3, -⟩ := id hcs
  have hfe := hr.out
  unfold commV at hfe
  have HG := Lib.hid (gat_new w (bb g.nm) g.dir (.slice no g.ns.length nc) (.slice eo g.es.length ec) (.slice co g.cs.length cc) 26)
  have HB := Lib.hid (al1 w (.cells #[.string (bb g.nm), .bool g.dir, .slice no g.ns.length nc, .slice eo g.es.length ec, .slice co g.cs.length cc] 26))
  have HGR := Lib.hid (hg.keep HB.out)
  have HNS := Lib.hid hns
  clear hns hes hcs hm1 hm2 hm3 hnl h hr
  obtain ⟨V, hV⟩ : ∃ V, validE g = V := ⟨_, rfl⟩
  have HV := Lib.hid hV
  obtain ⟨b1, hb1⟩ : ∃ x, decide (0 ≤ a ∧ a < (g.ns.length : Int)) = x := ⟨_, rfl⟩
  obtain ⟨b2, hb2⟩ : ∃ x, decide (0 ≤ b ∧ b < (g.ns.length : Int)) = x := ⟨_, rfl⟩
  have H1 := Lib.hid hb1
  have H2 := Lib.hid hb2
  rw [hV] at hfe
  clear hV hb1 hb2
  go_enter Try.func23, Try.ntmps23
  go_wp2_with fail
  refine (isnode_of _ g a b1 _ HGR H1).mono ?_
  rintro e w1 ⟨rfl, hb1⟩
  have HB1 := Lib.hid (below_keep hb1 HB.out)
  have HG1 := Lib.hid (gat_keep HG.out hb1)
  have HGR1 := Lib.hid (hg.keep HB1.out)
  obtain ⟨g0, g1, g2, g3, g4⟩ := HG1.out
  clear hb1 HGR
  cases b1
  · have h1 := of_decide_eq_false H1.out
    rw [if_pos (Or.inr (by omega))] at hfe
    subst hfe
    clear h1
    go_wp2
    go_ret
    exact ⟨rfl, HB1.out⟩
  have h1 := of_decide_eq_true H1.out
  go_wp2_with fail
  refine (isnode_of _ g b b2 _ HGR1 H2).mono ?_
  rintro e w2 ⟨rfl, hb2⟩
  have HB2 := Lib.hid (below_keep hb2 HB1.out)
  have HG2 := Lib.hid (gat_keep HG1.out hb2)
  have HGR2 := Lib.hid (hg.keep HB2.out)
  clear g0 g1 g2 g3 g4 hb2 HGR1
  obtain ⟨g0, g1, g2, g3, g4⟩ := HG2.out
  cases b2
  · have h2 := of_decide_eq_false H2.out
    rw [if_pos (Or.inr (Or.inr (Or.inr (by omega))))] at hfe
    subst hfe
    clear h1 h2
    go_wp2
    go_ret
    exact ⟨rfl, HB2.out⟩
  have h2 := of_decide_eq_true H2.out
  go_wp2_with fail
  refine (cvalid_of _ g V _ HGR2 HV).mono ?_
  rintro e w3 ⟨rfl, hb3⟩
  have HB3 := Lib.hid (below_keep hb3 HB2.out)
  have HG3 := Lib.hid (gat_keep HG2.out hb3)
  clear g0 g1 g2 g3 g4 hb3 HGR2
  obtain ⟨g0, g1, g2, g3, g4⟩ := HG3.out
  by_cases v0 : V = 0
  case neg =>
    have b0 : (V != 0) = true := by rw [bne_iff_ne]; exact v0
    rw [if_pos (Or.inl v0)] at hfe
    subst hfe
    clear v0
    go_wp2
    go_ret
    exact ⟨rfl, HB3.out⟩
  have b0 : (V != 0) = false := by rw [v0]; rfl
  rw [if_neg (by omega)] at hfe
  obtain ⟨x, rfl⟩ : ∃ x : Nat, a = (x : Int) := ⟨a.toNat, by omega⟩
  obtain ⟨y, rfl⟩ : ∃ y : Nat, b = (y : Int) := ⟨b.toNat, by omega⟩
  simp only [Int.toNat_natCast] at hfe
  have hx : x < g.ns.length := by omega
  have hy : y < g.ns.length := by omega
  have hvw := valid_wf g (HV.out.trans v0)
  have HWF := Lib.hid hvw.1
  obtain ⟨cx, hcx⟩ : ∃ cx, clOf g x = cx := ⟨_, rfl⟩
  obtain ⟨cy, hcy⟩ : ∃ cy, clOf g y = cy := ⟨_, rfl⟩
  have hrx := hvw.2 x hx
  have hry := hvw.2 y hy
  have hcc := isCC_comm hvw.1 (a := x) (b := y) hrx
  rw [hcx] at hrx hcc
  rw [hcy] at hry hcc
  rw [hfe] at hcc
  have HRX := Lib.hid hrx
  have HRY := Lib.hid hry
  have HCC := Lib.hid hcc
  have hBd := HB3.out.drew
  have HBd := Lib.hid hBd
  have hGd := gat_keep HG3.out (Below.refl w3.heap.size w3).drew
  have hgx := (HNS.out.keep hBd).get hx
  have hgy := (HNS.out.keep hBd).get hy
  have ex : g.ns[x].cl = cx := by rw [← hcx]; unfold clOf; rw [List.getElem?_eq_getElem hx]
  have ey : g.ns[y].cl = cy := by rw [← hcy]; unfold clOf; rw [List.getElem?_eq_getElem hy]
  obtain ⟨A, rfl, -, -, -, -, q4, -⟩ := hgx
  obtain ⟨A', eA, -, -, -, -, p4, -⟩ := hgy
  cases eA
  rw [ex] at q4
  rw [ey] at p4
  have HGRd := Lib.hid (hg.keep hBd)
  have i0 : (0 : Int) ≤ (x : Int) := by omega
  have i1 : (x : Int) < (g.ns.length : Int) := by omega
  have j0 : (0 : Int) ≤ (y : Int) := by omega
  have j1 : (y : Int) < (g.ns.length : Int) := by omega
  clear v0 hfe HV hvw hrx hry hcc hBd ex ey hcx hcy h1 h2
  go_wp2_with fail
  refine wp_region_still_tail 13 (by kernel_rfl) (by kernel_rfl) ?_
  change wpStill _ _ w3.drew (fun a' => wpList _ _ _ _ a' w3.drew) _ _
  clear g0 g1 g2 g3 g4
  generalize w3.drew = wd at *
  obtain ⟨g0, g1, g2, g3, g4⟩ := hGd
  simp only [List.take_succ_cons, List.take_zero, List.drop_succ_cons, List.drop_zero]
  repeat still_step
  refine wpStill_nil ?_
  clear g0 g1 g2 g3 g4 q4 p4
  go_wp2_with fail
  refine (ccomm_of _ g cx cy R _ HGRd HWF HRX HRY HCC).mono ?_
  rintro e w4 ⟨rfl, hb4⟩
  have HB4 := Lib.hid (below_keep hb4 HBd.out)
  clear hb4
  go_wp2
  go_ret
  exact ⟨rfl, HB4.out⟩
end Go.Proofs.Ytjeacpohanadnaa.gra
