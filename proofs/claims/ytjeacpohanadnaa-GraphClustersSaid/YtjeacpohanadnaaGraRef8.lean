/-
  What Depth and Common of the reference of layer 11 return. Condition: a graph in memory.
-/
import Derived.Test.YtjeacpohanadnaaGraRef7
namespace Go.Proofs.Ytjeacpohanadnaa.gra
open Go.RowKit lex

/-- What Depth answers. -/
def depthV (g : Gr) (c : Int) : Int := if validE g ≠ 0 ∨ c < -1 ∨ (g.cs.length : Int) ≤ c then 0 else dep g.cs c
/-- What Common answers. -/
def commV (g : Gr) (a b : Int) : Int := if validE g ≠ 0 ∨ a < 0 ∨ (g.ns.length : Int) ≤ a ∨ b < 0 ∨ (g.ns.length : Int) ≤ b then -1 else comm g a.toNat b.toNat
theorem wf_all {cs : List Cl} (h : Wf cs) : Wf (cs.take cs.length) := by rw [List.take_length]; exact h
set_option maxRecDepth 100000 in
set_option maxHeartbeats 8000000 in
theorem gDepth_of (v : Value) (g : Gr) (c R : Int) (w : World) (h : Hid (GrV w v g)) (hr : Hid (depthV g c = R)) :
    Calls Try.prog 22 #[v, .int .i64 c] w fun e w' => e = .returned (.int .i64 R) ∧ Below w.heap.size w w' := by
  have hg := h.out
  obtain ⟨nv, ev, cv, rfl, hnl, hns, hes, hcs⟩ := h.out
  obtain ⟨no, nc, rfl, -, hm1, -⟩ := id hns
  obtain ⟨eo, ec, rfl, -, hm2, -⟩ := id hes
  obtain ⟨co, cc, rfl, -, hm3, -⟩ := id hcs
  have hfe := hr.out
  unfold depthV at hfe
  have HG := Lib.hid (gat_new w (bb g.nm) g.dir (.slice no g.ns.length nc) (.slice eo g.es.length ec) (.slice co g.cs.length cc) 26)
  have HB := Lib.hid (al1 w (.cells #[.string (bb g.nm), .bool g.dir, .slice no g.ns.length nc, .slice eo g.es.length ec, .slice co g.cs.length cc] 26))
  have HGR := Lib.hid (hg.keep HB.out)
  clear hns hes hcs hm1 hm2 hm3 hnl h hr
  obtain ⟨V, hV⟩ : ∃ V, validE g = V := ⟨_, rfl⟩
  have HV := Lib.hid hV
  rw [hV] at hfe
  clear hV
  go_enter Try.func22, Try.ntmps22
  go_wp2_with fail
  refine (gvalid_of _ g V _ HGR HV).mono ?_
  rintro e w1 ⟨rfl, hb1⟩
  have HB1 := Lib.hid (below_keep hb1 HB.out)
  have HG1 := Lib.hid (gat_keep HG.out hb1)
  have HGR1 := Lib.hid (hg.keep HB1.out)
  obtain ⟨g0, g1, g2, g3, g4⟩ := HG1.out
  clear hb1 HGR
  by_cases v0 : V = 0
  case neg =>
    have b0 : (V != 0) = true := by rw [bne_iff_ne]; exact v0
    rw [if_pos (Or.inl v0)] at hfe
    subst hfe
    clear v0
    go_wp2
    go_ret
    exact ⟨rfl, HB1.out⟩
  have b0 : (V != 0) = false := by rw [v0]; rfl
  by_cases c0 : c < -1
  · rw [if_pos (Or.inr (Or.inl c0))] at hfe
    subst hfe
    clear v0
    go_wp2
    go_ret
    exact ⟨rfl, HB1.out⟩
  by_cases c1 : (g.cs.length : Int) ≤ c
  · rw [if_pos (Or.inr (Or.inr c1))] at hfe
    subst hfe
    clear v0
    go_wp2
    go_ret
    exact ⟨rfl, HB1.out⟩
  rw [if_neg (by omega)] at hfe
  have HWF := Lib.hid (wf_all (valid_wf g (HV.out.trans v0)).1)
  have HR : Hid (dep (g.cs.take g.cs.length) c = R) := Lib.hid (by rw [List.take_length]; exact hfe)
  clear v0 hfe HV
  go_wp2_with fail
  refine (gdepth_of _ g g.cs.length c R w1 HGR1 (Nat.le_refl _) HWF (by omega) (by omega) HR).mono ?_
  rintro e w2 ⟨rfl, hb2⟩
  have HB2 := Lib.hid (below_keep hb2 HB1.out)
  clear hb2
  go_wp2
  go_ret
  exact ⟨rfl, HB2.out⟩
end Go.Proofs.Ytjeacpohanadnaa.gra
