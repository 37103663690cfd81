/-
  The walk of the statement GraphParts of layer 11. Condition: what comes in lies in memory.
-/
import Derived.Test.YtjeacpohanadnaaGraAwk
import Derived.Test.YtjeacpohanadnaaGraDgR
import Derived.Test.YtjeacpohanadnaaGraEqS
import Derived.Test.YtjeacpohanadnaaGraSmall
import Derived.Deep.RegionHeld3
namespace Go.Proofs.Ytjeacpohanadnaa.gra
open Go.RowKit lex

theorem small_es {g : Gr} (h : smallV g = true) : g.es.length ≤ 300 := by
  unfold smallV at h
  rw [Bool.and_eq_true, decide_eq_true_eq] at h
  exact h.1.2.1
theorem two_keep {w0 w w' : World} {p0 p1 p2 p3 p4 q0 q1 q2 q3 q4 : Addr} {u0 u1 u2 u3 u4 v0 v1 v2 v3 v4 : Value}
    (h : Below w0.heap.size w0 w ∧ w.cell? p0 = some u0 ∧ w.cell? p1 = some u1 ∧ w.cell? p2 = some u2 ∧ w.cell? p3 = some u3 ∧ w.cell? p4 = some u4 ∧ w.cell? q0 = some v0 ∧ w.cell? q1 = some v1 ∧ w.cell? q2 = some v2 ∧ w.cell? q3 = some v3 ∧ w.cell? q4 = some v4) (hb : Below w.heap.size w w') :
    Below w0.heap.size w0 w' ∧ w'.cell? p0 = some u0 ∧ w'.cell? p1 = some u1 ∧ w'.cell? p2 = some u2 ∧ w'.cell? p3 = some u3 ∧ w'.cell? p4 = some u4 ∧ w'.cell? q0 = some v0 ∧ w'.cell? q1 = some v1 ∧ w'.cell? q2 = some v2 ∧ w'.cell? q3 = some v3 ∧ w'.cell? q4 = some v4 := by
  obtain ⟨h0, a0, a1, a2, a3, a4, b0, b1, b2, b3, b4⟩ := h
  exact ⟨below_keep hb h0, cell_later' hb a0, cell_later' hb a1, cell_later' hb a2, cell_later' hb a3, cell_later' hb a4, cell_later' hb b0, cell_later' hb b1, cell_later' hb b2, cell_later' hb b3, cell_later' hb b4⟩
set_option maxRecDepth 100000 in
set_option maxHeartbeats 16000000 in
theorem wpar (v v2 : Value) (g h : Gr) (s : ByteArray) (w : World) (h1 : Hid (GrV w v g)) (h2 : Hid (GrV w v2 h)) :
    Calls Try.prog 4 #[v, v2, .string s] w fun e w' => e = .returned (.bool true) ∧ Below w.heap.size w w' := by
  have hg := h1.out
  obtain ⟨nv, ev, cv, rfl, -, hns, hes, hcs⟩ := h1.out
  obtain ⟨no, nc, rfl, -, -, -⟩ := id hns
  obtain ⟨eo, ec, rfl, -, -, -⟩ := id hes
  obtain ⟨co, cc, rfl, -, -, -⟩ := id hcs
  clear hns hes hcs
  have hh := h2.out
  obtain ⟨mv, fv, dv, rfl, -, hns, hes, hcs⟩ := h2.out
  obtain ⟨mo, mc, rfl, -, -, -⟩ := id hns
  obtain ⟨fo, fc, rfl, -, -, -⟩ := id hes
  obtain ⟨dO, dc, rfl, -, -, -⟩ := id hcs
  clear hns hes hcs
  obtain ⟨W1, hW1⟩ : ∃ W1, (w.alloc (.cells #[.string (bb g.nm), .bool g.dir, .slice no g.ns.length nc, .slice eo g.es.length ec, .slice co g.cs.length cc] 26)).alloc (.cells #[.string (bb h.nm), .bool h.dir, .slice mo h.ns.length mc, .slice fo h.es.length fc, .slice dO h.cs.length dc] 26) = W1 := ⟨_, rfl⟩
  have HB : Hid (Below w.heap.size w W1) := Lib.hid (by rw [← hW1]; exact al2 ..)
  have HG : Hid (gat W1 w.heap.size (bb g.nm) g.dir (.slice no g.ns.length nc) (.slice eo g.es.length ec) (.slice co g.cs.length cc)) := Lib.hid (by rw [← hW1]; exact gat_alloc _ (gat_new ..))
  have HH : Hid (gat W1 (w.heap.size + 1) (bb h.nm) h.dir (.slice mo h.ns.length mc) (.slice fo h.es.length fc) (.slice dO h.cs.length dc)) := Lib.hid (by rw [← hW1, ← World.size_alloc w (.cells #[.string (bb g.nm), .bool g.dir, .slice no g.ns.length nc, .slice eo g.es.length ec, .slice co g.cs.length cc] 26)]; exact gat_new ..)
  have HW1 := Lib.hid hW1
  have HGR := Lib.hid (hg.keep HB.out)
  have HHR := Lib.hid (hh.keep HB.out)
  obtain ⟨sm, hsm⟩ : ∃ b, smallV g = b := ⟨_, rfl⟩
  obtain ⟨sn, hsn⟩ : ∃ b, smallV h = b := ⟨_, rfl⟩
  have HSM := Lib.hid hsm
  have HSN := Lib.hid hsn
  obtain ⟨F, hF⟩ : ∃ F, findV g s.data.toList = F := ⟨_, rfl⟩
  obtain ⟨E, hE⟩ : ∃ E, decide (g = h) = E := ⟨_, rfl⟩
  have HF := Lib.hid hF
  have HE := Lib.hid hE
  have zF : (F == F) = true := by simp
  have zE : (E == E) = true := by simp
  clear hW1 hg hh h1 h2 hsm hsn hF hE
  go_enter Try.func4, Try.ntmps4
  go_wp2_with fail
  rw [HW1.out]
  obtain ⟨g0, g1, g2, g3, g4⟩ := HG.out
  obtain ⟨k0, k1, k2, k3, k4⟩ := HH.out
  refine (small_of _ g sm _ HGR HSM).mono ?_
  rintro e w2 ⟨rfl, hw2⟩
  have HB2 := Lib.hid (below_keep hw2 HB.out)
  have HG2 := Lib.hid (gat_keep HG.out hw2)
  have HH2 := Lib.hid (gat_keep HH.out hw2)
  have HGR2 := Lib.hid (HGR.out.keep hw2)
  have HHR2 := Lib.hid (HHR.out.keep hw2)
  clear g0 g1 g2 g3 g4 k0 k1 k2 k3 k4 hw2 HG HH HGR HHR
  obtain ⟨k0, k1, k2, k3, k4⟩ := HH2.out
  cases sm
  · go_wp2_with fail
    refine (awake_any _).mono ?_
    rintro e w3 ⟨rfl, hw3⟩
    have HB3 := Lib.hid (below_keep hw3 HB2.out)
    clear hw3
    go_wp2
    go_ret
    exact ⟨rfl, HB3.out⟩
  go_wp2_with fail
  refine (small_of _ h sn _ HHR2 HSN).mono ?_
  rintro e w3 ⟨rfl, hw3⟩
  have HB3 := Lib.hid (below_keep hw3 HB2.out)
  have HG3 := Lib.hid (gat_keep HG2.out hw3)
  have HH3 := Lib.hid (gat_keep HH2.out hw3)
  have HGR3 := Lib.hid (HGR2.out.keep hw3)
  have HHR3 := Lib.hid (HHR2.out.keep hw3)
  clear k0 k1 k2 k3 k4 hw3 HG2 HH2 HGR2 HHR2
  cases sn
  · go_wp2_with fail
    refine (awake_any _).mono ?_
    rintro e w4 ⟨rfl, hw4⟩
    have HB4 := Lib.hid (below_keep hw4 HB3.out)
    clear hw4
    go_wp2
    go_ret
    exact ⟨rfl, HB4.out⟩
  have hes := small_es HSM.out
  obtain ⟨g0, g1, g2, g3, g4⟩ := HG3.out
  obtain ⟨k0, k1, k2, k3, k4⟩ := HH3.out
  go_wp2_with fail
  refine wp_region_held_drew (S := (fun w' => Below w3.heap.size w3 w' ∧ w'.cell? ⟨w.heap.size, 0, none⟩ = some (.string (bb g.nm)) ∧ w'.cell? ⟨w.heap.size, 1, none⟩ = some (.bool g.dir) ∧ w'.cell? ⟨w.heap.size, 2, none⟩ = some (.slice no g.ns.length nc) ∧ w'.cell? ⟨w.heap.size, 3, none⟩ = some (.slice eo g.es.length ec) ∧ w'.cell? ⟨w.heap.size, 4, none⟩ = some (.slice co g.cs.length cc) ∧ w'.cell? ⟨w.heap.size + 1, 0, none⟩ = some (.string (bb h.nm)) ∧ w'.cell? ⟨w.heap.size + 1, 1, none⟩ = some (.bool h.dir) ∧ w'.cell? ⟨w.heap.size + 1, 2, none⟩ = some (.slice mo h.ns.length mc) ∧ w'.cell? ⟨w.heap.size + 1, 3, none⟩ = some (.slice fo h.es.length fc) ∧ w'.cell? ⟨w.heap.size + 1, 4, none⟩ = some (.slice dO h.cs.length dc))) (by kernel_rfl) ⟨(Below.refl _ _).drew, g0, g1, g2, g3, g4, k0, k1, k2, k3, k4⟩ (fun hHeld => ?_)
  refine take_on 0 16 (.agg #[.string (bb g.nm), .bool g.dir, .slice no g.ns.length nc, .slice eo g.es.length ec, .slice co g.cs.length cc]) rfl (by kernel_rfl) (by kernel_rfl) (by kernel_rfl) (fun _ _ _ _ _ h => h) ?_ (by assumption) ?_
  · (rintro oi h; cases h; refine ⟨by rfl, ?_⟩; intro W hSw; try dsimp only at hSw
     go_simp)
  simp only [List.setIfInBounds_toArray, List.set_cons_zero, List.set_cons_succ]
  refine take_on 1 17 (.string s) rfl (by kernel_rfl) (by kernel_rfl) (by kernel_rfl) (fun _ _ _ _ _ h => h) ?_ (by assumption) ?_
  · (rintro oi h; cases h; refine ⟨by rfl, ?_⟩; intro W hSw; try dsimp only at hSw
     go_simp)
  simp only [List.setIfInBounds_toArray, List.set_cons_zero, List.set_cons_succ]
  refine take_on 3 19 (.agg #[.string (bb g.nm), .bool g.dir, .slice no g.ns.length nc, .slice eo g.es.length ec, .slice co g.cs.length cc]) rfl (by kernel_rfl) (by kernel_rfl) (by kernel_rfl) (fun _ _ _ _ _ h => h) ?_ (by assumption) ?_
  · (rintro oi h; cases h; refine ⟨by rfl, ?_⟩; intro W hSw; try dsimp only at hSw
     go_simp)
  simp only [List.setIfInBounds_toArray, List.set_cons_zero, List.set_cons_succ]
  refine take_on 4 20 (.string s) rfl (by kernel_rfl) (by kernel_rfl) (by kernel_rfl) (fun _ _ _ _ _ h => h) ?_ (by assumption) ?_
  · (rintro oi h; cases h; refine ⟨by rfl, ?_⟩; intro W hSw; try dsimp only at hSw
     go_simp)
  simp only [List.setIfInBounds_toArray, List.set_cons_zero, List.set_cons_succ]
  refine wpAnyH_ready (rs := [2]) (by kernel_rfl) (by simp) ?_
  refine AllReadyH.cons rfl (fun K hK => ?_) AllReadyH.nil
  go_simp
  go_at_call 11
  refine (cfind_of _ g s F _ (Lib.hid (HGR3.out.keep hHeld.1)) HF).mono ?_
  rintro e w6 ⟨rfl, hb6⟩
  go_wp2_with fail
  refine hK.out _ _ ?_ (fun hHeld => ?_)
  · exact two_keep hHeld (by assumption)
  clear hK K
  try simp only [List.setIfInBounds_toArray, List.set_cons_zero, List.set_cons_succ]
  refine wpAnyH_ready (rs := [5]) (by kernel_rfl) (by simp) ?_
  refine AllReadyH.cons rfl (fun K hK => ?_) AllReadyH.nil
  go_simp
  go_at_call 12
  refine (gfind_of _ g s F _ (Lib.hid (HGR3.out.keep hHeld.1)) HF).mono ?_
  rintro e w6 ⟨rfl, hb6⟩
  go_wp2_with fail
  refine hK.out _ _ ?_ (fun hHeld => ?_)
  · exact two_keep hHeld (by assumption)
  clear hK K
  try simp only [List.setIfInBounds_toArray, List.set_cons_zero, List.set_cons_succ]
  refine take_on 6 22 (.bool true) rfl (by kernel_rfl) (by kernel_rfl) (by kernel_rfl) (fun _ _ _ _ _ h => h) ?_ (by assumption) ?_
  · (rintro oi h; cases h; refine ⟨by rfl, ?_⟩; intro W hSw; try dsimp only at hSw
     go_simp)
  simp only [List.setIfInBounds_toArray, List.set_cons_zero, List.set_cons_succ]
  refine take_on 7 23 (.bool true) rfl (by kernel_rfl) (by kernel_rfl) (by kernel_rfl) (fun _ _ _ _ _ h => h) ?_ (by assumption) ?_
  · (rintro oi h; cases h; refine ⟨by rfl, ?_⟩; intro W hSw; try dsimp only at hSw
     go_simp)
  simp only [List.setIfInBounds_toArray, List.set_cons_zero, List.set_cons_succ]
  refine take_on 8 24 (.agg #[.string (bb g.nm), .bool g.dir, .slice no g.ns.length nc, .slice eo g.es.length ec, .slice co g.cs.length cc]) rfl (by kernel_rfl) (by kernel_rfl) (by kernel_rfl) (fun _ _ _ _ _ h => h) ?_ (by assumption) ?_
  · (rintro oi h; cases h; refine ⟨by rfl, ?_⟩; intro W hSw; try dsimp only at hSw
     go_simp)
  simp only [List.setIfInBounds_toArray, List.set_cons_zero, List.set_cons_succ]
  refine take_on 10 26 (.agg #[.string (bb g.nm), .bool g.dir, .slice no g.ns.length nc, .slice eo g.es.length ec, .slice co g.cs.length cc]) rfl (by kernel_rfl) (by kernel_rfl) (by kernel_rfl) (fun _ _ _ _ _ h => h) ?_ (by assumption) ?_
  · (rintro oi h; cases h; refine ⟨by rfl, ?_⟩; intro W hSw; try dsimp only at hSw
     go_simp)
  simp only [List.setIfInBounds_toArray, List.set_cons_zero, List.set_cons_succ]
  refine wpAnyH_ready (rs := [9]) (by kernel_rfl) (by simp) ?_
  refine AllReadyH.cons rfl (fun K hK => ?_) AllReadyH.nil
  go_simp
  go_at_call 14
  refine (cSkeleton_of _ g _ (Lib.hid (HGR3.out.keep hHeld.1)) hes).mono ?_
  rintro e wa ⟨va, rfl, hia, hba⟩
  have HIA := Lib.hid hia
  clear hia
  go_wp2_with fail
  refine hK.out _ _ ?_ (fun hHeld => ?_)
  · exact two_keep hHeld (by assumption)
  clear hK K
  try simp only [List.setIfInBounds_toArray, List.set_cons_zero, List.set_cons_succ]
  refine wpAnyH_ready (rs := [11]) (by kernel_rfl) (by simp) ?_
  refine AllReadyH.cons rfl (fun K hK => ?_) AllReadyH.nil
  go_simp
  go_at_call 15
  refine (gSkeleton_of _ g _ (Lib.hid (HGR3.out.keep hHeld.1)) hes).mono ?_
  rintro e wb ⟨vb, rfl, hib, hbb⟩
  have HIA2 := Lib.hid (HIA.out.keep hbb)
  have HIB := Lib.hid hib
  clear hib
  go_wp2_with fail
  refine hK.out _ _ ?_ (fun hHeld => ?_)
  · exact two_keep hHeld (by assumption)
  clear hK K
  try simp only [List.setIfInBounds_toArray, List.set_cons_zero, List.set_cons_succ]
  refine wpAnyH_ready (rs := [12]) (by kernel_rfl) (by simp) ?_
  refine AllReadyH.cons rfl (fun K hK => ?_) AllReadyH.nil
  go_simp
  go_at_call 13
  refine (gsamearcs_of _ _ _ _ _ _ true _ HIA2 HIB (Lib.hid (by simp))).mono ?_
  rintro e w6 ⟨rfl, hb6⟩
  go_wp2_with fail
  refine hK.out _ _ ?_ (fun hHeld => ?_)
  · exact two_keep hHeld (by assumption)
  clear hK K
  try simp only [List.setIfInBounds_toArray, List.set_cons_zero, List.set_cons_succ]
  refine take_on 13 29 (.bool true) rfl (by kernel_rfl) (by kernel_rfl) (by kernel_rfl) (fun _ _ _ _ _ h => h) ?_ (by assumption) ?_
  · (rintro oi h; cases h; refine ⟨by rfl, ?_⟩; intro W hSw; try dsimp only at hSw
     go_simp)
  simp only [List.setIfInBounds_toArray, List.set_cons_zero, List.set_cons_succ]
  refine take_on 14 30 (.bool true) rfl (by kernel_rfl) (by kernel_rfl) (by kernel_rfl) (fun _ _ _ _ _ h => h) ?_ (by assumption) ?_
  · (rintro oi h; cases h; refine ⟨by rfl, ?_⟩; intro W hSw; try dsimp only at hSw
     go_simp)
  simp only [List.setIfInBounds_toArray, List.set_cons_zero, List.set_cons_succ]
  refine take_on 15 31 (.agg #[.string (bb g.nm), .bool g.dir, .slice no g.ns.length nc, .slice eo g.es.length ec, .slice co g.cs.length cc]) rfl (by kernel_rfl) (by kernel_rfl) (by kernel_rfl) (fun _ _ _ _ _ h => h) ?_ (by assumption) ?_
  · (rintro oi h; cases h; refine ⟨by rfl, ?_⟩; intro W hSw; try dsimp only at hSw
     go_simp)
  simp only [List.setIfInBounds_toArray, List.set_cons_zero, List.set_cons_succ]
  refine take_on 16 32 (.agg #[.string (bb h.nm), .bool h.dir, .slice mo h.ns.length mc, .slice fo h.es.length fc, .slice dO h.cs.length dc]) rfl (by kernel_rfl) (by kernel_rfl) (by kernel_rfl) (fun _ _ _ _ _ h => h) ?_ (by assumption) ?_
  · (rintro oi h; cases h; refine ⟨by rfl, ?_⟩; intro W hSw; try dsimp only at hSw
     go_simp)
  simp only [List.setIfInBounds_toArray, List.set_cons_zero, List.set_cons_succ]
  refine take_on 18 34 (.agg #[.string (bb g.nm), .bool g.dir, .slice no g.ns.length nc, .slice eo g.es.length ec, .slice co g.cs.length cc]) rfl (by kernel_rfl) (by kernel_rfl) (by kernel_rfl) (fun _ _ _ _ _ h => h) ?_ (by assumption) ?_
  · (rintro oi h; cases h; refine ⟨by rfl, ?_⟩; intro W hSw; try dsimp only at hSw
     go_simp)
  simp only [List.setIfInBounds_toArray, List.set_cons_zero, List.set_cons_succ]
  refine take_on 19 35 (.agg #[.string (bb h.nm), .bool h.dir, .slice mo h.ns.length mc, .slice fo h.es.length fc, .slice dO h.cs.length dc]) rfl (by kernel_rfl) (by kernel_rfl) (by kernel_rfl) (fun _ _ _ _ _ h => h) ?_ (by assumption) ?_
  · (rintro oi h; cases h; refine ⟨by rfl, ?_⟩; intro W hSw; try dsimp only at hSw
     go_simp)
  simp only [List.setIfInBounds_toArray, List.set_cons_zero, List.set_cons_succ]
  refine wpAnyH_ready (rs := [17]) (by kernel_rfl) (by simp) ?_
  refine AllReadyH.cons rfl (fun K hK => ?_) AllReadyH.nil
  go_simp
  go_at_call 16
  refine (csame_of _ _ g h E _ (Lib.hid (HGR3.out.keep hHeld.1)) (Lib.hid (HHR3.out.keep hHeld.1)) HE).mono ?_
  rintro e w6 ⟨rfl, hb6⟩
  go_wp2_with fail
  refine hK.out _ _ ?_ (fun hHeld => ?_)
  · exact two_keep hHeld (by assumption)
  clear hK K
  try simp only [List.setIfInBounds_toArray, List.set_cons_zero, List.set_cons_succ]
  refine wpAnyH_ready (rs := [20]) (by kernel_rfl) (by simp) ?_
  refine AllReadyH.cons rfl (fun K hK => ?_) AllReadyH.nil
  go_simp
  go_at_call 17
  refine (gsame_of _ _ g h E _ (Lib.hid (HGR3.out.keep hHeld.1)) (Lib.hid (HHR3.out.keep hHeld.1)) HE).mono ?_
  rintro e w6 ⟨rfl, hb6⟩
  go_wp2_with fail
  refine hK.out _ _ ?_ (fun hHeld => ?_)
  · exact two_keep hHeld (by assumption)
  clear hK K
  try simp only [List.setIfInBounds_toArray, List.set_cons_zero, List.set_cons_succ]
  refine take_on 21 37 (.bool true) rfl (by kernel_rfl) (by kernel_rfl) (by kernel_rfl) (fun _ _ _ _ _ h => h) ?_ (by assumption) ?_
  · (rintro oi h; cases h; refine ⟨by rfl, ?_⟩; intro W hSw; try dsimp only at hSw
     go_simp)
  simp only [List.setIfInBounds_toArray, List.set_cons_zero, List.set_cons_succ]
  refine take_on 22 38 (.bool true) rfl (by kernel_rfl) (by kernel_rfl) (by kernel_rfl) (fun _ _ _ _ _ h => h) ?_ (by assumption) ?_
  · (rintro oi h; cases h; refine ⟨by rfl, ?_⟩; intro W hSw; try dsimp only at hSw
     go_simp)
  simp only [List.setIfInBounds_toArray, List.set_cons_zero, List.set_cons_succ]
  refine take_on 23 39 (.bool true) rfl (by kernel_rfl) (by kernel_rfl) (by kernel_rfl) (fun _ _ _ _ _ h => h) ?_ (by assumption) ?_
  · (rintro oi h; cases h; refine ⟨by rfl, ?_⟩; intro W hSw; try dsimp only at hSw
     go_simp)
  simp only [List.setIfInBounds_toArray, List.set_cons_zero, List.set_cons_succ]
  refine take_on 24 40 (.agg #[.string (bb g.nm), .bool g.dir, .slice no g.ns.length nc, .slice eo g.es.length ec, .slice co g.cs.length cc]) rfl (by kernel_rfl) (by kernel_rfl) (by kernel_rfl) (fun _ _ _ _ _ h => h) ?_ (by assumption) ?_
  · (rintro oi h; cases h; refine ⟨by rfl, ?_⟩; intro W hSw; try dsimp only at hSw
     go_simp)
  simp only [List.setIfInBounds_toArray, List.set_cons_zero, List.set_cons_succ]
  refine take_on 25 41 (.agg #[.string (bb g.nm), .bool g.dir, .slice no g.ns.length nc, .slice eo g.es.length ec, .slice co g.cs.length cc]) rfl (by kernel_rfl) (by kernel_rfl) (by kernel_rfl) (fun _ _ _ _ _ h => h) ?_ (by assumption) ?_
  · (rintro oi h; cases h; refine ⟨by rfl, ?_⟩; intro W hSw; try dsimp only at hSw
     go_simp)
  simp only [List.setIfInBounds_toArray, List.set_cons_zero, List.set_cons_succ]
  refine wpAnyH_ready (rs := [26]) (by kernel_rfl) (by simp) ?_
  refine AllReadyH.cons rfl (fun K hK => ?_) AllReadyH.nil
  go_simp
  go_at_call 16
  refine (csame_of _ _ g g true _ (Lib.hid (HGR3.out.keep hHeld.1)) (Lib.hid (HGR3.out.keep hHeld.1)) (Lib.hid (by simp))).mono ?_
  rintro e w6 ⟨rfl, hb6⟩
  go_wp2_with fail
  refine hK.out _ _ ?_ (fun hHeld => ?_)
  · exact two_keep hHeld (by assumption)
  clear hK K
  try simp only [List.setIfInBounds_toArray, List.set_cons_zero, List.set_cons_succ]
  refine take_on 27 43 (.bool true) rfl (by kernel_rfl) (by kernel_rfl) (by kernel_rfl) (fun _ _ _ _ _ h => h) ?_ (by assumption) ?_
  · (rintro oi h; cases h; refine ⟨by rfl, ?_⟩; intro W hSw; try dsimp only at hSw
     go_simp)
  simp only [List.setIfInBounds_toArray, List.set_cons_zero, List.set_cons_succ]
  refine take_on 28 44 (.bool true) rfl (by kernel_rfl) (by kernel_rfl) (by kernel_rfl) (fun _ _ _ _ _ h => h) ?_ (by assumption) ?_
  · (rintro oi h; cases h; refine ⟨by rfl, ?_⟩; intro W hSw; try dsimp only at hSw
     go_simp)
  simp only [List.setIfInBounds_toArray, List.set_cons_zero, List.set_cons_succ]
  refine wpAnyH_ready (rs := [29]) (by kernel_rfl) (by simp) ?_
  refine AllReadyH.cons rfl (fun K hK => ?_) AllReadyH.nil
  go_simp
  go_at_call 8
  refine (awake_any _).mono ?_
  rintro e w6 ⟨rfl, hb6⟩
  go_wp2_with fail
  refine hK.out _ _ ?_ (fun hHeld => ?_)
  · exact two_keep hHeld (by assumption)
  clear hK K
  try simp only [List.setIfInBounds_toArray, List.set_cons_zero, List.set_cons_succ]
  refine take_on 30 46 (.bool true) rfl (by kernel_rfl) (by kernel_rfl) (by kernel_rfl) (fun _ _ _ _ _ h => h) ?_ (by assumption) ?_
  · (rintro oi h; cases h; refine ⟨by rfl, ?_⟩; intro W hSw; try dsimp only at hSw
     go_simp)
  simp only [List.setIfInBounds_toArray, List.set_cons_zero, List.set_cons_succ]
  refine take_on 31 6 (.bool true) rfl (by kernel_rfl) (by kernel_rfl) (by kernel_rfl) (fun _ _ _ _ _ h => h) ?_ (by assumption) ?_
  · (rintro oi h; cases h; refine ⟨by rfl, ?_⟩; intro W hSw; try dsimp only at hSw
     go_simp)
  simp only [List.setIfInBounds_toArray, List.set_cons_zero, List.set_cons_succ]
  refine wpAnyH_done (by kernel_rfl) ?_ _
  have HBZ := Lib.hid (below_keep hHeld.1 HB3.out)
  clear hHeld
  go_wp2
  go_ret
  exact ⟨rfl, HBZ.out⟩
end Go.Proofs.Ytjeacpohanadnaa.gra
