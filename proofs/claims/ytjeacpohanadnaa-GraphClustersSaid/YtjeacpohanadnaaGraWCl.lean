/-
  The walk of the statement GraphClusters of layer 11. Condition: what comes in lies in memory.
-/
import Derived.Test.YtjeacpohanadnaaGraAwk
import Derived.Test.YtjeacpohanadnaaGraRef9
import Derived.Test.YtjeacpohanadnaaGraSmall
import Derived.Deep.RegionHeld3
namespace Go.Proofs.Ytjeacpohanadnaa.gra
open Go.RowKit lex

set_option maxRecDepth 100000 in
set_option maxHeartbeats 16000000 in
theorem wclu (v : Value) (g : Gr) (c a b : Int) (w : World) (h1 : Hid (GrV w v g)) :
    Calls Try.prog 5 #[v, .int .i64 c, .int .i64 a, .int .i64 b] w fun e w' => e = .returned (.bool true) ∧ Below w.heap.size w w' := by
  have hg := h1.out
  obtain ⟨nv, ev, cv, rfl, -, hns, hes, hcs⟩ := h1.out
  obtain ⟨no, nc, rfl, -, -, -⟩ := id hns
  obtain ⟨eo, ec, rfl, -, -, -⟩ := id hes
  obtain ⟨co, cc, rfl, -, -, -⟩ := id hcs
  clear hns hes hcs
  obtain ⟨W1, hW1⟩ : ∃ W1, w.alloc (.cells #[.string (bb g.nm), .bool g.dir, .slice no g.ns.length nc, .slice eo g.es.length ec, .slice co g.cs.length cc] 26) = W1 := ⟨_, rfl⟩
  have HB : Hid (Below w.heap.size w W1) := Lib.hid (by rw [← hW1]; exact al1 ..)
  have HG : Hid (gat W1 w.heap.size (bb g.nm) g.dir (.slice no g.ns.length nc) (.slice eo g.es.length ec) (.slice co g.cs.length cc)) := Lib.hid (by rw [← hW1]; exact gat_new ..)
  have HW1 := Lib.hid hW1
  have HGR := Lib.hid (hg.keep HB.out)
  obtain ⟨sm, hsm⟩ : ∃ b, smallV g = b := ⟨_, rfl⟩
  have HSM := Lib.hid hsm
  obtain ⟨M, hM⟩ : ∃ M, memV g c = M := ⟨_, rfl⟩
  obtain ⟨D, hD⟩ : ∃ D, depthV g c = D := ⟨_, rfl⟩
  obtain ⟨Q, hQ⟩ : ∃ Q, commV g a b = Q := ⟨_, rfl⟩
  have HM := Lib.hid hM
  have HD := Lib.hid hD
  have HQ := Lib.hid hQ
  have zD : (D == D) = true := by simp
  have zQ : (Q == Q) = true := by simp
  clear hW1 hg h1 hsm hM hD hQ
  go_enter Try.func5, Try.ntmps5
  go_wp2_with fail
  rw [HW1.out]
  obtain ⟨g0, g1, g2, g3, g4⟩ := HG.out
  refine (small_of _ g sm _ HGR HSM).mono ?_
  rintro e w2 ⟨rfl, hw2⟩
  have HB2 := Lib.hid (below_keep hw2 HB.out)
  have HG2 := Lib.hid (gat_keep HG.out hw2)
  have HGR2 := Lib.hid (HGR.out.keep hw2)
  clear g0 g1 g2 g3 g4 hw2 HG HGR
  cases sm
  · go_wp2_with fail
    refine (awake_any _).mono ?_
    rintro e w3 ⟨rfl, hw3⟩
    have HB3 := Lib.hid (below_keep hw3 HB2.out)
    clear hw3
    go_wp2
    go_ret
    exact ⟨rfl, HB3.out⟩
  obtain ⟨g0, g1, g2, g3, g4⟩ := HG2.out
  go_wp2_with fail
  refine wp_region_held_drew (S := (fun w' => Below w2.heap.size w2 w' ∧ w'.cell? ⟨w.heap.size, 0, none⟩ = some (.string (bb g.nm)) ∧ w'.cell? ⟨w.heap.size, 1, none⟩ = some (.bool g.dir) ∧ w'.cell? ⟨w.heap.size, 2, none⟩ = some (.slice no g.ns.length nc) ∧ w'.cell? ⟨w.heap.size, 3, none⟩ = some (.slice eo g.es.length ec) ∧ w'.cell? ⟨w.heap.size, 4, none⟩ = some (.slice co g.cs.length cc))) (by kernel_rfl) ⟨(Below.refl _ _).drew, g0, g1, g2, g3, g4⟩ (fun hHeld => ?_)
  refine take_on 0 13 (.agg #[.string (bb g.nm), .bool g.dir, .slice no g.ns.length nc, .slice eo g.es.length ec, .slice co g.cs.length cc]) rfl (by kernel_rfl) (by kernel_rfl) (by kernel_rfl) (fun _ _ _ _ _ h => h) ?_ (by assumption) ?_
  · (rintro oi h; cases h; refine ⟨by rfl, ?_⟩; intro W hSw; try dsimp only at hSw
     go_simp)
  simp only [List.setIfInBounds_toArray, List.set_cons_zero, List.set_cons_succ]
  refine take_on 1 14 (.int .i64 (c)) rfl (by kernel_rfl) (by kernel_rfl) (by kernel_rfl) (fun _ _ _ _ _ h => h) ?_ (by assumption) ?_
  · (rintro oi h; cases h; refine ⟨by rfl, ?_⟩; intro W hSw; try dsimp only at hSw
     go_simp)
  simp only [List.setIfInBounds_toArray, List.set_cons_zero, List.set_cons_succ]
  refine take_on 3 16 (.agg #[.string (bb g.nm), .bool g.dir, .slice no g.ns.length nc, .slice eo g.es.length ec, .slice co g.cs.length cc]) rfl (by kernel_rfl) (by kernel_rfl) (by kernel_rfl) (fun _ _ _ _ _ h => h) ?_ (by assumption) ?_
  · (rintro oi h; cases h; refine ⟨by rfl, ?_⟩; intro W hSw; try dsimp only at hSw
     go_simp)
  simp only [List.setIfInBounds_toArray, List.set_cons_zero, List.set_cons_succ]
  refine take_on 4 17 (.int .i64 (c)) rfl (by kernel_rfl) (by kernel_rfl) (by kernel_rfl) (fun _ _ _ _ _ h => h) ?_ (by assumption) ?_
  · (rintro oi h; cases h; refine ⟨by rfl, ?_⟩; intro W hSw; try dsimp only at hSw
     go_simp)
  simp only [List.setIfInBounds_toArray, List.set_cons_zero, List.set_cons_succ]
  refine wpAnyH_ready (rs := [2]) (by kernel_rfl) (by simp) ?_
  refine AllReadyH.cons rfl (fun K hK => ?_) AllReadyH.nil
  go_simp
  go_at_call 19
  refine (cMembers_of _ g c M _ (Lib.hid (HGR2.out.keep hHeld.1)) HM).mono ?_
  rintro e wa ⟨va, rfl, hia, hba⟩
  have HIA := Lib.hid hia
  clear hia
  go_wp2_with fail
  refine hK.out _ _ ?_ (fun hHeld => ?_)
  · (go_split_ands
     exact ⟨below_keep (by assumption) (by assumption), cell_keep (by assumption) (by assumption), cell_keep (by assumption) (by assumption), cell_keep (by assumption) (by assumption), cell_keep (by assumption) (by assumption), cell_keep (by assumption) (by assumption)⟩)
  clear hK K
  try simp only [List.setIfInBounds_toArray, List.set_cons_zero, List.set_cons_succ]
  refine wpAnyH_ready (rs := [5]) (by kernel_rfl) (by simp) ?_
  refine AllReadyH.cons rfl (fun K hK => ?_) AllReadyH.nil
  go_simp
  go_at_call 20
  refine (gMembers_of _ g c M _ (Lib.hid (HGR2.out.keep hHeld.1)) HM).mono ?_
  rintro e wb ⟨vb, rfl, hib, hbb⟩
  have HIA2 := Lib.hid (HIA.out.keep hbb)
  have HIB := Lib.hid hib
  clear hib
  go_wp2_with fail
  refine hK.out _ _ ?_ (fun hHeld => ?_)
  · (go_split_ands
     exact ⟨below_keep (by assumption) (by assumption), cell_keep (by assumption) (by assumption), cell_keep (by assumption) (by assumption), cell_keep (by assumption) (by assumption), cell_keep (by assumption) (by assumption), cell_keep (by assumption) (by assumption)⟩)
  clear hK K
  try simp only [List.setIfInBounds_toArray, List.set_cons_zero, List.set_cons_succ]
  refine wpAnyH_ready (rs := [6]) (by kernel_rfl) (by simp) ?_
  refine AllReadyH.cons rfl (fun K hK => ?_) AllReadyH.nil
  go_simp
  go_at_call 18
  refine (gsameints_of _ _ M M true _ HIA2 HIB (Lib.hid (by simp))).mono ?_
  rintro e w6 ⟨rfl, hb6⟩
  go_wp2_with fail
  refine hK.out _ _ ?_ (fun hHeld => ?_)
  · (go_split_ands
     exact ⟨below_keep (by assumption) (by assumption), cell_keep (by assumption) (by assumption), cell_keep (by assumption) (by assumption), cell_keep (by assumption) (by assumption), cell_keep (by assumption) (by assumption), cell_keep (by assumption) (by assumption)⟩)
  clear hK K
  try simp only [List.setIfInBounds_toArray, List.set_cons_zero, List.set_cons_succ]
  refine take_on 7 20 (.bool true) rfl (by kernel_rfl) (by kernel_rfl) (by kernel_rfl) (fun _ _ _ _ _ h => h) ?_ (by assumption) ?_
  · (rintro oi h; cases h; refine ⟨by rfl, ?_⟩; intro W hSw; try dsimp only at hSw
     go_simp)
  simp only [List.setIfInBounds_toArray, List.set_cons_zero, List.set_cons_succ]
  refine take_on 8 21 (.agg #[.string (bb g.nm), .bool g.dir, .slice no g.ns.length nc, .slice eo g.es.length ec, .slice co g.cs.length cc]) rfl (by kernel_rfl) (by kernel_rfl) (by kernel_rfl) (fun _ _ _ _ _ h => h) ?_ (by assumption) ?_
  · (rintro oi h; cases h; refine ⟨by rfl, ?_⟩; intro W hSw; try dsimp only at hSw
     go_simp)
  simp only [List.setIfInBounds_toArray, List.set_cons_zero, List.set_cons_succ]
  refine take_on 9 22 (.int .i64 (c)) rfl (by kernel_rfl) (by kernel_rfl) (by kernel_rfl) (fun _ _ _ _ _ h => h) ?_ (by assumption) ?_
  · (rintro oi h; cases h; refine ⟨by rfl, ?_⟩; intro W hSw; try dsimp only at hSw
     go_simp)
  simp only [List.setIfInBounds_toArray, List.set_cons_zero, List.set_cons_succ]
  refine take_on 11 24 (.agg #[.string (bb g.nm), .bool g.dir, .slice no g.ns.length nc, .slice eo g.es.length ec, .slice co g.cs.length cc]) rfl (by kernel_rfl) (by kernel_rfl) (by kernel_rfl) (fun _ _ _ _ _ h => h) ?_ (by assumption) ?_
  · (rintro oi h; cases h; refine ⟨by rfl, ?_⟩; intro W hSw; try dsimp only at hSw
     go_simp)
  simp only [List.setIfInBounds_toArray, List.set_cons_zero, List.set_cons_succ]
  refine take_on 12 25 (.int .i64 (c)) rfl (by kernel_rfl) (by kernel_rfl) (by kernel_rfl) (fun _ _ _ _ _ h => h) ?_ (by assumption) ?_
  · (rintro oi h; cases h; refine ⟨by rfl, ?_⟩; intro W hSw; try dsimp only at hSw
     go_simp)
  simp only [List.setIfInBounds_toArray, List.set_cons_zero, List.set_cons_succ]
  refine wpAnyH_ready (rs := [10]) (by kernel_rfl) (by simp) ?_
  refine AllReadyH.cons rfl (fun K hK => ?_) AllReadyH.nil
  go_simp
  go_at_call 21
  refine (cDepth_of _ g c D _ (Lib.hid (HGR2.out.keep hHeld.1)) HD).mono ?_
  rintro e w6 ⟨rfl, hb6⟩
  go_wp2_with fail
  refine hK.out _ _ ?_ (fun hHeld => ?_)
  · (go_split_ands
     exact ⟨below_keep (by assumption) (by assumption), cell_keep (by assumption) (by assumption), cell_keep (by assumption) (by assumption), cell_keep (by assumption) (by assumption), cell_keep (by assumption) (by assumption), cell_keep (by assumption) (by assumption)⟩)
  clear hK K
  try simp only [List.setIfInBounds_toArray, List.set_cons_zero, List.set_cons_succ]
  refine wpAnyH_ready (rs := [13]) (by kernel_rfl) (by simp) ?_
  refine AllReadyH.cons rfl (fun K hK => ?_) AllReadyH.nil
  go_simp
  go_at_call 22
  refine (gDepth_of _ g c D _ (Lib.hid (HGR2.out.keep hHeld.1)) HD).mono ?_
  rintro e w6 ⟨rfl, hb6⟩
  go_wp2_with fail
  refine hK.out _ _ ?_ (fun hHeld => ?_)
  · (go_split_ands
     exact ⟨below_keep (by assumption) (by assumption), cell_keep (by assumption) (by assumption), cell_keep (by assumption) (by assumption), cell_keep (by assumption) (by assumption), cell_keep (by assumption) (by assumption), cell_keep (by assumption) (by assumption)⟩)
  clear hK K
  try simp only [List.setIfInBounds_toArray, List.set_cons_zero, List.set_cons_succ]
  refine take_on 14 27 (.bool true) rfl (by kernel_rfl) (by kernel_rfl) (by kernel_rfl) (fun _ _ _ _ _ h => h) ?_ (by assumption) ?_
  · (rintro oi h; cases h; refine ⟨by rfl, ?_⟩; intro W hSw; try dsimp only at hSw
     go_simp)
  simp only [List.setIfInBounds_toArray, List.set_cons_zero, List.set_cons_succ]
  refine take_on 15 28 (.bool true) rfl (by kernel_rfl) (by kernel_rfl) (by kernel_rfl) (fun _ _ _ _ _ h => h) ?_ (by assumption) ?_
  · (rintro oi h; cases h; refine ⟨by rfl, ?_⟩; intro W hSw; try dsimp only at hSw
     go_simp)
  simp only [List.setIfInBounds_toArray, List.set_cons_zero, List.set_cons_succ]
  refine take_on 16 29 (.bool true) rfl (by kernel_rfl) (by kernel_rfl) (by kernel_rfl) (fun _ _ _ _ _ h => h) ?_ (by assumption) ?_
  · (rintro oi h; cases h; refine ⟨by rfl, ?_⟩; intro W hSw; try dsimp only at hSw
     go_simp)
  simp only [List.setIfInBounds_toArray, List.set_cons_zero, List.set_cons_succ]
  refine take_on 17 30 (.agg #[.string (bb g.nm), .bool g.dir, .slice no g.ns.length nc, .slice eo g.es.length ec, .slice co g.cs.length cc]) rfl (by kernel_rfl) (by kernel_rfl) (by kernel_rfl) (fun _ _ _ _ _ h => h) ?_ (by assumption) ?_
  · (rintro oi h; cases h; refine ⟨by rfl, ?_⟩; intro W hSw; try dsimp only at hSw
     go_simp)
  simp only [List.setIfInBounds_toArray, List.set_cons_zero, List.set_cons_succ]
  refine take_on 18 31 (.int .i64 (a)) rfl (by kernel_rfl) (by kernel_rfl) (by kernel_rfl) (fun _ _ _ _ _ h => h) ?_ (by assumption) ?_
  · (rintro oi h; cases h; refine ⟨by rfl, ?_⟩; intro W hSw; try dsimp only at hSw
     go_simp)
  simp only [List.setIfInBounds_toArray, List.set_cons_zero, List.set_cons_succ]
  refine take_on 19 32 (.int .i64 (b)) rfl (by kernel_rfl) (by kernel_rfl) (by kernel_rfl) (fun _ _ _ _ _ h => h) ?_ (by assumption) ?_
  · (rintro oi h; cases h; refine ⟨by rfl, ?_⟩; intro W hSw; try dsimp only at hSw
     go_simp)
  simp only [List.setIfInBounds_toArray, List.set_cons_zero, List.set_cons_succ]
  refine take_on 21 34 (.agg #[.string (bb g.nm), .bool g.dir, .slice no g.ns.length nc, .slice eo g.es.length ec, .slice co g.cs.length cc]) rfl (by kernel_rfl) (by kernel_rfl) (by kernel_rfl) (fun _ _ _ _ _ h => h) ?_ (by assumption) ?_
  · (rintro oi h; cases h; refine ⟨by rfl, ?_⟩; intro W hSw; try dsimp only at hSw
     go_simp)
  simp only [List.setIfInBounds_toArray, List.set_cons_zero, List.set_cons_succ]
  refine take_on 22 35 (.int .i64 (a)) rfl (by kernel_rfl) (by kernel_rfl) (by kernel_rfl) (fun _ _ _ _ _ h => h) ?_ (by assumption) ?_
  · (rintro oi h; cases h; refine ⟨by rfl, ?_⟩; intro W hSw; try dsimp only at hSw
     go_simp)
  simp only [List.setIfInBounds_toArray, List.set_cons_zero, List.set_cons_succ]
  refine take_on 23 36 (.int .i64 (b)) rfl (by kernel_rfl) (by kernel_rfl) (by kernel_rfl) (fun _ _ _ _ _ h => h) ?_ (by assumption) ?_
  · (rintro oi h; cases h; refine ⟨by rfl, ?_⟩; intro W hSw; try dsimp only at hSw
     go_simp)
  simp only [List.setIfInBounds_toArray, List.set_cons_zero, List.set_cons_succ]
  refine wpAnyH_ready (rs := [20]) (by kernel_rfl) (by simp) ?_
  refine AllReadyH.cons rfl (fun K hK => ?_) AllReadyH.nil
  go_simp
  go_at_call 23
  refine (cCommon_of _ g a b Q _ (Lib.hid (HGR2.out.keep hHeld.1)) HQ).mono ?_
  rintro e w6 ⟨rfl, hb6⟩
  go_wp2_with fail
  refine hK.out _ _ ?_ (fun hHeld => ?_)
  · (go_split_ands
     exact ⟨below_keep (by assumption) (by assumption), cell_keep (by assumption) (by assumption), cell_keep (by assumption) (by assumption), cell_keep (by assumption) (by assumption), cell_keep (by assumption) (by assumption), cell_keep (by assumption) (by assumption)⟩)
  clear hK K
  try simp only [List.setIfInBounds_toArray, List.set_cons_zero, List.set_cons_succ]
  refine wpAnyH_ready (rs := [24]) (by kernel_rfl) (by simp) ?_
  refine AllReadyH.cons rfl (fun K hK => ?_) AllReadyH.nil
  go_simp
  go_at_call 24
  refine (gCommon_of _ g a b Q _ (Lib.hid (HGR2.out.keep hHeld.1)) HQ).mono ?_
  rintro e w6 ⟨rfl, hb6⟩
  go_wp2_with fail
  refine hK.out _ _ ?_ (fun hHeld => ?_)
  · (go_split_ands
     exact ⟨below_keep (by assumption) (by assumption), cell_keep (by assumption) (by assumption), cell_keep (by assumption) (by assumption), cell_keep (by assumption) (by assumption), cell_keep (by assumption) (by assumption), cell_keep (by assumption) (by assumption)⟩)
  clear hK K
  try simp only [List.setIfInBounds_toArray, List.set_cons_zero, List.set_cons_succ]
  refine take_on 25 38 (.bool true) rfl (by kernel_rfl) (by kernel_rfl) (by kernel_rfl) (fun _ _ _ _ _ h => h) ?_ (by assumption) ?_
  · (rintro oi h; cases h; refine ⟨by rfl, ?_⟩; intro W hSw; try dsimp only at hSw
     go_simp)
  simp only [List.setIfInBounds_toArray, List.set_cons_zero, List.set_cons_succ]
  refine take_on 26 39 (.bool true) rfl (by kernel_rfl) (by kernel_rfl) (by kernel_rfl) (fun _ _ _ _ _ h => h) ?_ (by assumption) ?_
  · (rintro oi h; cases h; refine ⟨by rfl, ?_⟩; intro W hSw; try dsimp only at hSw
     go_simp)
  simp only [List.setIfInBounds_toArray, List.set_cons_zero, List.set_cons_succ]
  refine take_on 27 40 (.bool true) rfl (by kernel_rfl) (by kernel_rfl) (by kernel_rfl) (fun _ _ _ _ _ h => h) ?_ (by assumption) ?_
  · (rintro oi h; cases h; refine ⟨by rfl, ?_⟩; intro W hSw; try dsimp only at hSw
     go_simp)
  simp only [List.setIfInBounds_toArray, List.set_cons_zero, List.set_cons_succ]
  refine wpAnyH_ready (rs := [28]) (by kernel_rfl) (by simp) ?_
  refine AllReadyH.cons rfl (fun K hK => ?_) AllReadyH.nil
  go_simp
  go_at_call 8
  refine (awake_any _).mono ?_
  rintro e w6 ⟨rfl, hb6⟩
  go_wp2_with fail
  refine hK.out _ _ ?_ (fun hHeld => ?_)
  · (go_split_ands
     exact ⟨below_keep (by assumption) (by assumption), cell_keep (by assumption) (by assumption), cell_keep (by assumption) (by assumption), cell_keep (by assumption) (by assumption), cell_keep (by assumption) (by assumption), cell_keep (by assumption) (by assumption)⟩)
  clear hK K
  try simp only [List.setIfInBounds_toArray, List.set_cons_zero, List.set_cons_succ]
  refine take_on 29 42 (.bool true) rfl (by kernel_rfl) (by kernel_rfl) (by kernel_rfl) (fun _ _ _ _ _ h => h) ?_ (by assumption) ?_
  · (rintro oi h; cases h; refine ⟨by rfl, ?_⟩; intro W hSw; try dsimp only at hSw
     go_simp)
  simp only [List.setIfInBounds_toArray, List.set_cons_zero, List.set_cons_succ]
  refine take_on 30 8 (.bool true) rfl (by kernel_rfl) (by kernel_rfl) (by kernel_rfl) (fun _ _ _ _ _ h => h) ?_ (by assumption) ?_
  · (rintro oi h; cases h; refine ⟨by rfl, ?_⟩; intro W hSw; try dsimp only at hSw
     go_simp)
  simp only [List.setIfInBounds_toArray, List.set_cons_zero, List.set_cons_succ]
  refine wpAnyH_done (by kernel_rfl) ?_ _
  go_split_ands
  go_wp2
  go_ret
  exact ⟨rfl, below_keep (w1 := w2) (by assumption) HB2.out⟩
end Go.Proofs.Ytjeacpohanadnaa.gra
