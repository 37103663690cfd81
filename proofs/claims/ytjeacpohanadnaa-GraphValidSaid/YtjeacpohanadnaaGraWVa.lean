/-
  The walk of the statement GraphValid of layer 11. Condition: what comes in lies in memory.
-/
import Derived.Test.YtjeacpohanadnaaGraAwk
import Derived.Test.YtjeacpohanadnaaGraSmall
import Derived.Deep.RegionHeld3
namespace Go.Proofs.Ytjeacpohanadnaa.gra
open Go.RowKit lex

set_option maxRecDepth 100000 in
set_option maxHeartbeats 16000000 in
theorem wval (v : Value) (g : Gr) (w : World) (h1 : Hid (GrV w v g)) :
    Calls Try.prog 3 #[v] w fun e w' => e = .returned (.bool true) ∧ Below w.heap.size w w' := by
  have hg := h1.out
  obtain ⟨nv, ev, cv, rfl, -, hns, hes, hcs⟩ := h1.out
  obtain ⟨no, nc, rfl, -, -, -⟩ := id hns
  obtain ⟨eo, ec, rfl, -, -, -⟩ := id hes
  obtain ⟨co, cc, rfl, -, -, -⟩ := id hcs
  clear hns hes hcs
  obtain ⟨W1, hW1⟩ : ∃ W1, w.alloc (.cells #[.string (bb g.nm), .bool g.dir, .slice no g.ns.length nc, .slice eo g.es.length ec, .slice co g.cs.length cc] 26) = W1 := ⟨_, rfl⟩
  have HB : Hid (Below w.heap.size w W1) := Lib.hid (by rw [← hW1]; exact al1 ..)
  have HG : Hid (gat W1 w.heap.size (bb g.nm) g.dir (.slice no g.ns.length nc) (.slice eo g.es.length ec) (.slice co g.cs.length cc)) := Lib.hid (by rw [← hW1]; exact gat_new ..)
  have HW1 := Lib.hid hW1
  have HGR := Lib.hid (hg.keep HB.out)
  obtain ⟨sm, hsm⟩ : ∃ b, smallV g = b := ⟨_, rfl⟩
  obtain ⟨V, hV⟩ : ∃ V, validE g = V := ⟨_, rfl⟩
  have HSM := Lib.hid hsm
  have HV := Lib.hid hV
  have zV : (V == V) = true := by simp
  clear hW1 hg h1 hsm hV
  go_enter Try.func3, Try.ntmps3
  go_wp2_with fail
  rw [HW1.out]
  obtain ⟨g0, g1, g2, g3, g4⟩ := HG.out
  cases sm
  case false =>
    refine wp_region_held_drew (S := (fun w' => Below W1.heap.size W1 w' ∧ w'.cell? ⟨w.heap.size, 0, none⟩ = some (.string (bb g.nm)) ∧ w'.cell? ⟨w.heap.size, 1, none⟩ = some (.bool g.dir) ∧ w'.cell? ⟨w.heap.size, 2, none⟩ = some (.slice no g.ns.length nc) ∧ w'.cell? ⟨w.heap.size, 3, none⟩ = some (.slice eo g.es.length ec) ∧ w'.cell? ⟨w.heap.size, 4, none⟩ = some (.slice co g.cs.length cc))) (by kernel_rfl) ⟨(Below.refl _ _).drew, g0, g1, g2, g3, g4⟩ (fun hHeld => ?_)
    refine take_on 0 3 (.agg #[.string (bb g.nm), .bool g.dir, .slice no g.ns.length nc, .slice eo g.es.length ec, .slice co g.cs.length cc]) rfl (by kernel_rfl) (by kernel_rfl) (by kernel_rfl) (fun _ _ _ _ _ h => h) ?_ (by assumption) ?_
    · (rintro oi h; cases h; refine ⟨by rfl, ?_⟩; intro W hSw; try dsimp only at hSw
       go_simp)
    simp only [List.setIfInBounds_toArray, List.set_cons_zero, List.set_cons_succ]
    refine wpAnyH_ready (rs := [1]) (by kernel_rfl) (by simp) ?_
    refine AllReadyH.cons rfl (fun K hK => ?_) AllReadyH.nil
    go_simp
    go_at_call 7
    refine (small_of _ g false _ (Lib.hid (HGR.out.keep hHeld.1)) HSM).mono ?_
    rintro e w6 ⟨rfl, hb6⟩
    go_wp2_with fail
    refine hK.out _ _ ?_ (fun hHeld => ?_)
    · (go_split_ands
       exact ⟨below_keep (by assumption) (by assumption), cell_keep (by assumption) (by assumption), cell_keep (by assumption) (by assumption), cell_keep (by assumption) (by assumption), cell_keep (by assumption) (by assumption), cell_keep (by assumption) (by assumption)⟩)
    clear hK K
    try simp only [List.setIfInBounds_toArray, List.set_cons_zero, List.set_cons_succ]
    refine take_on 2 5 (.bool true) rfl (by kernel_rfl) (by kernel_rfl) (by kernel_rfl) (fun _ _ _ _ _ h => h) ?_ (by assumption) ?_
    · (rintro oi h; cases h; refine ⟨by rfl, ?_⟩; intro W hSw; try dsimp only at hSw
       go_simp)
    simp only [List.setIfInBounds_toArray, List.set_cons_zero, List.set_cons_succ]
    refine take_on 3 6 (.bool true) rfl (by kernel_rfl) (by kernel_rfl) (by kernel_rfl) (fun _ _ _ _ _ h => h) ?_ (by assumption) ?_
    · (rintro oi h; cases h; refine ⟨by rfl, ?_⟩; intro W hSw; try dsimp only at hSw
       go_simp)
    simp only [List.setIfInBounds_toArray, List.set_cons_zero, List.set_cons_succ]
    refine wpAnyH_ready (rs := [4]) (by kernel_rfl) (by simp) ?_
    refine AllReadyH.cons rfl (fun K hK => ?_) AllReadyH.nil
    go_simp
    go_at_call 8
    refine (awake_any _).mono ?_
    rintro e w6 ⟨rfl, hb6⟩
    go_wp2_with fail
    refine hK.out _ _ ?_ (fun hHeld => ?_)
    · (go_split_ands
       exact ⟨below_keep (by assumption) (by assumption), cell_keep (by assumption) (by assumption), cell_keep (by assumption) (by assumption), cell_keep (by assumption) (by assumption), cell_keep (by assumption) (by assumption), cell_keep (by assumption) (by assumption)⟩)
    clear hK K
    try simp only [List.setIfInBounds_toArray, List.set_cons_zero, List.set_cons_succ]
    refine take_on 5 8 (.bool true) rfl (by kernel_rfl) (by kernel_rfl) (by kernel_rfl) (fun _ _ _ _ _ h => h) ?_ (by assumption) ?_
    · (rintro oi h; cases h; refine ⟨by rfl, ?_⟩; intro W hSw; try dsimp only at hSw
       go_simp)
    simp only [List.setIfInBounds_toArray, List.set_cons_zero, List.set_cons_succ]
    refine take_on 6 9 (.bool true) rfl (by kernel_rfl) (by kernel_rfl) (by kernel_rfl) (fun _ _ _ _ _ h => h) ?_ (by assumption) ?_
    · (rintro oi h; cases h; refine ⟨by rfl, ?_⟩; intro W hSw; try dsimp only at hSw
       go_simp)
    simp only [List.setIfInBounds_toArray, List.set_cons_zero, List.set_cons_succ]
    refine take_off [7, 8, 9, 10, 11, 12, 13, 14, 15, 16, 17, 18] (by kernel_rfl) (fun _ _ _ _ _ h => h) (by assumption) _ _ (by kernel_rfl) ?_ ?_
    · simp only [List.mem_cons, List.not_mem_nil, or_false, forall_eq_or_imp, forall_eq]
      exact ⟨⟨_, _, rfl, rfl, rfl, rfl⟩, ⟨_, _, rfl, rfl, rfl, rfl⟩, ⟨_, _, rfl, rfl, rfl, rfl⟩, ⟨_, _, rfl, rfl, rfl, rfl⟩, ⟨_, _, rfl, rfl, rfl, rfl⟩, ⟨_, _, rfl, rfl, rfl, rfl⟩, ⟨_, _, rfl, rfl, rfl, rfl⟩, ⟨_, _, rfl, rfl, rfl, rfl⟩, ⟨_, _, rfl, rfl, rfl, rfl⟩, ⟨_, _, rfl, rfl, rfl, rfl⟩, ⟨_, _, rfl, rfl, rfl, rfl⟩, ⟨_, _, rfl, rfl, rfl, rfl⟩⟩
    simp only [List.foldl_cons, List.foldl_nil]
    refine take_on 19 22 (.bool true) rfl (by kernel_rfl) (by kernel_rfl) (by kernel_rfl) (fun _ _ _ _ _ h => h) ?_ (by assumption) ?_
    · (rintro oi h; cases h; refine ⟨by rfl, ?_⟩; intro W hSw; try dsimp only at hSw
       go_simp)
    simp only [List.setIfInBounds_toArray, List.set_cons_zero, List.set_cons_succ]
    refine take_on 20 2 (.bool true) rfl (by kernel_rfl) (by kernel_rfl) (by kernel_rfl) (fun _ _ _ _ _ h => h) ?_ (by assumption) ?_
    · (rintro oi h; cases h; refine ⟨by rfl, ?_⟩; intro W hSw; try dsimp only at hSw
       go_simp)
    simp only [List.setIfInBounds_toArray, List.set_cons_zero, List.set_cons_succ]
    refine wpAnyH_done (by kernel_rfl) ?_ _
    go_split_ands
    go_wp2
    go_ret
    exact ⟨rfl, below_keep (w1 := W1) (by assumption) HB.out⟩
  case true =>
    refine wp_region_held_drew (S := (fun w' => Below W1.heap.size W1 w' ∧ w'.cell? ⟨w.heap.size, 0, none⟩ = some (.string (bb g.nm)) ∧ w'.cell? ⟨w.heap.size, 1, none⟩ = some (.bool g.dir) ∧ w'.cell? ⟨w.heap.size, 2, none⟩ = some (.slice no g.ns.length nc) ∧ w'.cell? ⟨w.heap.size, 3, none⟩ = some (.slice eo g.es.length ec) ∧ w'.cell? ⟨w.heap.size, 4, none⟩ = some (.slice co g.cs.length cc))) (by kernel_rfl) ⟨(Below.refl _ _).drew, g0, g1, g2, g3, g4⟩ (fun hHeld => ?_)
    refine take_on 0 3 (.agg #[.string (bb g.nm), .bool g.dir, .slice no g.ns.length nc, .slice eo g.es.length ec, .slice co g.cs.length cc]) rfl (by kernel_rfl) (by kernel_rfl) (by kernel_rfl) (fun _ _ _ _ _ h => h) ?_ (by assumption) ?_
    · (rintro oi h; cases h; refine ⟨by rfl, ?_⟩; intro W hSw; try dsimp only at hSw
       go_simp)
    simp only [List.setIfInBounds_toArray, List.set_cons_zero, List.set_cons_succ]
    refine wpAnyH_ready (rs := [1]) (by kernel_rfl) (by simp) ?_
    refine AllReadyH.cons rfl (fun K hK => ?_) AllReadyH.nil
    go_simp
    go_at_call 7
    refine (small_of _ g true _ (Lib.hid (HGR.out.keep hHeld.1)) HSM).mono ?_
    rintro e w6 ⟨rfl, hb6⟩
    go_wp2_with fail
    refine hK.out _ _ ?_ (fun hHeld => ?_)
    · (go_split_ands
       exact ⟨below_keep (by assumption) (by assumption), cell_keep (by assumption) (by assumption), cell_keep (by assumption) (by assumption), cell_keep (by assumption) (by assumption), cell_keep (by assumption) (by assumption), cell_keep (by assumption) (by assumption)⟩)
    clear hK K
    try simp only [List.setIfInBounds_toArray, List.set_cons_zero, List.set_cons_succ]
    refine take_on 2 5 (.bool false) rfl (by kernel_rfl) (by kernel_rfl) (by kernel_rfl) (fun _ _ _ _ _ h => h) ?_ (by assumption) ?_
    · (rintro oi h; cases h; refine ⟨by rfl, ?_⟩; intro W hSw; try dsimp only at hSw
       go_simp)
    simp only [List.setIfInBounds_toArray, List.set_cons_zero, List.set_cons_succ]
    refine take_on 3 6 (.bool false) rfl (by kernel_rfl) (by kernel_rfl) (by kernel_rfl) (fun _ _ _ _ _ h => h) ?_ (by assumption) ?_
    · (rintro oi h; cases h; refine ⟨by rfl, ?_⟩; intro W hSw; try dsimp only at hSw
       go_simp)
    simp only [List.setIfInBounds_toArray, List.set_cons_zero, List.set_cons_succ]
    refine take_off [4] (by kernel_rfl) (fun _ _ _ _ _ h => h) (by assumption) _ _ (by kernel_rfl) ?_ ?_
    · simp only [List.mem_cons, List.not_mem_nil, or_false, forall_eq]
      exact ⟨_, _, rfl, rfl, rfl, rfl⟩
    simp only [List.foldl_cons, List.foldl_nil]
    refine take_on 5 8 (.bool false) rfl (by kernel_rfl) (by kernel_rfl) (by kernel_rfl) (fun _ _ _ _ _ h => h) ?_ (by assumption) ?_
    · (rintro oi h; cases h; refine ⟨by rfl, ?_⟩; intro W hSw; try dsimp only at hSw
       go_simp)
    simp only [List.setIfInBounds_toArray, List.set_cons_zero, List.set_cons_succ]
    refine take_on 6 9 (.bool false) rfl (by kernel_rfl) (by kernel_rfl) (by kernel_rfl) (fun _ _ _ _ _ h => h) ?_ (by assumption) ?_
    · (rintro oi h; cases h; refine ⟨by rfl, ?_⟩; intro W hSw; try dsimp only at hSw
       go_simp)
    simp only [List.setIfInBounds_toArray, List.set_cons_zero, List.set_cons_succ]
    refine take_on 7 10 (.agg #[.string (bb g.nm), .bool g.dir, .slice no g.ns.length nc, .slice eo g.es.length ec, .slice co g.cs.length cc]) rfl (by kernel_rfl) (by kernel_rfl) (by kernel_rfl) (fun _ _ _ _ _ h => h) ?_ (by assumption) ?_
    · (rintro oi h; cases h; refine ⟨by rfl, ?_⟩; intro W hSw; try dsimp only at hSw
       go_simp)
    simp only [List.setIfInBounds_toArray, List.set_cons_zero, List.set_cons_succ]
    refine wpAnyH_ready (rs := [8]) (by kernel_rfl) (by simp) ?_
    refine AllReadyH.cons rfl (fun K hK => ?_) AllReadyH.nil
    go_simp
    go_at_call 7
    refine (small_of _ g true _ (Lib.hid (HGR.out.keep hHeld.1)) HSM).mono ?_
    rintro e w6 ⟨rfl, hb6⟩
    go_wp2_with fail
    refine hK.out _ _ ?_ (fun hHeld => ?_)
    · (go_split_ands
       exact ⟨below_keep (by assumption) (by assumption), cell_keep (by assumption) (by assumption), cell_keep (by assumption) (by assumption), cell_keep (by assumption) (by assumption), cell_keep (by assumption) (by assumption), cell_keep (by assumption) (by assumption)⟩)
    clear hK K
    try simp only [List.setIfInBounds_toArray, List.set_cons_zero, List.set_cons_succ]
    refine take_on 9 12 (.bool true) rfl (by kernel_rfl) (by kernel_rfl) (by kernel_rfl) (fun _ _ _ _ _ h => h) ?_ (by assumption) ?_
    · (rintro oi h; cases h; refine ⟨by rfl, ?_⟩; intro W hSw; try dsimp only at hSw
       go_simp)
    simp only [List.setIfInBounds_toArray, List.set_cons_zero, List.set_cons_succ]
    refine take_on 10 13 (.agg #[.string (bb g.nm), .bool g.dir, .slice no g.ns.length nc, .slice eo g.es.length ec, .slice co g.cs.length cc]) rfl (by kernel_rfl) (by kernel_rfl) (by kernel_rfl) (fun _ _ _ _ _ h => h) ?_ (by assumption) ?_
    · (rintro oi h; cases h; refine ⟨by rfl, ?_⟩; intro W hSw; try dsimp only at hSw
       go_simp)
    simp only [List.setIfInBounds_toArray, List.set_cons_zero, List.set_cons_succ]
    refine take_on 12 15 (.agg #[.string (bb g.nm), .bool g.dir, .slice no g.ns.length nc, .slice eo g.es.length ec, .slice co g.cs.length cc]) rfl (by kernel_rfl) (by kernel_rfl) (by kernel_rfl) (fun _ _ _ _ _ h => h) ?_ (by assumption) ?_
    · (rintro oi h; cases h; refine ⟨by rfl, ?_⟩; intro W hSw; try dsimp only at hSw
       go_simp)
    simp only [List.setIfInBounds_toArray, List.set_cons_zero, List.set_cons_succ]
    refine wpAnyH_ready (rs := [11]) (by kernel_rfl) (by simp) ?_
    refine AllReadyH.cons rfl (fun K hK => ?_) AllReadyH.nil
    go_simp
    go_at_call 9
    refine (cvalid_of _ g V _ (Lib.hid (HGR.out.keep hHeld.1)) HV).mono ?_
    rintro e w6 ⟨rfl, hb6⟩
    go_wp2_with fail
    refine hK.out _ _ ?_ (fun hHeld => ?_)
    · (go_split_ands
       exact ⟨below_keep (by assumption) (by assumption), cell_keep (by assumption) (by assumption), cell_keep (by assumption) (by assumption), cell_keep (by assumption) (by assumption), cell_keep (by assumption) (by assumption), cell_keep (by assumption) (by assumption)⟩)
    clear hK K
    try simp only [List.setIfInBounds_toArray, List.set_cons_zero, List.set_cons_succ]
    refine wpAnyH_ready (rs := [13]) (by kernel_rfl) (by simp) ?_
    refine AllReadyH.cons rfl (fun K hK => ?_) AllReadyH.nil
    go_simp
    go_at_call 10
    refine (gvalid_of _ g V _ (Lib.hid (HGR.out.keep hHeld.1)) HV).mono ?_
    rintro e w6 ⟨rfl, hb6⟩
    go_wp2_with fail
    refine hK.out _ _ ?_ (fun hHeld => ?_)
    · (go_split_ands
       exact ⟨below_keep (by assumption) (by assumption), cell_keep (by assumption) (by assumption), cell_keep (by assumption) (by assumption), cell_keep (by assumption) (by assumption), cell_keep (by assumption) (by assumption), cell_keep (by assumption) (by assumption)⟩)
    clear hK K
    try simp only [List.setIfInBounds_toArray, List.set_cons_zero, List.set_cons_succ]
    refine take_on 14 17 (.bool true) rfl (by kernel_rfl) (by kernel_rfl) (by kernel_rfl) (fun _ _ _ _ _ h => h) ?_ (by assumption) ?_
    · (rintro oi h; cases h; refine ⟨by rfl, ?_⟩; intro W hSw; try dsimp only at hSw
       go_simp)
    simp only [List.setIfInBounds_toArray, List.set_cons_zero, List.set_cons_succ]
    refine take_on 15 18 (.bool true) rfl (by kernel_rfl) (by kernel_rfl) (by kernel_rfl) (fun _ _ _ _ _ h => h) ?_ (by assumption) ?_
    · (rintro oi h; cases h; refine ⟨by rfl, ?_⟩; intro W hSw; try dsimp only at hSw
       go_simp)
    simp only [List.setIfInBounds_toArray, List.set_cons_zero, List.set_cons_succ]
    refine take_on 16 19 (.bool true) rfl (by kernel_rfl) (by kernel_rfl) (by kernel_rfl) (fun _ _ _ _ _ h => h) ?_ (by assumption) ?_
    · (rintro oi h; cases h; refine ⟨by rfl, ?_⟩; intro W hSw; try dsimp only at hSw
       go_simp)
    simp only [List.setIfInBounds_toArray, List.set_cons_zero, List.set_cons_succ]
    refine wpAnyH_ready (rs := [17]) (by kernel_rfl) (by simp) ?_
    refine AllReadyH.cons rfl (fun K hK => ?_) AllReadyH.nil
    go_simp
    go_at_call 8
    refine (awake_any _).mono ?_
    rintro e w6 ⟨rfl, hb6⟩
    go_wp2_with fail
    refine hK.out _ _ ?_ (fun hHeld => ?_)
    · (go_split_ands
       exact ⟨below_keep (by assumption) (by assumption), cell_keep (by assumption) (by assumption), cell_keep (by assumption) (by assumption), cell_keep (by assumption) (by assumption), cell_keep (by assumption) (by assumption), cell_keep (by assumption) (by assumption)⟩)
    clear hK K
    try simp only [List.setIfInBounds_toArray, List.set_cons_zero, List.set_cons_succ]
    refine take_on 18 21 (.bool true) rfl (by kernel_rfl) (by kernel_rfl) (by kernel_rfl) (fun _ _ _ _ _ h => h) ?_ (by assumption) ?_
    · (rintro oi h; cases h; refine ⟨by rfl, ?_⟩; intro W hSw; try dsimp only at hSw
       go_simp)
    simp only [List.setIfInBounds_toArray, List.set_cons_zero, List.set_cons_succ]
    refine take_on 19 22 (.bool true) rfl (by kernel_rfl) (by kernel_rfl) (by kernel_rfl) (fun _ _ _ _ _ h => h) ?_ (by assumption) ?_
    · (rintro oi h; cases h; refine ⟨by rfl, ?_⟩; intro W hSw; try dsimp only at hSw
       go_simp)
    simp only [List.setIfInBounds_toArray, List.set_cons_zero, List.set_cons_succ]
    refine take_on 20 2 (.bool true) rfl (by kernel_rfl) (by kernel_rfl) (by kernel_rfl) (fun _ _ _ _ _ h => h) ?_ (by assumption) ?_
    · (rintro oi h; cases h; refine ⟨by rfl, ?_⟩; intro W hSw; try dsimp only at hSw
       go_simp)
    simp only [List.setIfInBounds_toArray, List.set_cons_zero, List.set_cons_succ]
    refine wpAnyH_done (by kernel_rfl) ?_ _
    go_split_ands
    go_wp2
    go_ret
    exact ⟨rfl, below_keep (w1 := W1) (by assumption) HB.out⟩
end Go.Proofs.Ytjeacpohanadnaa.gra
