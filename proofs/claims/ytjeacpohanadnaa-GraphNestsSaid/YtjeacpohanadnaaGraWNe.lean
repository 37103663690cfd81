/-
  The walk of the statement GraphNests of layer 11. Condition: what comes in lies in memory.
-/
import Derived.Test.YtjeacpohanadnaaGraAwk
import Derived.Test.YtjeacpohanadnaaGraSmall
import Derived.Deep.RegionHeld3
namespace Go.Proofs.Ytjeacpohanadnaa.gra
open Go.RowKit lex

theorem six_keep {w0 w w' : World} {p0 p1 p2 p3 p4 q0 : Addr} {u0 u1 u2 u3 u4 v0 : Value}
    (h : Below w0.heap.size w0 w ∧ w.cell? p0 = some u0 ∧ w.cell? p1 = some u1 ∧ w.cell? p2 = some u2 ∧ w.cell? p3 = some u3 ∧ w.cell? p4 = some u4 ∧ w.cell? q0 = some v0) (hb : Below w.heap.size w w') :
    Below w0.heap.size w0 w' ∧ w'.cell? p0 = some u0 ∧ w'.cell? p1 = some u1 ∧ w'.cell? p2 = some u2 ∧ w'.cell? p3 = some u3 ∧ w'.cell? p4 = some u4 ∧ w'.cell? q0 = some v0 := by
  obtain ⟨h0, a0, a1, a2, a3, a4, b0⟩ := h
  exact ⟨below_keep hb h0, cell_later' hb a0, cell_later' hb a1, cell_later' hb a2, cell_later' hb a3, cell_later' hb a4, cell_later' hb b0⟩
theorem same_below {w w' : World} (h : w = w') : Below w.heap.size w w' := by subst h; exact Below.refl _ _
theorem memsK_has (g : Gr) (c : Int) (n k : Nat) : (memsK g c n).contains (k : Int) = (decide (k < n) && has g c k) := by
  rw [Bool.eq_iff_iff]
  simp only [memsK, List.contains_iff_mem, List.mem_map, List.mem_filter, List.mem_range, Bool.and_eq_true, decide_eq_true_eq]
  exact ⟨fun ⟨j, h, e⟩ => by have : j = k := by omega
                             subst this; exact h, fun h => ⟨k, h, rfl⟩⟩
theorem memsK_mem {g : Gr} {c : Int} {n : Nat} {y : Int} (h : y ∈ memsK g c n) : ∃ k : Nat, y = (k : Int) ∧ k < n ∧ has g c k = true := by
  simp only [memsK, List.mem_map, List.mem_filter, List.mem_range] at h
  obtain ⟨k, ⟨h1, h2⟩, rfl⟩ := h
  exact ⟨k, rfl, h1, h2⟩
theorem memV_ok {g : Gr} {c : Int} (hv : validE g = 0) (h0 : -1 ≤ c) (h1 : c < (g.cs.length : Int)) : memV g c = memsK g c g.ns.length := by
  unfold memV; rw [if_neg (by rw [hv]; omega)]
theorem commV_ok {g : Gr} {a b : Nat} (hv : validE g = 0) (ha : a < g.ns.length) (hb : b < g.ns.length) : commV g a b = comm g a b := by
  unfold commV; rw [if_neg (by rw [hv]; omega)]; simp
set_option maxRecDepth 100000 in
set_option maxHeartbeats 32000000 in
theorem wnes (v : Value) (g : Gr) (a b : Int) (w : World) (h1 : Hid (GrV w v g)) :
    Calls Try.prog 6 #[v, .int .i64 a, .int .i64 b] w fun e w' => e = .returned (.bool true) ∧ Below w.heap.size w w' := by
  have hg := h1.out
  obtain ⟨nv, ev, cv, rfl, -, hns, hes, hcs⟩ := h1.out
  obtain ⟨no, nc, rfl, hq0, hq1, -⟩ := id hns
  obtain ⟨eo, ec, rfl, -, -, -⟩ := id hes
  obtain ⟨co, cc, rfl, hq2, hq3, -⟩ := id hcs
  unfold maxLen at hq1 hq3
  have hnm : g.ns.length ≤ 9223372036854775807 := by omega
  have hcm : g.cs.length ≤ 9223372036854775807 := by omega
  have HNS := Lib.hid hns
  have HCS := Lib.hid hcs
  clear hns hes hcs hq0 hq1 hq2 hq3
  obtain ⟨W1, hW1⟩ : ∃ W1, w.alloc (.cells #[.string (bb g.nm), .bool g.dir, .slice no g.ns.length nc, .slice eo g.es.length ec, .slice co g.cs.length cc] 26) = W1 := ⟨_, rfl⟩
  have HB : Hid (Below w.heap.size w W1) := Lib.hid (by rw [← hW1]; exact al1 ..)
  have HG : Hid (gat W1 w.heap.size (bb g.nm) g.dir (.slice no g.ns.length nc) (.slice eo g.es.length ec) (.slice co g.cs.length cc)) := Lib.hid (by rw [← hW1]; exact gat_new ..)
  have HW1 := Lib.hid hW1
  have HGG := Lib.hid hg
  have HGR := Lib.hid (hg.keep HB.out)
  obtain ⟨sm, hsm⟩ : ∃ b, smallV g = b := ⟨_, rfl⟩
  have HSM := Lib.hid hsm
  obtain ⟨V, hV⟩ : ∃ V, validE g = V := ⟨_, rfl⟩
  have HV := Lib.hid hV
  clear hW1 hg h1 hsm hV
  go_enter Try.func6, Try.ntmps6
  go_wp2_with fail
  rw [HW1.out]
  obtain ⟨g0, g1, g2, g3, g4⟩ := HG.out
  refine (small_of _ g sm _ HGR HSM).mono ?_
  rintro e w2 ⟨rfl, hw2⟩
  have HB2 := Lib.hid (below_keep hw2 HB.out)
  have HG2 := Lib.hid (gat_keep HG.out hw2)
  have HGR2 := Lib.hid (HGR.out.keep hw2)
  clear g0 g1 g2 g3 g4 hw2 HG HGR
  cases sm
  case false =>
    go_wp2_with fail
    refine (awake_any _).mono ?_
    rintro e wz ⟨rfl, hwz⟩
    have HBZ := Lib.hid (below_keep hwz HB2.out)
    clear hwz
    go_wp2
    go_ret
    exact ⟨rfl, HBZ.out⟩
  obtain ⟨g0, g1, g2, g3, g4⟩ := HG2.out
  by_cases l20 : 20 < g.ns.length
  · have z20 : (20 : Int) < (g.ns.length : Int) := by omega
    clear l20
    go_wp2_with fail
    refine (awake_any _).mono ?_
    rintro e wz ⟨rfl, hwz⟩
    have HBZ := Lib.hid (below_keep hwz HB2.out)
    clear hwz
    go_wp2
    go_ret
    exact ⟨rfl, HBZ.out⟩
  have z20 : ¬ (20 : Int) < (g.ns.length : Int) := by omega
  have zz : decide ((20 : Int) < (g.ns.length : Int)) = false := by rw [decide_eq_false_iff_not]; exact z20
  go_wp2_with fail
  refine (gvalid_of _ g V _ HGR2 HV).mono ?_
  rintro e w3 ⟨rfl, hw3⟩
  have HB3 := Lib.hid (below_keep hw3 HB2.out)
  have HG3 := Lib.hid (gat_keep HG2.out hw3)
  have HGR3 := Lib.hid (HGR2.out.keep hw3)
  clear g0 g1 g2 g3 g4 hw3 HG2 HGR2 l20
  obtain ⟨g0, g1, g2, g3, g4⟩ := HG3.out
  by_cases v0 : V = 0
  case neg =>
    have y0 : (V != 0) = true := by rw [bne_iff_ne]; exact v0
    clear v0
    go_wp2_with fail
    refine (awake_any _).mono ?_
    rintro e wz ⟨rfl, hwz⟩
    have HBZ := Lib.hid (below_keep hwz HB3.out)
    clear hwz
    go_wp2
    go_ret
    exact ⟨rfl, HBZ.out⟩
  have y0 : (V != 0) = false := by rw [v0]; rfl
  by_cases a0 : a < 0
  · clear v0
    go_wp2_with fail
    refine (awake_any _).mono ?_
    rintro e wz ⟨rfl, hwz⟩
    have HBZ := Lib.hid (below_keep hwz HB3.out)
    clear hwz
    go_wp2
    go_ret
    exact ⟨rfl, HBZ.out⟩
  obtain ⟨x, rfl⟩ : ∃ x : Nat, a = (x : Int) := ⟨a.toNat, by omega⟩
  have d0 : decide ((x : Int) < 0) = false := by simp
  by_cases a1 : g.ns.length ≤ x
  · have d1 : decide (g.ns.length ≤ x) = true := by rw [decide_eq_true_eq]; exact a1
    clear v0 a0 a1
    go_wp2_with fail
    refine (awake_any _).mono ?_
    rintro e wz ⟨rfl, hwz⟩
    have HBZ := Lib.hid (below_keep hwz HB3.out)
    clear hwz
    go_wp2
    go_ret
    exact ⟨rfl, HBZ.out⟩
  have d1 : decide (g.ns.length ≤ x) = false := by rw [decide_eq_false_iff_not]; exact a1
  by_cases b0 : b < 0
  · clear v0 a0 a1
    go_wp2_with fail
    refine (awake_any _).mono ?_
    rintro e wz ⟨rfl, hwz⟩
    have HBZ := Lib.hid (below_keep hwz HB3.out)
    clear hwz
    go_wp2
    go_ret
    exact ⟨rfl, HBZ.out⟩
  obtain ⟨y, rfl⟩ : ∃ y : Nat, b = (y : Int) := ⟨b.toNat, by omega⟩
  have d2 : decide ((y : Int) < 0) = false := by simp
  by_cases b1 : g.ns.length ≤ y
  · have d3 : decide (g.ns.length ≤ y) = true := by rw [decide_eq_true_eq]; exact b1
    clear v0 a0 a1 b0 b1
    go_wp2_with fail
    refine (awake_any _).mono ?_
    rintro e wz ⟨rfl, hwz⟩
    have HBZ := Lib.hid (below_keep hwz HB3.out)
    clear hwz
    go_wp2
    go_ret
    exact ⟨rfl, HBZ.out⟩
  have d3 : decide (g.ns.length ≤ y) = false := by rw [decide_eq_false_iff_not]; exact b1
  have hx : x < g.ns.length := by omega
  have hy : y < g.ns.length := by omega
  have hval := HV.out.trans v0
  have hvw := valid_wf g hval
  have HWF := Lib.hid hvw.1
  have hbh := best_has g x y g.cs.length
  have hsym := comm_symm g y x
  have hself := comm_self g hvw.1 x (hvw.2 x hx)
  obtain ⟨m, hm⟩ : ∃ m, comm g x y = m := ⟨_, rfl⟩
  have hm' : bestF g x y g.cs.length (-1) = m := hm
  rw [hm'] at hbh
  rw [hm] at hsym
  obtain ⟨cx, hcx⟩ : ∃ cx, clOf g x = cx := ⟨_, rfl⟩
  rw [hcx] at hself
  have HC1 : Hid (commV g x y = m) := Lib.hid (by rw [commV_ok hval hx hy]; exact hm)
  have HC2 : Hid (commV g y x = m) := Lib.hid (by rw [commV_ok hval hy hx]; exact hsym)
  have HC3 : Hid (commV g x x = cx) := Lib.hid (by rw [commV_ok hval hx hx]; exact hself)
  obtain ⟨I, hI⟩ : ∃ I, memsK g m g.ns.length = I := ⟨_, rfl⟩
  have HM : Hid (memV g m = I) := Lib.hid (by rw [memV_ok hval hbh.2.1 hbh.1]; exact hI)
  have HA1 : Hid (I.contains (x : Int) = true) := Lib.hid (by rw [← hI, memsK_has, hbh.2.2.1]; simp [hx])
  have HA2 : Hid (I.contains (y : Int) = true) := Lib.hid (by rw [← hI, memsK_has, hbh.2.2.2]; simp [hy])
  have HMEM : Hid (∀ (c : Nat), c < g.cs.length → memV g c = memsK g c g.ns.length ∧ (∀ u, g.cs[c]?.map (·.2) = some u → memV g u = memsK g u g.ns.length ∧ ∀ z ∈ memsK g c g.ns.length, (memsK g u g.ns.length).contains z = true) ∧
      ((memsK g c g.ns.length).contains (x : Int) = true → (memsK g c g.ns.length).contains (y : Int) = true → ∀ z ∈ I, (memsK g c g.ns.length).contains z = true)) := Lib.hid (by
    intro c hc
    refine ⟨memV_ok hval (by omega) (by omega), fun u hu => ?_, fun h1 h2 z hz => ?_⟩
    · rw [List.getElem?_eq_getElem hc] at hu
      have hu' : g.cs[c].2 = u := by simpa using hu
      have hun := up_neg _ hvw.1 (c : Int) (by omega)
      rw [up_at hc, hu'] at hun
      refine ⟨memV_ok hval hun.1 (by omega), fun z hz => ?_⟩
      obtain ⟨k, rfl, hk, hh⟩ := memsK_mem hz
      have := has_up g hvw.1 c k (by omega) hh
      rw [up_at hc, hu'] at this
      rw [memsK_has, this]; simp [hk]
    · rw [memsK_has] at h1 h2
      simp only [Bool.and_eq_true, decide_eq_true_eq] at h1 h2
      rw [← hI] at hz
      obtain ⟨k, rfl, hk, hh⟩ := memsK_mem hz
      rw [memsK_has, comm_in g hvw.1 x y c hc h1.2 h2.2 k (by rw [hm]; exact hh)]; simp [hk])
  have HCX : Hid (clOf g x = cx) := Lib.hid hcx
  have hln : (memsK g m g.ns.length).length ≤ g.ns.length := memsK_len _ _ _
  rw [hI] at hln
  clear hval hvw hbh hsym hself hm hm' hcx hI v0 a0 a1 b0 b1 hln
  go_wp2_with fail
  refine (cCommon_of _ g x y m _ HGR3 HC1).mono ?_
  rintro e w4 ⟨rfl, hw4⟩
  have HB4 := Lib.hid (below_keep hw4 HB3.out)
  have HG4 := Lib.hid (gat_keep HG3.out hw4)
  have HGR4 := Lib.hid (HGR3.out.keep hw4)
  clear g0 g1 g2 g3 g4 hw4 HG3 HGR3 y0 d0 d1 d2 d3 z20 zz
  obtain ⟨g0, g1, g2, g3, g4⟩ := HG4.out
  go_wp2_with fail
  refine (cMembers_of _ g m I _ HGR4 HM).mono ?_
  rintro e w5 ⟨vi, rfl, hvi, hw5⟩
  have HB5 := Lib.hid (below_keep hw5 HB4.out)
  have HG5 := Lib.hid (gat_keep HG4.out hw5)
  have HGR5 := Lib.hid (HGR4.out.keep hw5)
  obtain ⟨io, ic, rfl, hii0, hii1, -⟩ := id hvi
  unfold maxLen at hii1
  have hIl : I.length ≤ 9223372036854775807 := by omega
  have HVI := Lib.hid hvi
  clear g0 g1 g2 g3 g4 hw5 HG4 HGR4 hvi hii0 hii1
  obtain ⟨g0, g1, g2, g3, g4⟩ := HG5.out
  have hgx := (HNS.out.keep HB5.out).get hx
  have ex : g.ns[x].cl = cx := by rw [← HCX.out]; unfold clOf; rw [List.getElem?_eq_getElem hx]
  obtain ⟨A, rfl, -, -, -, -, q4, -⟩ := hgx
  rw [ex] at q4
  have x0 : (0 : Int) ≤ (x : Int) := by omega
  have x1 : (x : Int) < (g.ns.length : Int) := by omega
  have zm : (m != m) = false := by simp
  have zc : (cx != cx) = false := by simp
  clear ex
  go_wp2_with fail
  refine wp_region_held_drew (S := (fun w' => Below w5.heap.size w5 w' ∧ w'.cell? ⟨w.heap.size, 0, none⟩ = some (.string (bb g.nm)) ∧ w'.cell? ⟨w.heap.size, 1, none⟩ = some (.bool g.dir) ∧ w'.cell? ⟨w.heap.size, 2, none⟩ = some (.slice (some A) g.ns.length nc) ∧ w'.cell? ⟨w.heap.size, 3, none⟩ = some (.slice eo g.es.length ec) ∧ w'.cell? ⟨w.heap.size, 4, none⟩ = some (.slice co g.cs.length cc) ∧ w'.cell? ⟨(A.add (x * 6)).block, (A.add (x * 6)).off + 4, none⟩ = some (.int .i64 cx))) (by kernel_rfl) ⟨(Below.refl _ _).drew, g0, g1, g2, g3, g4, q4⟩ (fun hHeld => ?_)
  refine take_on 0 58 (.slice io I.length ic) rfl (by kernel_rfl) (by kernel_rfl) (by kernel_rfl) (fun _ _ _ _ _ h => h) ?_ (by assumption) ?_
  · (rintro oi h; cases h; refine ⟨by rfl, ?_⟩; intro W hSw; try dsimp only at hSw
     go_simp)
  simp only [List.setIfInBounds_toArray, List.set_cons_zero, List.set_cons_succ]
  refine take_on 1 59 (.int .i64 ((x : Int))) rfl (by kernel_rfl) (by kernel_rfl) (by kernel_rfl) (fun _ _ _ _ _ h => h) ?_ (by assumption) ?_
  · (rintro oi h; cases h; refine ⟨by rfl, ?_⟩; intro W hSw; try dsimp only at hSw
     go_simp)
  simp only [List.setIfInBounds_toArray, List.set_cons_zero, List.set_cons_succ]
  refine wpAnyH_ready (rs := [2]) (by kernel_rfl) (by simp) ?_
  refine AllReadyH.cons rfl (fun K hK => ?_) AllReadyH.nil
  go_simp
  go_at_call 25
  have hk6 := lhas_of _ I (x : Int) true _ (Lib.hid (HVI.out.keep hHeld.1)) HA1
  refine hk6.mono ?_
  rintro e w6 ⟨rfl, hq6⟩
  have hb6 := same_below hq6
  clear hk6 hq6
  go_wp2_with fail
  refine hK.out _ _ ?_ (fun hHeld => ?_)
  · exact six_keep hHeld (by assumption)
  clear hK K
  try simp only [List.setIfInBounds_toArray, List.set_cons_zero, List.set_cons_succ]
  refine take_on 3 61 (.bool false) rfl (by kernel_rfl) (by kernel_rfl) (by kernel_rfl) (fun _ _ _ _ _ h => h) ?_ (by assumption) ?_
  · (rintro oi h; cases h; refine ⟨by rfl, ?_⟩; intro W hSw; try dsimp only at hSw
     go_simp)
  simp only [List.setIfInBounds_toArray, List.set_cons_zero, List.set_cons_succ]
  refine take_on 4 62 (.bool false) rfl (by kernel_rfl) (by kernel_rfl) (by kernel_rfl) (fun _ _ _ _ _ h => h) ?_ (by assumption) ?_
  · (rintro oi h; cases h; refine ⟨by rfl, ?_⟩; intro W hSw; try dsimp only at hSw
     go_simp)
  simp only [List.setIfInBounds_toArray, List.set_cons_zero, List.set_cons_succ]
  refine take_on 5 63 (.slice io I.length ic) rfl (by kernel_rfl) (by kernel_rfl) (by kernel_rfl) (fun _ _ _ _ _ h => h) ?_ (by assumption) ?_
  · (rintro oi h; cases h; refine ⟨by rfl, ?_⟩; intro W hSw; try dsimp only at hSw
     go_simp)
  simp only [List.setIfInBounds_toArray, List.set_cons_zero, List.set_cons_succ]
  refine take_on 6 64 (.int .i64 ((y : Int))) rfl (by kernel_rfl) (by kernel_rfl) (by kernel_rfl) (fun _ _ _ _ _ h => h) ?_ (by assumption) ?_
  · (rintro oi h; cases h; refine ⟨by rfl, ?_⟩; intro W hSw; try dsimp only at hSw
     go_simp)
  simp only [List.setIfInBounds_toArray, List.set_cons_zero, List.set_cons_succ]
  refine wpAnyH_ready (rs := [7]) (by kernel_rfl) (by simp) ?_
  refine AllReadyH.cons rfl (fun K hK => ?_) AllReadyH.nil
  go_simp
  go_at_call 25
  have hk6 := lhas_of _ I (y : Int) true _ (Lib.hid (HVI.out.keep hHeld.1)) HA2
  refine hk6.mono ?_
  rintro e w6 ⟨rfl, hq6⟩
  have hb6 := same_below hq6
  clear hk6 hq6
  go_wp2_with fail
  refine hK.out _ _ ?_ (fun hHeld => ?_)
  · exact six_keep hHeld (by assumption)
  clear hK K
  try simp only [List.setIfInBounds_toArray, List.set_cons_zero, List.set_cons_succ]
  refine take_on 8 66 (.bool false) rfl (by kernel_rfl) (by kernel_rfl) (by kernel_rfl) (fun _ _ _ _ _ h => h) ?_ (by assumption) ?_
  · (rintro oi h; cases h; refine ⟨by rfl, ?_⟩; intro W hSw; try dsimp only at hSw
     go_simp)
  simp only [List.setIfInBounds_toArray, List.set_cons_zero, List.set_cons_succ]
  refine take_on 9 67 (.bool false) rfl (by kernel_rfl) (by kernel_rfl) (by kernel_rfl) (fun _ _ _ _ _ h => h) ?_ (by assumption) ?_
  · (rintro oi h; cases h; refine ⟨by rfl, ?_⟩; intro W hSw; try dsimp only at hSw
     go_simp)
  simp only [List.setIfInBounds_toArray, List.set_cons_zero, List.set_cons_succ]
  refine take_on 10 68 (.bool false) rfl (by kernel_rfl) (by kernel_rfl) (by kernel_rfl) (fun _ _ _ _ _ h => h) ?_ (by assumption) ?_
  · (rintro oi h; cases h; refine ⟨by rfl, ?_⟩; intro W hSw; try dsimp only at hSw
     go_simp)
  simp only [List.setIfInBounds_toArray, List.set_cons_zero, List.set_cons_succ]
  refine take_on 11 69 (.int .i64 (m)) rfl (by kernel_rfl) (by kernel_rfl) (by kernel_rfl) (fun _ _ _ _ _ h => h) ?_ (by assumption) ?_
  · (rintro oi h; cases h; refine ⟨by rfl, ?_⟩; intro W hSw; try dsimp only at hSw
     go_simp)
  simp only [List.setIfInBounds_toArray, List.set_cons_zero, List.set_cons_succ]
  refine take_on 12 70 (.agg #[.string (bb g.nm), .bool g.dir, .slice (some A) g.ns.length nc, .slice eo g.es.length ec, .slice co g.cs.length cc]) rfl (by kernel_rfl) (by kernel_rfl) (by kernel_rfl) (fun _ _ _ _ _ h => h) ?_ (by assumption) ?_
  · (rintro oi h; cases h; refine ⟨by rfl, ?_⟩; intro W hSw; try dsimp only at hSw
     go_simp)
  simp only [List.setIfInBounds_toArray, List.set_cons_zero, List.set_cons_succ]
  refine take_on 13 71 (.int .i64 ((y : Int))) rfl (by kernel_rfl) (by kernel_rfl) (by kernel_rfl) (fun _ _ _ _ _ h => h) ?_ (by assumption) ?_
  · (rintro oi h; cases h; refine ⟨by rfl, ?_⟩; intro W hSw; try dsimp only at hSw
     go_simp)
  simp only [List.setIfInBounds_toArray, List.set_cons_zero, List.set_cons_succ]
  refine take_on 14 72 (.int .i64 ((x : Int))) rfl (by kernel_rfl) (by kernel_rfl) (by kernel_rfl) (fun _ _ _ _ _ h => h) ?_ (by assumption) ?_
  · (rintro oi h; cases h; refine ⟨by rfl, ?_⟩; intro W hSw; try dsimp only at hSw
     go_simp)
  simp only [List.setIfInBounds_toArray, List.set_cons_zero, List.set_cons_succ]
  refine wpAnyH_ready (rs := [15]) (by kernel_rfl) (by simp) ?_
  refine AllReadyH.cons rfl (fun K hK => ?_) AllReadyH.nil
  go_simp
  go_at_call 23
  refine (cCommon_of _ g y x m _ (Lib.hid (HGR5.out.keep hHeld.1)) HC2).mono ?_
  rintro e w6 ⟨rfl, hb6⟩
  go_wp2_with fail
  refine hK.out _ _ ?_ (fun hHeld => ?_)
  · exact six_keep hHeld (by assumption)
  clear hK K
  try simp only [List.setIfInBounds_toArray, List.set_cons_zero, List.set_cons_succ]
  refine take_on 16 74 (.bool false) rfl (by kernel_rfl) (by kernel_rfl) (by kernel_rfl) (fun _ _ _ _ _ h => h) ?_ (by assumption) ?_
  · (rintro oi h; cases h; refine ⟨by rfl, ?_⟩; intro W hSw; try dsimp only at hSw
     go_simp)
  simp only [List.setIfInBounds_toArray, List.set_cons_zero, List.set_cons_succ]
  refine take_on 17 75 (.bool false) rfl (by kernel_rfl) (by kernel_rfl) (by kernel_rfl) (fun _ _ _ _ _ h => h) ?_ (by assumption) ?_
  · (rintro oi h; cases h; refine ⟨by rfl, ?_⟩; intro W hSw; try dsimp only at hSw
     go_simp)
  simp only [List.setIfInBounds_toArray, List.set_cons_zero, List.set_cons_succ]
  refine take_on 18 76 (.bool false) rfl (by kernel_rfl) (by kernel_rfl) (by kernel_rfl) (fun _ _ _ _ _ h => h) ?_ (by assumption) ?_
  · (rintro oi h; cases h; refine ⟨by rfl, ?_⟩; intro W hSw; try dsimp only at hSw
     go_simp)
  simp only [List.setIfInBounds_toArray, List.set_cons_zero, List.set_cons_succ]
  refine take_on 19 77 (.agg #[.string (bb g.nm), .bool g.dir, .slice (some A) g.ns.length nc, .slice eo g.es.length ec, .slice co g.cs.length cc]) rfl (by kernel_rfl) (by kernel_rfl) (by kernel_rfl) (fun _ _ _ _ _ h => h) ?_ (by assumption) ?_
  · (rintro oi h; cases h; refine ⟨by rfl, ?_⟩; intro W hSw; try dsimp only at hSw
     go_simp)
  simp only [List.setIfInBounds_toArray, List.set_cons_zero, List.set_cons_succ]
  refine take_on 20 78 (.int .i64 ((x : Int))) rfl (by kernel_rfl) (by kernel_rfl) (by kernel_rfl) (fun _ _ _ _ _ h => h) ?_ (by assumption) ?_
  · (rintro oi h; cases h; refine ⟨by rfl, ?_⟩; intro W hSw; try dsimp only at hSw
     go_simp)
  simp only [List.setIfInBounds_toArray, List.set_cons_zero, List.set_cons_succ]
  refine take_on 21 79 (.int .i64 ((x : Int))) rfl (by kernel_rfl) (by kernel_rfl) (by kernel_rfl) (fun _ _ _ _ _ h => h) ?_ (by assumption) ?_
  · (rintro oi h; cases h; refine ⟨by rfl, ?_⟩; intro W hSw; try dsimp only at hSw
     go_simp)
  simp only [List.setIfInBounds_toArray, List.set_cons_zero, List.set_cons_succ]
  refine take_on 23 81 (.pointer (some ⟨w.heap.size, 2, none⟩)) rfl (by kernel_rfl) (by kernel_rfl) (by kernel_rfl) (fun _ _ _ _ _ h => h) ?_ (by assumption) ?_
  · (rintro oi h; cases h; refine ⟨by rfl, ?_⟩; intro W hSw; try dsimp only at hSw
     go_simp)
  simp only [List.setIfInBounds_toArray, List.set_cons_zero, List.set_cons_succ]
  refine take_on 24 82 (.slice (some A) g.ns.length nc) rfl (by kernel_rfl) (by kernel_rfl) (by kernel_rfl) (fun _ _ _ _ _ h => h) ?_ (by assumption) ?_
  · (rintro oi h; cases h; refine ⟨by rfl, ?_⟩; intro W hSw; try dsimp only at hSw
     go_simp)
  simp only [List.setIfInBounds_toArray, List.set_cons_zero, List.set_cons_succ]
  refine take_on 25 83 (.int .i64 ((x : Int))) rfl (by kernel_rfl) (by kernel_rfl) (by kernel_rfl) (fun _ _ _ _ _ h => h) ?_ (by assumption) ?_
  · (rintro oi h; cases h; refine ⟨by rfl, ?_⟩; intro W hSw; try dsimp only at hSw
     go_simp)
  simp only [List.setIfInBounds_toArray, List.set_cons_zero, List.set_cons_succ]
  refine take_on 26 84 (.pointer (some (A.add (x * 6)))) rfl (by kernel_rfl) (by kernel_rfl) (by kernel_rfl) (fun _ _ _ _ _ h => h) ?_ (by assumption) ?_
  · (rintro oi h; cases h; refine ⟨by rfl, ?_⟩; intro W hSw; try dsimp only at hSw
     go_simp)
  simp only [List.setIfInBounds_toArray, List.set_cons_zero, List.set_cons_succ]
  refine take_on 27 85 (.pointer (some ⟨(A.add (x * 6)).block, (A.add (x * 6)).off + 4, none⟩)) rfl (by kernel_rfl) (by kernel_rfl) (by kernel_rfl) (fun _ _ _ _ _ h => h) ?_ (by assumption) ?_
  · (rintro oi h; cases h; refine ⟨by rfl, ?_⟩; intro W hSw; try dsimp only at hSw
     go_simp)
  simp only [List.setIfInBounds_toArray, List.set_cons_zero, List.set_cons_succ]
  refine take_on 28 86 (.int .i64 (cx)) rfl (by kernel_rfl) (by kernel_rfl) (by kernel_rfl) (fun _ _ _ _ _ h => h) ?_ (by assumption) ?_
  · (rintro oi h; cases h; refine ⟨by rfl, ?_⟩; intro W hSw; try dsimp only at hSw
     go_simp)
  simp only [List.setIfInBounds_toArray, List.set_cons_zero, List.set_cons_succ]
  refine wpAnyH_ready (rs := [22]) (by kernel_rfl) (by simp) ?_
  refine AllReadyH.cons rfl (fun K hK => ?_) AllReadyH.nil
  go_simp
  go_at_call 23
  refine (cCommon_of _ g x x cx _ (Lib.hid (HGR5.out.keep hHeld.1)) HC3).mono ?_
  rintro e w8 ⟨rfl, hb6⟩
  go_wp2_with fail
  refine hK.out _ _ ?_ (fun hHeld => ?_)
  · exact six_keep hHeld (by assumption)
  clear hK K
  try simp only [List.setIfInBounds_toArray, List.set_cons_zero, List.set_cons_succ]
  refine take_on 29 87 (.bool false) rfl (by kernel_rfl) (by kernel_rfl) (by kernel_rfl) (fun _ _ _ _ _ h => h) ?_ (by assumption) ?_
  · (rintro oi h; cases h; refine ⟨by rfl, ?_⟩; intro W hSw; try dsimp only at hSw
     go_simp)
  simp only [List.setIfInBounds_toArray, List.set_cons_zero, List.set_cons_succ]
  refine take_on 30 88 (.bool false) rfl (by kernel_rfl) (by kernel_rfl) (by kernel_rfl) (fun _ _ _ _ _ h => h) ?_ (by assumption) ?_
  · (rintro oi h; cases h; refine ⟨by rfl, ?_⟩; intro W hSw; try dsimp only at hSw
     go_simp)
  simp only [List.setIfInBounds_toArray, List.set_cons_zero, List.set_cons_succ]
  refine wpAnyH_done (by kernel_rfl) ?_ _
  have hB6 := hHeld.1
  have HB6 := Lib.hid (below_keep hB6 HB5.out)
  have HG6 := Lib.hid (gat_keep HG5.out hB6)
  have HGR6 := Lib.hid (HGR5.out.keep hB6)
  have HVI6 := Lib.hid (HVI.out.keep hB6)
  clear hHeld g0 g1 g2 g3 g4 q4 zm zc hB6 HG5 HGR5 HVI HC1 HC2 HC3 HM HA1 HA2
  clear x0 x1 hx hy
  go_wp2_with fail
  go_loopw [9] (fun cv wr => ∃ c : Nat, cv = .int .i64 c ∧ c ≤ g.cs.length ∧ Below w8.heap.size w8 wr) (fun cv _ => g.cs.length - (intOf cv).toNat)
  case atStart => exact ⟨0, rfl, Nat.zero_le _, Below.refl _ _⟩
  case round =>
    obtain ⟨c, rfl, hc, hB⟩ := hrel
    rename World => wr
    have HBr := Lib.hid (below_keep hB HB6.out)
    have HGr := Lib.hid (gat_keep HG6.out hB)
    have HGRr := Lib.hid (HGR6.out.keep hB)
    have HVIr := Lib.hid (HVI6.out.keep hB)
    have HBo := Lib.hid hB
    clear hB
    obtain ⟨g0, g1, g2, g3, g4⟩ := HGr.out
    by_cases hlt : c < g.cs.length
    case neg =>
      obtain rfl : c = g.cs.length := by omega
      go_wp2_with fail
      refine (awake_any _).mono ?_
      rintro e wz ⟨rfl, hwz⟩
      have HBZ := Lib.hid (below_keep hwz HBr.out)
      clear hwz
      go_wp2
      go_ret
      exact ⟨rfl, HBZ.out⟩
    have hget := (HCS.out.keep HBr.out).get hlt
    obtain ⟨hme, hup, hin⟩ := HMEM.out c hlt
    obtain ⟨u, hu⟩ : ∃ u, g.cs[c].2 = u := ⟨_, rfl⟩
    obtain ⟨hmu, hup2⟩ := hup u (by rw [List.getElem?_eq_getElem hlt, ← hu]; rfl)
    obtain ⟨B, rfl, -, q1, -⟩ := hget
    rw [hu] at q1
    obtain ⟨Lc, hL⟩ : ∃ Lc, memsK g c g.ns.length = Lc := ⟨_, rfl⟩
    obtain ⟨Uc, hU⟩ : ∃ Uc, memsK g u g.ns.length = Uc := ⟨_, rfl⟩
    rw [hL] at hme hup2 hin
    rw [hU] at hmu hup2
    have HML := Lib.hid hme
    have HMU := Lib.hid hmu
    have HUP := Lib.hid hup2
    have HIN := Lib.hid hin
    have c0 : (0 : Int) ≤ (c : Int) := by omega
    have c1 : (c : Int) < (g.cs.length : Int) := by omega
    have HLT := Lib.hid hlt
    clear hme hup hin hmu hup2 hu hL hU
    go_wp2_with fail
    refine wp_region_held_drew (S := (fun w' => Below wr.heap.size wr w' ∧ w'.cell? ⟨w.heap.size, 0, none⟩ = some (.string (bb g.nm)) ∧ w'.cell? ⟨w.heap.size, 1, none⟩ = some (.bool g.dir) ∧ w'.cell? ⟨w.heap.size, 2, none⟩ = some (.slice (some A) g.ns.length nc) ∧ w'.cell? ⟨w.heap.size, 3, none⟩ = some (.slice eo g.es.length ec) ∧ w'.cell? ⟨w.heap.size, 4, none⟩ = some (.slice (some B) g.cs.length cc) ∧ w'.cell? ⟨(B.add (c * 2)).block, (B.add (c * 2)).off + 1, none⟩ = some (.int .i64 u))) (by kernel_rfl) ⟨(Below.refl _ _).drew, g0, g1, g2, g3, g4, q1⟩ (fun hHeld => ?_)
    refine take_on 0 96 (.agg #[.string (bb g.nm), .bool g.dir, .slice (some A) g.ns.length nc, .slice eo g.es.length ec, .slice (some B) g.cs.length cc]) rfl (by kernel_rfl) (by kernel_rfl) (by kernel_rfl) (fun _ _ _ _ _ h => h) ?_ (by assumption) ?_
    · (rintro oi h; cases h; refine ⟨by rfl, ?_⟩; intro W hSw; try dsimp only at hSw
       go_simp)
    simp only [List.setIfInBounds_toArray, List.set_cons_zero, List.set_cons_succ]
    refine take_on 1 97 (.int .i64 ((c : Int))) rfl (by kernel_rfl) (by kernel_rfl) (by kernel_rfl) (fun _ _ _ _ _ h => h) ?_ (by assumption) ?_
    · (rintro oi h; cases h; refine ⟨by rfl, ?_⟩; intro W hSw; try dsimp only at hSw
       go_simp)
    simp only [List.setIfInBounds_toArray, List.set_cons_zero, List.set_cons_succ]
    refine take_on 3 99 (.agg #[.string (bb g.nm), .bool g.dir, .slice (some A) g.ns.length nc, .slice eo g.es.length ec, .slice (some B) g.cs.length cc]) rfl (by kernel_rfl) (by kernel_rfl) (by kernel_rfl) (fun _ _ _ _ _ h => h) ?_ (by assumption) ?_
    · (rintro oi h; cases h; refine ⟨by rfl, ?_⟩; intro W hSw; try dsimp only at hSw
       go_simp)
    simp only [List.setIfInBounds_toArray, List.set_cons_zero, List.set_cons_succ]
    refine take_on 4 100 (.pointer (some ⟨w.heap.size, 4, none⟩)) rfl (by kernel_rfl) (by kernel_rfl) (by kernel_rfl) (fun _ _ _ _ _ h => h) ?_ (by assumption) ?_
    · (rintro oi h; cases h; refine ⟨by rfl, ?_⟩; intro W hSw; try dsimp only at hSw
       go_simp)
    simp only [List.setIfInBounds_toArray, List.set_cons_zero, List.set_cons_succ]
    refine take_on 5 101 (.slice (some B) g.cs.length cc) rfl (by kernel_rfl) (by kernel_rfl) (by kernel_rfl) (fun _ _ _ _ _ h => h) ?_ (by assumption) ?_
    · (rintro oi h; cases h; refine ⟨by rfl, ?_⟩; intro W hSw; try dsimp only at hSw
       go_simp)
    simp only [List.setIfInBounds_toArray, List.set_cons_zero, List.set_cons_succ]
    refine take_on 6 102 (.int .i64 ((c : Int))) rfl (by kernel_rfl) (by kernel_rfl) (by kernel_rfl) (fun _ _ _ _ _ h => h) ?_ (by assumption) ?_
    · (rintro oi h; cases h; refine ⟨by rfl, ?_⟩; intro W hSw; try dsimp only at hSw
       go_simp)
    simp only [List.setIfInBounds_toArray, List.set_cons_zero, List.set_cons_succ]
    refine take_on 7 103 (.pointer (some (B.add (c * 2)))) rfl (by kernel_rfl) (by kernel_rfl) (by kernel_rfl) (fun _ _ _ _ _ h => h) ?_ (by assumption) ?_
    · (rintro oi h; cases h; refine ⟨by rfl, ?_⟩; intro W hSw; try dsimp only at hSw
       go_simp)
    simp only [List.setIfInBounds_toArray, List.set_cons_zero, List.set_cons_succ]
    refine take_on 8 104 (.pointer (some ⟨(B.add (c * 2)).block, (B.add (c * 2)).off + 1, none⟩)) rfl (by kernel_rfl) (by kernel_rfl) (by kernel_rfl) (fun _ _ _ _ _ h => h) ?_ (by assumption) ?_
    · (rintro oi h; cases h; refine ⟨by rfl, ?_⟩; intro W hSw; try dsimp only at hSw
       go_simp)
    simp only [List.setIfInBounds_toArray, List.set_cons_zero, List.set_cons_succ]
    refine take_on 9 105 (.int .i64 (u)) rfl (by kernel_rfl) (by kernel_rfl) (by kernel_rfl) (fun _ _ _ _ _ h => h) ?_ (by assumption) ?_
    · (rintro oi h; cases h; refine ⟨by rfl, ?_⟩; intro W hSw; try dsimp only at hSw
       go_simp)
    simp only [List.setIfInBounds_toArray, List.set_cons_zero, List.set_cons_succ]
    refine wpAnyH_ready (rs := [2]) (by kernel_rfl) (by simp) ?_
    refine AllReadyH.cons rfl (fun K hK => ?_) AllReadyH.nil
    go_simp
    go_at_call 19
    refine (cMembers_of _ g (c : Int) Lc _ (Lib.hid (HGRr.out.keep hHeld.1)) HML).mono ?_
    rintro e wa ⟨va, rfl, hia, hba⟩
    have HIA := Lib.hid hia
    clear hia
    go_wp2_with fail
    refine hK.out _ _ ?_ (fun hHeld => ?_)
    · exact six_keep hHeld (by assumption)
    clear hK K
    try simp only [List.setIfInBounds_toArray, List.set_cons_zero, List.set_cons_succ]
    refine wpAnyH_ready (rs := [10]) (by kernel_rfl) (by simp) ?_
    refine AllReadyH.cons rfl (fun K hK => ?_) AllReadyH.nil
    go_simp
    go_at_call 19
    refine (cMembers_of _ g u Uc _ (Lib.hid (HGRr.out.keep hHeld.1)) HMU).mono ?_
    rintro e wb ⟨vb, rfl, hib, hbb⟩
    have HIA2 := Lib.hid (HIA.out.keep hbb)
    have HIB := Lib.hid hib
    clear hib
    go_wp2_with fail
    refine hK.out _ _ ?_ (fun hHeld => ?_)
    · exact six_keep hHeld (by assumption)
    clear hK K
    try simp only [List.setIfInBounds_toArray, List.set_cons_zero, List.set_cons_succ]
    refine take_on 11 10 va rfl (by kernel_rfl) (by kernel_rfl) (by kernel_rfl) (fun _ _ _ _ _ h => h) ?_ (by assumption) ?_
    · (rintro oi h; cases h; refine ⟨by rfl, ?_⟩; intro W hSw; try dsimp only at hSw
       go_simp)
    simp only [List.setIfInBounds_toArray, List.set_cons_zero, List.set_cons_succ]
    refine take_on 12 11 vb rfl (by kernel_rfl) (by kernel_rfl) (by kernel_rfl) (fun _ _ _ _ _ h => h) ?_ (by assumption) ?_
    · (rintro oi h; cases h; refine ⟨by rfl, ?_⟩; intro W hSw; try dsimp only at hSw
       go_simp)
    simp only [List.setIfInBounds_toArray, List.set_cons_zero, List.set_cons_succ]
    refine wpAnyH_done (by kernel_rfl) ?_ _
    have hB7 := hHeld.1
    have HB7 := Lib.hid (below_keep hB7 HBr.out)
    have HBo7 := Lib.hid (below_keep hB7 HBo.out)
    have HVI7 := Lib.hid (HVIr.out.keep hB7)
    clear hHeld hB7 g0 g1 g2 g3 g4 q1 c0 c1 HBr HGr HGRr HVIr HBo HIA
    obtain ⟨lo, lc, rfl, hl0, hl1, -⟩ := id HIA2.out
    unfold maxLen at hl1
    have hll : Lc.length ≤ 9223372036854775807 := by omega
    clear hl0 hl1
    go_wp2_with fail
    go_loop [12] (fun iv => ∃ i : Nat, iv = .int .i64 i ∧ i ≤ Lc.length) (fun iv => Lc.length - (intOf iv).toNat)
    case atStart => exact ⟨0, rfl, Nat.zero_le _⟩
    case round =>
      obtain ⟨i, rfl, hi⟩ := hrel
      by_cases hlt2 : i < Lc.length
      case pos =>
        have hget := HIA2.out.get hlt2
        obtain ⟨z, hz⟩ : ∃ z, Lc[i] = z := ⟨_, rfl⟩
        rw [hz] at hget
        obtain ⟨E, rfl, q0⟩ := hget
        unfold inAt at q0
        rw [Nat.mul_one] at q0
        have HZ := Lib.hid (HUP.out z (by rw [← hz]; exact List.getElem_mem hlt2))
        have i0 : (0 : Int) ≤ (i : Int) := by omega
        have i1 : (i : Int) < (Lc.length : Int) := by omega
        clear hz
        go_wp2_with fail
        refine (lhas_of _ Uc z true _ HIB HZ).mono ?_
        rintro e w9 ⟨rfl, rfl⟩
        go_wp2
        go_round
        case rel => exact ⟨i + 1, by go_num, by omega⟩
        case measure => simp [intOf]; omega
      obtain ⟨bx, hbx⟩ : ∃ q, Lc.contains (x : Int) = q := ⟨_, rfl⟩
      obtain ⟨by', hby⟩ : ∃ q, Lc.contains (y : Int) = q := ⟨_, rfl⟩
      have HBX := Lib.hid hbx
      have HBY := Lib.hid hby
      clear hbx hby
      go_wp2_with fail
      refine (lhas_of _ Lc x bx _ HIA2 HBX).mono ?_
      rintro e w9 ⟨rfl, rfl⟩
      cases bx
      · go_wp2
        go_roundw
        case rel => exact ⟨c + 1, by have := HLT.out; go_num, by have := HLT.out; omega, HBo7.out⟩
        case measure => have := HLT.out; simp [intOf]; omega
      go_wp2_with fail
      refine (lhas_of _ Lc y by' _ HIA2 HBY).mono ?_
      rintro e w9 ⟨rfl, rfl⟩
      cases by'
      · go_wp2
        go_roundw
        case rel => exact ⟨c + 1, by have := HLT.out; go_num, by have := HLT.out; omega, HBo7.out⟩
        case measure => have := HLT.out; simp [intOf]; omega
      have HAL := Lib.hid (HIN.out HBX.out HBY.out)
      go_wp2_with fail
      go_loop [13] (fun iv => ∃ j : Nat, iv = .int .i64 j ∧ j ≤ I.length) (fun iv => I.length - (intOf iv).toNat)
      case atStart => exact ⟨0, rfl, Nat.zero_le _⟩
      case round =>
        obtain ⟨j, rfl, hj⟩ := hrel
        by_cases hlt3 : j < I.length
        case neg =>
          go_wp2
          go_roundw
          case rel => exact ⟨c + 1, by have := HLT.out; go_num, by have := HLT.out; omega, HBo7.out⟩
          case measure => have := HLT.out; simp [intOf]; omega
        have hget := HVI7.out.get hlt3
        obtain ⟨z, hz⟩ : ∃ z, I[j] = z := ⟨_, rfl⟩
        rw [hz] at hget
        obtain ⟨E, rfl, q0⟩ := hget
        unfold inAt at q0
        rw [Nat.mul_one] at q0
        have HZ := Lib.hid (HAL.out z (by rw [← hz]; exact List.getElem_mem hlt3))
        have j0 : (0 : Int) ≤ (j : Int) := by omega
        have j1 : (j : Int) < (I.length : Int) := by omega
        clear hz
        go_wp2_with fail
        refine (lhas_of _ Lc z true _ HIA2 HZ).mono ?_
        rintro e w9 ⟨rfl, rfl⟩
        go_wp2
        go_round
        case rel => exact ⟨j + 1, by go_num, by omega⟩
        case measure => simp [intOf]; omega
end Go.Proofs.Ytjeacpohanadnaa.gra
