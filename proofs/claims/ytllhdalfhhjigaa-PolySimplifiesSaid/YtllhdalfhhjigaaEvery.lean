/-
  Valid$1 and Orthogonal$1 of package poly, and everySegment at each of the two. Condition: the list is no longer than a list can be.
-/
import Derived.Test.YtllhdalfhhjigaaSegs
import Derived.Test.YtllhdalfhhjigaaBoxEq
namespace Go.Proofs.Ytllhdalfhhjigaa
open Go.RowKit
attribute [local go_sem] Oper.semAt_some

/-- The two ends of a segment differ; it is horizontal or vertical. -/
def sgNe (s : Sg) : Bool := decide (s.1 ≠ s.2)
def sgOr (s : Sg) : Bool := s.1.1 == s.2.1 || s.1.2 == s.2.2
theorem sgNe_eq (s : Sg) : sgNe s = !eq2 s.1.1 s.1.2 s.2.1 s.2.2 := by
  obtain ⟨⟨a, b⟩, c, d⟩ := s
  unfold sgNe eq2
  by_cases h1 : a = c <;> by_cases h2 : b = d <;> simp [h1, h2]

set_option maxHeartbeats 1000000 in
theorem validD1_any (s : Sg) (w : World) :
    Calls Try.prog 28 #[segV s] w fun e w' => e = .returned (.bool (sgNe s)) ∧ Below w.heap.size w w' := by
  obtain ⟨v, hv⟩ : ∃ v, eq2 s.1.1 s.1.2 s.2.1 s.2.2 = v := ⟨_, rfl⟩
  have HO : Hid (sgNe s = !v) := Lib.hid (by rw [sgNe_eq, hv])
  have hnp := neq_pt (Lib.hid hv)
  clear hv
  unfold segV
  go_enter Try.func28, Try.ntmps28
  go_wp2
  go_ret
  exact ⟨ret_bool HO.out.symm, al1 ..⟩
set_option maxHeartbeats 1000000 in
theorem orthoD1_any (s : Sg) (w : World) :
    Calls Try.prog 36 #[segV s] w fun e w' => e = .returned (.bool (sgOr s)) ∧ Below w.heap.size w w' := by
  unfold segV
  by_cases h1 : s.1.1 = s.2.1
  · have HO : Hid (sgOr s = true) := Lib.hid (by unfold sgOr; simp [h1])
    go_enter Try.func36, Try.ntmps36
    go_wp2
    go_ret
    exact ⟨ret_bool HO.out.symm, al1 ..⟩
  · have HO : Hid ((s.1.1 == s.2.1 || s.1.2 == s.2.2) = sgOr s) := Lib.hid rfl
    go_enter Try.func36, Try.ntmps36
    go_wp2
    go_ret
    exact ⟨ret_bool HO.out, al1 ..⟩

set_option maxRecDepth 100000 in
set_option maxHeartbeats 2000000 in
theorem everyNe_any (n : Nat) (hn : 6 ≤ n) (ao : Option Addr) (cap : Nat) (pts : List Pt) (hlen : pts.length ≤ maxLen) (w : World) (hP : Pl w (.slice ao pts.length cap) pts) :
    CallsIn Fence.wide n Try.prog 27 #[.slice ao pts.length cap, .func (.func 28) #[] #[]] w fun e W' => e = .returned (.bool ((sgs pts (pts.length - 1)).all sgNe)) ∧ Below w.heap.size w W' := by
  have h1 : 1 ≤ n := by omega
  have hmx : Try.prog.follows .mixedOrders = true := by kernel_rfl
  refine callsIn_of_wp_marks Try.func27 rfl trivial ?_ rfl
  simp only [Try.ntmps27, List.size_toArray, List.length_cons, List.length_nil, Nat.reduceAdd, Nat.reduceSub, Array.replicate_succ, Array.replicate_zero, List.push_toArray, List.append_toArray, List.nil_append, List.cons_append]
  gi_wp2
  refine ⟨trivial, ?_⟩
  refine (callsIn_wide.2 (segments_any _ _ _ _)).mono ?_
  rintro e w' ⟨rfl, rfl⟩
  gi_wp2
  have bF := ((Boxed.new w 37 (.func (.func 28) #[] #[])).alloc (.cells #[.bool false] 4)).alloc (.cells #[.slice ao pts.length cap] 22)
  have bR := (Boxed.new (w.alloc (.cells #[.func (.func 28) #[] #[]] 37)) 4 (.bool false)).alloc (.cells #[.slice ao pts.length cap] 22)
  have bS := Boxed.new ((w.alloc (.cells #[.func (.func 28) #[] #[]] 37)).alloc (.cells #[.bool false] 4)) 22 (.slice ao pts.length cap)
  have hB0 := al3 w (.cells #[.func (.func 28) #[] #[]] 37) (.cells #[.bool false] 4) (.cells #[.slice ao pts.length cap] 22)
  simp only [World.size_alloc] at bR bS
  have hsz : (((w.alloc (.cells #[.func (.func 28) #[] #[]] 37)).alloc (.cells #[.bool false] 4)).alloc (.cells #[.slice ao pts.length cap] 22)).heap.size = w.heap.size + 3 := by simp
  obtain ⟨W0, hW0⟩ : ∃ W0, ((w.alloc (.cells #[.func (.func 28) #[] #[]] 37)).alloc (.cells #[.bool false] 4)).alloc (.cells #[.slice ao pts.length cap] 22) = W0 := ⟨_, rfl⟩
  rw [hW0] at bF bR bS hB0 hsz ⊢
  clear hW0
  refine wpIn_rangeFunc_ownH rfl h1 (gf := 45) (lb := #[.pointer (some ⟨w.heap.size + 1 + 1, 0, none⟩)]) rfl trivial (enters_of Try.func45 (by kernel_rfl) rfl)
    (seg_stops (n - 1) (by omega) w.heap.size (w.heap.size + 1 + 1) ao cap pts hlen W0 bS hP.block (hP.keep hB0)) KpB.t (KpB.b (by omega) (by omega)) (Below.refl _ _) (fun _ => rfl)
    (fun pre W => ((Boxed W w.heap.size 37 (.func (.func 28) #[] #[]) ∧ Boxed W (w.heap.size + 1) 4 (.bool false)) ∧ pre.all sgNe = true) ∧ Ld w 3 W)
    (fun c pre W => ((Boxed W w.heap.size 37 (.func (.func 28) #[] #[]) ∧ Boxed W (w.heap.size + 1) 4 (.bool false)) ∧ c = .ret ∧ pre.all sgNe = false) ∧ Ld w 3 W)
    (OwnFrom.and (OwnFrom.and (OwnFrom.and (Own.from (boxed_own _ _ _) _) (Own.from (boxed_own _ _ _) _)) (ownFrom_pure _ _)) (ownFrom_ld (by omega)))
    (fun c => OwnFrom.and (OwnFrom.and (OwnFrom.and (Own.from (boxed_own _ _ _) _) (Own.from (boxed_own _ _ _) _)) (ownFrom_pure _ _)) (ownFrom_ld (by omega)))
    ⟨⟨⟨bF, bR⟩, rfl⟩, hB0, by omega⟩
    (fun x a' W => ∃ Bx, w.heap.size + 2 < Bx ∧ Box4 W Bx 36 x.1.1 x.1.2 x.2.1 x.2.2 ∧ a' = { tmps := #[.slice ao pts.length cap, .func (.func 28) #[] #[], undef, .pointer (some ⟨w.heap.size, 0, none⟩), .pointer (some ⟨w.heap.size + 1, 0, none⟩), .pointer (some ⟨Bx, 0, none⟩), .slice ao pts.length cap, .func (.func 45) #[] #[.pointer (some ⟨w.heap.size + 1 + 1, 0, none⟩)], segV x, undef, undef, undef, undef], defers := [] })
    (fun x a' _ X Y row hs hg hr => by
      obtain ⟨Bx, h1, h2, h3⟩ := hs
      exact ⟨Bx, h1, box4_own h2 hg hr, h3⟩)
    ?assign ?body ?done ?stop
  case assign =>
    rintro l pre x W K ⟨⟨⟨bF1, bR1⟩, hp⟩, hB1⟩ hK
    dsimp only [segV]
    gi_wp2
    have hz := hB1.2
    exact hK _ _ ((KeepsOthers.alloc _ _).from _) (KpB.of (by omega) (by omega) (al1 _ _)) ⟨⟨⟨bF1.alloc _, bR1.alloc _⟩, hp⟩, hB1.alloc _⟩ ⟨W.heap.size, by omega, Box4.new W _ _ _ _ _, rfl⟩
  case body =>
    rintro l pre x a' W hl hr ⟨⟨⟨bF1, bR1⟩, hp⟩, hB1⟩ ⟨Bx, hBx, bX, rfl⟩ hlt
    have cF := bF1.cell
    have cR := bR1.cell
    have fR := bR1.frozen
    obtain ⟨x0, x1, x2, x3⟩ := bX.at
    have hz := hB1.2
    have hq := validD1_any x
    obtain ⟨g, hg⟩ : ∃ v, sgNe x = v := ⟨_, rfl⟩
    have HG := Lib.hid hg
    have HP := Lib.hid hp
    rw [hg] at hq
    clear hg hp
    gi_wp2
    refine ⟨trivial, fun h => (by cases h), ?_⟩
    refine (CallsIn.inRound l (callsIn_wide.2 (hq _))).mono ?_
    rintro e w1 ⟨rfl, hb1⟩
    have hB2 := hB1.keep hb1
    have bF2 := boxed_keep hb1 bF1
    have bR2 := boxed_keep hb1 bR1
    have cR2 := bR2.cell
    have fR2 := bR2.frozen
    have hK2 := KpB.of (m := w.heap.size) (Bs := w.heap.size + 1 + 1) (by omega) (by omega) hb1
    have hO2 := (keepsOthers_below hb1).from W0.heap.size
    cases g
    · gi_wp2
      exact ⟨hO2.trans ((KeepsOthers.setCell _ _ _).from _), ⟨⟨bF2.other (by omega) _, bR2.set _⟩, rfl, by rw [List.all_append, HP.out]; simp [HG.out]⟩, hB2.set (by omega)⟩
    · gi_wp2
      exact ⟨hO2, hK2, ⟨⟨bF2, bR2⟩, by rw [List.all_append, HP.out]; simp [HG.out]⟩, hB2⟩
  case done =>
    rintro D zs W hD rfl ⟨⟨⟨bF1, bR1⟩, hp⟩, hB1⟩ hK
    have cR := bR1.cell
    have fR := bR1.frozen
    gi_wp2
    have hK1 := (KeepsOthers.setCell W ⟨w.heap.size + 1, 0, none⟩ (.bool true)).same D _ hK rfl
    have hB2 : Ld w 3 (W.setCell ⟨w.heap.size + 1, 0, none⟩ (.bool true)) := hB1.set (by omega)
    have bR2 := (bR1.set (.bool true)).kept (grownBy_putObj' _ D (.deferred none)) (by simp; omega)
    have cR2 := bR2.cell
    refine ⟨by simp, .inl ⟨_, _, rfl, run_takeDeferred hK1, ?_⟩⟩
    exact ⟨.bool true, by simp [results, Try.results27, go_sem, cR2], by rw [hp], hB2.1.trans (belowK_b (w := w) (Nat.le_refl _) _ D _ _ (by omega) hK1 rfl rfl)⟩
  case stop =>
    rintro D c pre W hD ⟨k, hk, rfl⟩ ⟨⟨⟨bF1, bR1⟩, rfl, hp⟩, hB1⟩ hK
    have cR := bR1.cell
    gi_wp2
    have bR2 := bR1.kept (grownBy_putObj' _ D (.deferred none)) (by simp; omega)
    have cR2 := bR2.cell
    refine ⟨by simp, .inl ⟨_, _, rfl, run_takeDeferred hK, ?_⟩⟩
    have hall : (sgs pts (pts.length - 1)).all sgNe = false := by
      have hpre : sgs pts (k + 1) <+: sgs pts (pts.length - 1) := sgs_prefix pts (by omega)
      obtain ⟨t, ht⟩ := hpre
      rw [← ht, List.all_append, hp, Bool.false_and]
    exact ⟨.bool false, by simp [results, Try.results27, go_sem, cR2], by rw [hall], hB1.1.trans (belowK_b (w := w) (Nat.le_refl _) _ D _ _ (by omega) hK rfl rfl)⟩

set_option maxRecDepth 100000 in
set_option maxHeartbeats 2000000 in
theorem everyOr_any (n : Nat) (hn : 6 ≤ n) (ao : Option Addr) (cap : Nat) (pts : List Pt) (hlen : pts.length ≤ maxLen) (w : World) (hP : Pl w (.slice ao pts.length cap) pts) :
    CallsIn Fence.wide n Try.prog 27 #[.slice ao pts.length cap, .func (.func 36) #[] #[]] w fun e W' => e = .returned (.bool ((sgs pts (pts.length - 1)).all sgOr)) ∧ Below w.heap.size w W' := by
  have h1 : 1 ≤ n := by omega
  have hmx : Try.prog.follows .mixedOrders = true := by kernel_rfl
  refine callsIn_of_wp_marks Try.func27 rfl trivial ?_ rfl
  simp only [Try.ntmps27, List.size_toArray, List.length_cons, List.length_nil, Nat.reduceAdd, Nat.reduceSub, Array.replicate_succ, Array.replicate_zero, List.push_toArray, List.append_toArray, List.nil_append, List.cons_append]
  gi_wp2
  refine ⟨trivial, ?_⟩
  refine (callsIn_wide.2 (segments_any _ _ _ _)).mono ?_
  rintro e w' ⟨rfl, rfl⟩
  gi_wp2
  have bF := ((Boxed.new w 37 (.func (.func 36) #[] #[])).alloc (.cells #[.bool false] 4)).alloc (.cells #[.slice ao pts.length cap] 22)
  have bR := (Boxed.new (w.alloc (.cells #[.func (.func 36) #[] #[]] 37)) 4 (.bool false)).alloc (.cells #[.slice ao pts.length cap] 22)
  have bS := Boxed.new ((w.alloc (.cells #[.func (.func 36) #[] #[]] 37)).alloc (.cells #[.bool false] 4)) 22 (.slice ao pts.length cap)
  have hB0 := al3 w (.cells #[.func (.func 36) #[] #[]] 37) (.cells #[.bool false] 4) (.cells #[.slice ao pts.length cap] 22)
  simp only [World.size_alloc] at bR bS
  have hsz : (((w.alloc (.cells #[.func (.func 36) #[] #[]] 37)).alloc (.cells #[.bool false] 4)).alloc (.cells #[.slice ao pts.length cap] 22)).heap.size = w.heap.size + 3 := by simp
  obtain ⟨W0, hW0⟩ : ∃ W0, ((w.alloc (.cells #[.func (.func 36) #[] #[]] 37)).alloc (.cells #[.bool false] 4)).alloc (.cells #[.slice ao pts.length cap] 22) = W0 := ⟨_, rfl⟩
  rw [hW0] at bF bR bS hB0 hsz ⊢
  clear hW0
  refine wpIn_rangeFunc_ownH rfl h1 (gf := 45) (lb := #[.pointer (some ⟨w.heap.size + 1 + 1, 0, none⟩)]) rfl trivial (enters_of Try.func45 (by kernel_rfl) rfl)
    (seg_stops (n - 1) (by omega) w.heap.size (w.heap.size + 1 + 1) ao cap pts hlen W0 bS hP.block (hP.keep hB0)) KpB.t (KpB.b (by omega) (by omega)) (Below.refl _ _) (fun _ => rfl)
    (fun pre W => ((Boxed W w.heap.size 37 (.func (.func 36) #[] #[]) ∧ Boxed W (w.heap.size + 1) 4 (.bool false)) ∧ pre.all sgOr = true) ∧ Ld w 3 W)
    (fun c pre W => ((Boxed W w.heap.size 37 (.func (.func 36) #[] #[]) ∧ Boxed W (w.heap.size + 1) 4 (.bool false)) ∧ c = .ret ∧ pre.all sgOr = false) ∧ Ld w 3 W)
    (OwnFrom.and (OwnFrom.and (OwnFrom.and (Own.from (boxed_own _ _ _) _) (Own.from (boxed_own _ _ _) _)) (ownFrom_pure _ _)) (ownFrom_ld (by omega)))
    (fun c => OwnFrom.and (OwnFrom.and (OwnFrom.and (Own.from (boxed_own _ _ _) _) (Own.from (boxed_own _ _ _) _)) (ownFrom_pure _ _)) (ownFrom_ld (by omega)))
    ⟨⟨⟨bF, bR⟩, rfl⟩, hB0, by omega⟩
    (fun x a' W => ∃ Bx, w.heap.size + 2 < Bx ∧ Box4 W Bx 36 x.1.1 x.1.2 x.2.1 x.2.2 ∧ a' = { tmps := #[.slice ao pts.length cap, .func (.func 36) #[] #[], undef, .pointer (some ⟨w.heap.size, 0, none⟩), .pointer (some ⟨w.heap.size + 1, 0, none⟩), .pointer (some ⟨Bx, 0, none⟩), .slice ao pts.length cap, .func (.func 45) #[] #[.pointer (some ⟨w.heap.size + 1 + 1, 0, none⟩)], segV x, undef, undef, undef, undef], defers := [] })
    (fun x a' _ X Y row hs hg hr => by
      obtain ⟨Bx, h1, h2, h3⟩ := hs
      exact ⟨Bx, h1, box4_own h2 hg hr, h3⟩)
    ?assign ?body ?done ?stop
  case assign =>
    rintro l pre x W K ⟨⟨⟨bF1, bR1⟩, hp⟩, hB1⟩ hK
    dsimp only [segV]
    gi_wp2
    have hz := hB1.2
    exact hK _ _ ((KeepsOthers.alloc _ _).from _) (KpB.of (by omega) (by omega) (al1 _ _)) ⟨⟨⟨bF1.alloc _, bR1.alloc _⟩, hp⟩, hB1.alloc _⟩ ⟨W.heap.size, by omega, Box4.new W _ _ _ _ _, rfl⟩
  case body =>
    rintro l pre x a' W hl hr ⟨⟨⟨bF1, bR1⟩, hp⟩, hB1⟩ ⟨Bx, hBx, bX, rfl⟩ hlt
    have cF := bF1.cell
    have cR := bR1.cell
    have fR := bR1.frozen
    obtain ⟨x0, x1, x2, x3⟩ := bX.at
    have hz := hB1.2
    have hq := orthoD1_any x
    obtain ⟨g, hg⟩ : ∃ v, sgOr x = v := ⟨_, rfl⟩
    have HG := Lib.hid hg
    have HP := Lib.hid hp
    rw [hg] at hq
    clear hg hp
    gi_wp2
    refine ⟨trivial, fun h => (by cases h), ?_⟩
    refine (CallsIn.inRound l (callsIn_wide.2 (hq _))).mono ?_
    rintro e w1 ⟨rfl, hb1⟩
    have hB2 := hB1.keep hb1
    have bF2 := boxed_keep hb1 bF1
    have bR2 := boxed_keep hb1 bR1
    have cR2 := bR2.cell
    have fR2 := bR2.frozen
    have hK2 := KpB.of (m := w.heap.size) (Bs := w.heap.size + 1 + 1) (by omega) (by omega) hb1
    have hO2 := (keepsOthers_below hb1).from W0.heap.size
    cases g
    · gi_wp2
      exact ⟨hO2.trans ((KeepsOthers.setCell _ _ _).from _), ⟨⟨bF2.other (by omega) _, bR2.set _⟩, rfl, by rw [List.all_append, HP.out]; simp [HG.out]⟩, hB2.set (by omega)⟩
    · gi_wp2
      exact ⟨hO2, hK2, ⟨⟨bF2, bR2⟩, by rw [List.all_append, HP.out]; simp [HG.out]⟩, hB2⟩
  case done =>
    rintro D zs W hD rfl ⟨⟨⟨bF1, bR1⟩, hp⟩, hB1⟩ hK
    have cR := bR1.cell
    have fR := bR1.frozen
    gi_wp2
    have hK1 := (KeepsOthers.setCell W ⟨w.heap.size + 1, 0, none⟩ (.bool true)).same D _ hK rfl
    have hB2 : Ld w 3 (W.setCell ⟨w.heap.size + 1, 0, none⟩ (.bool true)) := hB1.set (by omega)
    have bR2 := (bR1.set (.bool true)).kept (grownBy_putObj' _ D (.deferred none)) (by simp; omega)
    have cR2 := bR2.cell
    refine ⟨by simp, .inl ⟨_, _, rfl, run_takeDeferred hK1, ?_⟩⟩
    exact ⟨.bool true, by simp [results, Try.results27, go_sem, cR2], by rw [hp], hB2.1.trans (belowK_b (w := w) (Nat.le_refl _) _ D _ _ (by omega) hK1 rfl rfl)⟩
  case stop =>
    rintro D c pre W hD ⟨k, hk, rfl⟩ ⟨⟨⟨bF1, bR1⟩, rfl, hp⟩, hB1⟩ hK
    have cR := bR1.cell
    gi_wp2
    have bR2 := bR1.kept (grownBy_putObj' _ D (.deferred none)) (by simp; omega)
    have cR2 := bR2.cell
    refine ⟨by simp, .inl ⟨_, _, rfl, run_takeDeferred hK, ?_⟩⟩
    have hall : (sgs pts (pts.length - 1)).all sgOr = false := by
      have hpre : sgs pts (k + 1) <+: sgs pts (pts.length - 1) := sgs_prefix pts (by omega)
      obtain ⟨t, ht⟩ := hpre
      rw [← ht, List.all_append, hp, Bool.false_and]
    exact ⟨.bool false, by simp [results, Try.results27, go_sem, cR2], by rw [hall], hB1.1.trans (belowK_b (w := w) (Nat.le_refl _) _ D _ _ (by omega) hK rfl rfl)⟩
end Go.Proofs.Ytllhdalfhhjigaa
