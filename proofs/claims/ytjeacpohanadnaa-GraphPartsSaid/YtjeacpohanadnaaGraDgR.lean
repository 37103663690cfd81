/-
  What Skeleton of the reference of layer 11 returns. Conditions: a graph in memory of at most 300 edges.
-/
import Derived.Test.YtjeacpohanadnaaGraDg
import Derived.Deep.AppendLies
import Derived.Deep.RegionHeldLaw
namespace Go.Proofs.Ytjeacpohanadnaa.gra
open Go.RowKit lex

theorem b_drew {B : Nat} {a w : World} (h : Below B a w) : Below B a w.drew := h.drew
theorem b_alloc {B : Nat} {a w : World} (hB : B ≤ w.heap.size) {o : Obj} (h : Below B a w) : Below B a (w.alloc o) := h.alloc hB o
/-- What the region that appends an arc reads of the graph. -/
abbrev sk (W : World) (H : Nat) (ev : Value) (A B : Addr) (x y : Int) : Prop := W.cell? ⟨H, 3, none⟩ = some ev ∧ W.cell? A = some (.int .i64 x) ∧ W.cell? B = some (.int .i64 y)
theorem sk_keep {W W' : World} {H : Nat} {ev : Value} {A B : Addr} {x y : Int} (h : sk W H ev A B x y) (hb : Below W.heap.size W W') : sk W' H ev A B x y := ⟨cell_keep hb h.1, cell_later' hb h.2.1, cell_later' hb h.2.2⟩
theorem sk_drew {W : World} {H : Nat} {ev : Value} {A B : Addr} {x y : Int} (h : sk W H ev A B x y) : sk W.drew H ev A B x y := sk_keep h (Below.refl _ _).drew
theorem sk_alloc {W : World} {H : Nat} {ev : Value} {A B : Addr} {x y : Int} {o : Obj} (h : sk W H ev A B x y) : sk (W.alloc o) H ev A B x y := sk_keep h (al1 ..)
theorem sk_set {W : World} {H d o : Nat} {ev u : Value} {A B : Addr} {x y : Int} (h0 : H ≠ d) (h1 : A.block ≠ d) (h2 : B.block ≠ d) (h : sk W H ev A B x y) : sk (W.setCell ⟨d, o, none⟩ u) H ev A B x y :=
  ⟨by rw [World.cell?_setCell_far W ⟨d, o, none⟩ ⟨H, 3, none⟩ u (Ne.symm h0)]; exact h.1, by rw [World.cell?_setCell_far W ⟨d, o, none⟩ A u (Ne.symm h1)]; exact h.2.1, by rw [World.cell?_setCell_far W ⟨d, o, none⟩ B u (Ne.symm h2)]; exact h.2.2⟩
theorem sk_below {C : Nat} {W W' : World} {H : Nat} {ev : Value} {A B : Addr} {x y : Int} (hb : Below C W W') (h0 : H < C) (h1 : A.block < C) (h2 : B.block < C) (h : sk W H ev A B x y) : sk W' H ev A B x y :=
  ⟨by rw [hb.cell (p := ⟨H, 3, none⟩) h0]; exact h.1, by rw [hb.cell h1]; exact h.2.1, by rw [hb.cell h2]; exact h.2.2⟩
set_option maxRecDepth 100000 in
set_option maxHeartbeats 8000000 in
theorem gSkeleton_of (v : Value) (g : Gr) (w : World) (h : Hid (GrV w v g)) (hl : g.es.length ≤ 300) :
    Calls Try.prog 15 #[v] w (DgOut (g.ns.length : Int) (arcsL g) w) := by
  obtain ⟨nv, ev, cv, rfl, hnl, hns, hes, hcs⟩ := h.out
  obtain ⟨no, nc, rfl, hm0, hm1, -⟩ := id hns
  obtain ⟨eo, ec, rfl, -, hm2, -⟩ := id hes
  obtain ⟨co, cc, rfl, -, hm3, -⟩ := id hcs
  unfold maxLen at hm1
  have hnm : g.ns.length ≤ 9223372036854775807 := by omega
  obtain ⟨n, hn⟩ : ∃ n : Nat, g.ns.length = n := ⟨_, rfl⟩
  rw [hn] at hnm
  have HES := Lib.hid hes
  simp only [hn]
  obtain ⟨W1, hW1⟩ : ∃ W1, w.alloc (.cells #[.string (bb g.nm), .bool g.dir, .slice no n nc, .slice eo g.es.length ec, .slice co g.cs.length cc] 26) = W1 := ⟨_, rfl⟩
  obtain ⟨W2, hW2⟩ : ∃ W2, W1.alloc (.cells #[.int .i64 0, .slice none 0 0] 35) = W2 := ⟨_, rfl⟩
  obtain ⟨W3, hW3⟩ : ∃ W3, W2.alloc (.cells #[.int .i64 n, .slice none 0 0] 35) = W3 := ⟨_, rfl⟩
  have s1 : W1.heap.size = w.heap.size + 1 := by rw [← hW1]; simp
  have s2 : W2.heap.size = w.heap.size + 1 + 1 := by rw [← hW2, ← s1]; simp
  have s3 : W3.heap.size = w.heap.size + 1 + 1 + 1 := by rw [← hW3, ← s2]; simp
  have HG : Hid (gat W3 w.heap.size (bb g.nm) g.dir (.slice no n nc) (.slice eo g.es.length ec) (.slice co g.cs.length cc)) := Lib.hid (by rw [← hW3, ← hW2, ← hW1]; exact gat_alloc _ (gat_alloc _ (gat_new ..)))
  have HD0 : Hid (dgb W3 (w.heap.size + 1) 0 (.slice none 0 0)) := Lib.hid (by rw [← hW3, ← s1, ← hW2]; exact dgb_alloc _ (dgb_new ..))
  have HD1 : Hid (dgb W3 (w.heap.size + 1 + 1) n (.slice none 0 0)) := Lib.hid (by rw [← hW3, ← s2]; exact dgb_new ..)
  have HB : Hid (Below w.heap.size w W3) := Lib.hid (by rw [← hW3, ← hW2, ← hW1]; exact al3 ..)
  have HS := Lib.hid s3
  have HW1 := Lib.hid hW1
  have HW2 := Lib.hid hW2
  have HW3 := Lib.hid hW3
  clear hns hes hcs hm0 hm1 hm2 hm3 hnl h s1 s2 s3 hW1 hW2 hW3
  go_enter Try.func15, Try.ntmps15
  go_wp2_with fail
  rw [HW1.out, HW2.out, HW3.out]
  clear HW1 HW2 HW3
  go_loopw [4] (fun iv wr => ∃ (k : Nat) (ao : Option Addr) (cap : Nat) (C : List Ar), iv = .int .i64 k ∧ k ≤ g.es.length ∧ (arcsL g).take k = C ∧ C.length = k ∧ Arow wr (w.heap.size + 1 + 1 + 1) (.slice ao k cap) C ∧ gat wr w.heap.size (bb g.nm) g.dir (.slice no n nc) (.slice eo g.es.length ec) (.slice co g.cs.length cc) ∧ dgb wr (w.heap.size + 1) 0 (.slice none 0 0) ∧ dgb wr (w.heap.size + 1 + 1) n (.slice ao k cap) ∧ Below w.heap.size w wr ∧ w.heap.size + 1 + 1 + 1 ≤ wr.heap.size) (fun iv _ => g.es.length - (intOf iv).toNat)
  case atStart => exact ⟨0, none, 0, [], rfl, Nat.zero_le _, rfl, rfl, own_nil _ _ _ _, HG.out, HD0.out, HD1.out, HB.out, by rw [HS.out]; exact Nat.le_refl _⟩
  case round =>
    obtain ⟨k, ao, cap, C, rfl, hk, hC, hCl, hrow, hgat, hd0, hd1, hB, hsz⟩ := hrel
    rename World => wr
    have HROW := Lib.hid hrow
    have HC := Lib.hid hC
    have HGAT := Lib.hid hgat
    have HD0 := Lib.hid hd0
    have HD1 := Lib.hid hd1
    have HB := Lib.hid hB
    clear hrow hC hgat hd0 hB HG
    obtain ⟨g0, g1, g2, g3, g4⟩ := HGAT.out
    by_cases hlt : k < g.es.length
    · obtain ⟨A, rfl, q0, q1, q2, q3, q4, q5, q6, -⟩ := (HES.out.keep HB.out).get hlt
      have hat := arcs_take g hlt
      obtain ⟨x, hx⟩ : ∃ x, g.es[k] = x := ⟨_, rfl⟩
      rw [hx] at q0 q1 q2 q3 q4 q5 q6 hat
      obtain ⟨x0, x1, x2, x3, x4, x5, x6⟩ := x
      simp only at q0 q1 q2 q3 q4 q5 q6 hat
      rw [HC.out] at hat
      have HAT := Lib.hid hat
      have i0 : (0 : Int) ≤ (k : Int) := by omega
      have i1 : (k : Int) < (g.es.length : Int) := by omega
      obtain ⟨d0, d1, d2, d3⟩ := hd1
      have hl2 : w.heap.size + 1 + 1 < wr.heap.size := by omega
      have hAb : (A.add (k * 7)).block < w.heap.size := by
        obtain ⟨A', e, r0, -⟩ := HES.out.get hlt
        cases e
        exact World.block_lt_of_cell? w _ r0
      have HROWc : Hid (wr.ownsRow (w.heap.size + 1 + 1 + 1) 61 2 (.slice ao k cap) k (C.flatMap arC)) := Lib.hid (by have := HROW.out; unfold Arow at this; rw [hCl] at this; exact this)
      have hS0 : sk wr w.heap.size (.slice (some A) g.es.length ec) (A.add (k * 7)) ⟨(A.add (k * 7)).block, (A.add (k * 7)).off + 1, none⟩ x0 x1 := ⟨g3, q0, q1⟩
      obtain ⟨i9, hi0, hz0, hz1, hz2⟩ := info_of_car
      clear hat hx q2 q3 q4 q5 q6
      go_wp2_with fail
      refine wp_region_held_drew (S := (fun W => W.cell? ⟨w.heap.size, 3, none⟩ = some (.slice (some A) g.es.length ec) ∧ W.cell? (A.add (k * 7)) = some (.int .i64 x0) ∧ W.cell? ⟨(A.add (k * 7)).block, (A.add (k * 7)).off + 1, none⟩ = some (.int .i64 x1))) (by kernel_rfl) (sk_drew hS0) (fun hHeld => ?_)
      refine take_on 0 16 (.pointer (some ⟨w.heap.size + 1 + 1, 1, none⟩)) rfl (by kernel_rfl) (by kernel_rfl) (by kernel_rfl) (fun _ _ _ _ _ h => h) ?_ (by assumption) ?_
      · (rintro oi h; cases h; refine ⟨by rfl, ?_⟩; intro W hSw; try dsimp only at hSw
         go_simp)
      try simp only [List.setIfInBounds_toArray, List.set_cons_zero, List.set_cons_succ]
      refine take_on 2 18 (.pointer (some ⟨w.heap.size, 3, none⟩)) rfl (by kernel_rfl) (by kernel_rfl) (by kernel_rfl) (fun _ _ _ _ _ h => h) ?_ (by assumption) ?_
      · (rintro oi h; cases h; refine ⟨by rfl, ?_⟩; intro W hSw; try dsimp only at hSw
         go_simp)
      try simp only [List.setIfInBounds_toArray, List.set_cons_zero, List.set_cons_succ]
      refine take_on 3 19 (.slice (some A) g.es.length ec) rfl (by kernel_rfl) (by kernel_rfl) (by kernel_rfl) (fun _ _ _ _ _ h => h) ?_ (by assumption) ?_
      · (rintro oi h; cases h; refine ⟨by rfl, ?_⟩; intro W hSw; try dsimp only at hSw
         go_simp)
      try simp only [List.setIfInBounds_toArray, List.set_cons_zero, List.set_cons_succ]
      refine take_on 4 20 (.int .i64 (k : Int)) rfl (by kernel_rfl) (by kernel_rfl) (by kernel_rfl) (fun _ _ _ _ _ h => h) ?_ (by assumption) ?_
      · (rintro oi h; cases h; refine ⟨by rfl, ?_⟩; intro W hSw; try dsimp only at hSw
         go_simp)
      try simp only [List.setIfInBounds_toArray, List.set_cons_zero, List.set_cons_succ]
      refine take_on 5 21 (.pointer (some (A.add (k * 7)))) rfl (by kernel_rfl) (by kernel_rfl) (by kernel_rfl) (fun _ _ _ _ _ h => h) ?_ (by assumption) ?_
      · (rintro oi h; cases h; refine ⟨by rfl, ?_⟩; intro W hSw; try dsimp only at hSw
         go_simp)
      try simp only [List.setIfInBounds_toArray, List.set_cons_zero, List.set_cons_succ]
      refine take_on 6 22 (.pointer (some (A.add (k * 7)))) rfl (by kernel_rfl) (by kernel_rfl) (by kernel_rfl) (fun _ _ _ _ _ h => h) ?_ (by assumption) ?_
      · (rintro oi h; cases h; refine ⟨by rfl, ?_⟩; intro W hSw; try dsimp only at hSw
         go_simp)
      try simp only [List.setIfInBounds_toArray, List.set_cons_zero, List.set_cons_succ]
      refine take_on 7 23 (.int .i64 x0) rfl (by kernel_rfl) (by kernel_rfl) (by kernel_rfl) (fun _ _ _ _ _ h => h) ?_ (by assumption) ?_
      · (rintro oi h; cases h; refine ⟨by rfl, ?_⟩; intro W hSw; try dsimp only at hSw
         go_simp)
      try simp only [List.setIfInBounds_toArray, List.set_cons_zero, List.set_cons_succ]
      refine take_on 8 24 (.pointer (some ⟨w.heap.size, 3, none⟩)) rfl (by kernel_rfl) (by kernel_rfl) (by kernel_rfl) (fun _ _ _ _ _ h => h) ?_ (by assumption) ?_
      · (rintro oi h; cases h; refine ⟨by rfl, ?_⟩; intro W hSw; try dsimp only at hSw
         go_simp)
      try simp only [List.setIfInBounds_toArray, List.set_cons_zero, List.set_cons_succ]
      refine take_on 9 25 (.slice (some A) g.es.length ec) rfl (by kernel_rfl) (by kernel_rfl) (by kernel_rfl) (fun _ _ _ _ _ h => h) ?_ (by assumption) ?_
      · (rintro oi h; cases h; refine ⟨by rfl, ?_⟩; intro W hSw; try dsimp only at hSw
         go_simp)
      try simp only [List.setIfInBounds_toArray, List.set_cons_zero, List.set_cons_succ]
      refine take_on 10 26 (.int .i64 (k : Int)) rfl (by kernel_rfl) (by kernel_rfl) (by kernel_rfl) (fun _ _ _ _ _ h => h) ?_ (by assumption) ?_
      · (rintro oi h; cases h; refine ⟨by rfl, ?_⟩; intro W hSw; try dsimp only at hSw
         go_simp)
      try simp only [List.setIfInBounds_toArray, List.set_cons_zero, List.set_cons_succ]
      refine take_on 11 27 (.pointer (some (A.add (k * 7)))) rfl (by kernel_rfl) (by kernel_rfl) (by kernel_rfl) (fun _ _ _ _ _ h => h) ?_ (by assumption) ?_
      · (rintro oi h; cases h; refine ⟨by rfl, ?_⟩; intro W hSw; try dsimp only at hSw
         go_simp)
      try simp only [List.setIfInBounds_toArray, List.set_cons_zero, List.set_cons_succ]
      refine take_on 12 28 (.pointer (some ⟨(A.add (k * 7)).block, (A.add (k * 7)).off + 1, none⟩)) rfl (by kernel_rfl) (by kernel_rfl) (by kernel_rfl) (fun _ _ _ _ _ h => h) ?_ (by assumption) ?_
      · (rintro oi h; cases h; refine ⟨by rfl, ?_⟩; intro W hSw; try dsimp only at hSw
         go_simp)
      try simp only [List.setIfInBounds_toArray, List.set_cons_zero, List.set_cons_succ]
      refine take_on 13 29 (.int .i64 x1) rfl (by kernel_rfl) (by kernel_rfl) (by kernel_rfl) (fun _ _ _ _ _ h => h) ?_ (by assumption) ?_
      · (rintro oi h; cases h; refine ⟨by rfl, ?_⟩; intro W hSw; try dsimp only at hSw
         go_simp)
      try simp only [List.setIfInBounds_toArray, List.set_cons_zero, List.set_cons_succ]
      refine take_on 14 30 (.agg #[.int .i64 x0, .int .i64 x1]) rfl (by kernel_rfl) (by kernel_rfl) (by kernel_rfl) (fun _ _ _ _ _ h => h) ?_ (by assumption) ?_
      · (rintro oi h; cases h; refine ⟨by rfl, ?_⟩; intro W hSw; try dsimp only at hSw
         go_simp)
      try simp only [List.setIfInBounds_toArray, List.set_cons_zero, List.set_cons_succ]
      refine wpAnyH_ready (rs := [1, 15]) (by kernel_rfl) (by simp) ?_
      refine AllReadyH.cons rfl (fun K hK => ?_) (AllReadyH.cons rfl (fun K hK => ?_) AllReadyH.nil)
      ·
        go_simp
        refine hK.out _ _ (by repeat (first | assumption | (with_reducible refine sk_drew ?_) | (with_reducible refine sk_alloc ?_) | (with_reducible refine sk_set (by omega) (by omega) (by simp only; omega) ?_))) (fun hHeld => ?_)
        clear hK K
        try simp only [List.setIfInBounds_toArray, List.set_cons_zero, List.set_cons_succ]
        refine wpAnyH_ready (rs := [15]) (by kernel_rfl) (by simp) ?_
        refine AllReadyH.cons rfl (fun K hK => ?_) AllReadyH.nil
        go_simp
        refine hK.out _ _ (by repeat (first | assumption | (with_reducible refine sk_drew ?_) | (with_reducible refine sk_alloc ?_) | (with_reducible refine sk_set (by omega) (by omega) (by simp only; omega) ?_))) (fun hHeld => ?_)
        clear hK K
        try simp only [List.setIfInBounds_toArray, List.set_cons_zero, List.set_cons_succ]
        refine wpAnyH_ready (rs := [16]) (by kernel_rfl) (by simp) ?_
        refine AllReadyH.cons rfl (fun K hK => ?_) AllReadyH.nil
        refine step_append_lies _ (by rfl) _ _ _ (by rfl) (w.heap.size + 1 + 1 + 1) 61 i9 _ 2 16 Try.underlying33 hi0 hz0 hz1 hz2 rfl (by omega) (.slice ao k cap) k (C.flatMap arC) (by rfl) (by exact own_keep HROWc.out (by repeat (first | (with_reducible exact Below.refl _ _) | (with_reducible refine b_drew ?_) | (refine b_alloc (by first | omega | (simp; omega)) ?_)))) ⟨wr.heap.size, 0, none⟩ 1 1 [.int .i64 x0, .int .i64 x1] (by rfl) (by rfl) (by exact World.news_of_block (cs := #[.int .i64 x0, .int .i64 x1]) (t := 61) (fr := (0, 0)) (heap_alloc_new _ _)) (by simp [Value.oneCell']) (by omega) (by unfold maxLen; omega) (by omega) (by simp; omega) (wr.heap.size + 1) (by simp) ?_
        intro gg cap1 w1 hown1 hgrow hat1 hlt1
        have hb4 := Below.grown (B := w.heap.size + 1 + 1 + 1) (a := wr) (by repeat (first | (with_reducible exact Below.refl _ _) | (with_reducible refine b_drew ?_) | (refine b_alloc (by first | omega | (simp; omega)) ?_))) hgrow (by simp; omega) (fun q hq => (World.ownsRow.lt HROWc.out q hq).1)
        have HS1 := sk_below hb4 (by omega) (by omega) (by simp only; omega) hS0
        have g4' := dgb_below hb4 (by omega) HD1.out
        obtain ⟨e0, e1, e2, e3⟩ := id g4'
        refine hK.out _ _ HS1 (fun hHeld => ?_)
        clear hK K
        try simp only [List.setIfInBounds_toArray, List.set_cons_zero, List.set_cons_succ]
        refine take_on 17 33 (.pointer (some ⟨w.heap.size + 1 + 1, 1, none⟩)) rfl (by kernel_rfl) (by kernel_rfl) (by kernel_rfl) (fun _ _ _ _ _ h => h) ?_ (by assumption) ?_
        · (rintro oi h; cases h; refine ⟨by rfl, ?_⟩; intro W hSw; try dsimp only at hSw
           go_simp)
        try simp only [List.setIfInBounds_toArray, List.set_cons_zero, List.set_cons_succ]
        refine wpAnyH_ready (rs := [18]) (by kernel_rfl) (by simp) ?_
        refine AllReadyH.cons rfl (fun K hK => ?_) AllReadyH.nil
        go_simp
        refine hK.out _ _ (by repeat (first | assumption | (with_reducible refine sk_drew ?_) | (with_reducible refine sk_alloc ?_) | (with_reducible refine sk_set (by omega) (by omega) (by simp only; omega) ?_))) (fun hHeld => ?_)
        clear hK K
        try simp only [List.setIfInBounds_toArray, List.set_cons_zero, List.set_cons_succ]
        refine wpAnyH_done (by kernel_rfl) ?_ _
        have HROW4 : Hid (Arow w1 (w.heap.size + 1 + 1 + 1) (.slice (some ⟨gg, 0, none⟩) (k + 1) cap1) (C ++ [(x0, x1)])) := Lib.hid (by unfold Arow; rw [List.length_append, List.flatMap_append, hCl]; exact hown1)
        have HD14 := Lib.hid g4'
        have HD04 := Lib.hid (dgb_below hb4 (by omega) HD0.out)
        have HG4 := Lib.hid (gat_below hb4 (by omega) HGAT.out)
        have HB4 := Lib.hid (HB.out.trans (hb4.mono (by omega)))
        have HS4 := Lib.hid (Nat.le_trans hsz hb4.size)
        clear hown1 hgrow hb4 g4'
        go_wp2
        go_roundw
        case rel => exact ⟨k + 1, some ⟨gg, 0, none⟩, cap1, _, by go_num, by omega, HAT.out, by simp [hCl], ownsRow_setCell_below HROW4.out (by simp) _, gat_far (by omega) HG4.out, dgb_far (by omega) HD04.out, dgb_set1 _ _ _ HD14.out, HB4.out.setCell (by simp; omega) _, by simpa using HS4.out⟩
        case measure => simp [intOf]; omega
      ·
        go_simp
        refine hK.out _ _ (by repeat (first | assumption | (with_reducible refine sk_drew ?_) | (with_reducible refine sk_alloc ?_) | (with_reducible refine sk_set (by omega) (by omega) (by simp only; omega) ?_))) (fun hHeld => ?_)
        clear hK K
        try simp only [List.setIfInBounds_toArray, List.set_cons_zero, List.set_cons_succ]
        refine wpAnyH_ready (rs := [1]) (by kernel_rfl) (by simp) ?_
        refine AllReadyH.cons rfl (fun K hK => ?_) AllReadyH.nil
        go_simp
        refine hK.out _ _ (by repeat (first | assumption | (with_reducible refine sk_drew ?_) | (with_reducible refine sk_alloc ?_) | (with_reducible refine sk_set (by omega) (by omega) (by simp only; omega) ?_))) (fun hHeld => ?_)
        clear hK K
        try simp only [List.setIfInBounds_toArray, List.set_cons_zero, List.set_cons_succ]
        refine wpAnyH_ready (rs := [16]) (by kernel_rfl) (by simp) ?_
        refine AllReadyH.cons rfl (fun K hK => ?_) AllReadyH.nil
        refine step_append_lies _ (by rfl) _ _ _ (by rfl) (w.heap.size + 1 + 1 + 1) 61 i9 _ 2 16 Try.underlying33 hi0 hz0 hz1 hz2 rfl (by omega) (.slice ao k cap) k (C.flatMap arC) (by rfl) (by exact own_keep HROWc.out (by repeat (first | (with_reducible exact Below.refl _ _) | (with_reducible refine b_drew ?_) | (refine b_alloc (by first | omega | (simp; omega)) ?_)))) ⟨wr.heap.size, 0, none⟩ 1 1 [.int .i64 x0, .int .i64 x1] (by rfl) (by rfl) (by exact World.news_of_block (cs := #[.int .i64 x0, .int .i64 x1]) (t := 61) (fr := (0, 0)) (heap_alloc_new _ _)) (by simp [Value.oneCell']) (by omega) (by unfold maxLen; omega) (by omega) (by simp; omega) (wr.heap.size + 1) (by simp) ?_
        intro gg cap1 w1 hown1 hgrow hat1 hlt1
        have hb4 := Below.grown (B := w.heap.size + 1 + 1 + 1) (a := wr) (by repeat (first | (with_reducible exact Below.refl _ _) | (with_reducible refine b_drew ?_) | (refine b_alloc (by first | omega | (simp; omega)) ?_))) hgrow (by simp; omega) (fun q hq => (World.ownsRow.lt HROWc.out q hq).1)
        have HS1 := sk_below hb4 (by omega) (by omega) (by simp only; omega) hS0
        have g4' := dgb_below hb4 (by omega) HD1.out
        obtain ⟨e0, e1, e2, e3⟩ := id g4'
        refine hK.out _ _ HS1 (fun hHeld => ?_)
        clear hK K
        try simp only [List.setIfInBounds_toArray, List.set_cons_zero, List.set_cons_succ]
        refine take_on 17 33 (.pointer (some ⟨w.heap.size + 1 + 1, 1, none⟩)) rfl (by kernel_rfl) (by kernel_rfl) (by kernel_rfl) (fun _ _ _ _ _ h => h) ?_ (by assumption) ?_
        · (rintro oi h; cases h; refine ⟨by rfl, ?_⟩; intro W hSw; try dsimp only at hSw
           go_simp)
        try simp only [List.setIfInBounds_toArray, List.set_cons_zero, List.set_cons_succ]
        refine wpAnyH_ready (rs := [18]) (by kernel_rfl) (by simp) ?_
        refine AllReadyH.cons rfl (fun K hK => ?_) AllReadyH.nil
        go_simp
        refine hK.out _ _ (by repeat (first | assumption | (with_reducible refine sk_drew ?_) | (with_reducible refine sk_alloc ?_) | (with_reducible refine sk_set (by omega) (by omega) (by simp only; omega) ?_))) (fun hHeld => ?_)
        clear hK K
        try simp only [List.setIfInBounds_toArray, List.set_cons_zero, List.set_cons_succ]
        refine wpAnyH_done (by kernel_rfl) ?_ _
        have HROW4 : Hid (Arow w1 (w.heap.size + 1 + 1 + 1) (.slice (some ⟨gg, 0, none⟩) (k + 1) cap1) (C ++ [(x0, x1)])) := Lib.hid (by unfold Arow; rw [List.length_append, List.flatMap_append, hCl]; exact hown1)
        have HD14 := Lib.hid g4'
        have HD04 := Lib.hid (dgb_below hb4 (by omega) HD0.out)
        have HG4 := Lib.hid (gat_below hb4 (by omega) HGAT.out)
        have HB4 := Lib.hid (HB.out.trans (hb4.mono (by omega)))
        have HS4 := Lib.hid (Nat.le_trans hsz hb4.size)
        clear hown1 hgrow hb4 g4'
        go_wp2
        go_roundw
        case rel => exact ⟨k + 1, some ⟨gg, 0, none⟩, cap1, _, by go_num, by omega, HAT.out, by simp [hCl], ownsRow_setCell_below HROW4.out (by simp) _, gat_far (by omega) HG4.out, dgb_far (by omega) HD04.out, dgb_set1 _ _ _ HD14.out, HB4.out.setCell (by simp; omega) _, by simpa using HS4.out⟩
        case measure => simp [intOf]; omega
    · obtain rfl : k = g.es.length := by omega
      have HC2 : Hid (C = arcsL g) := Lib.hid (by rw [← HC.out, List.take_of_length_le (by simp [arcsL])])
      obtain ⟨d0, d1, d2, d3⟩ := hd1
      obtain ⟨e0, e1, e2, e3⟩ := HD0.out
      go_wp2
      have r0 : (wr.setCell ⟨w.heap.size + 1, 0, none⟩ (.int .i64 n)).cell? ⟨w.heap.size + 1, 0, none⟩ = some (.int .i64 n) := by go_simp
      have r1 : ((wr.setCell ⟨w.heap.size + 1, 0, none⟩ (.int .i64 n)).setCell ⟨w.heap.size + 1, 1, none⟩ (.slice ao g.es.length cap)).cell? ⟨w.heap.size + 1, 1, none⟩ = some (.slice ao g.es.length cap) := by go_simp
      refine bodyPost_ret (v := .agg #[.int .i64 n, .slice ao g.es.length cap]) (by simp [results, Try.results15, go_sem, r0, r1]) rfl ?_
      refine ⟨_, rfl, ⟨_, rfl, ?_⟩, (HB.out.setCell (by simp) _).setCell (by simp) _⟩
      have HROW2 := HROW.out
      rw [← hCl] at HROW2
      rw [← HC2.out, ← hCl]
      exact Arow.ars (ownsRow_setCell_below (ownsRow_setCell_below HROW2 (by simp) _) (by simp) _)
end Go.Proofs.Ytjeacpohanadnaa.gra
