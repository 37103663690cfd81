/-
  What span and some of layer 3's reference return. Conditions: of span, small numbers.
-/
import Derived.Test.YtifliljlacmmlaaBoxMake
namespace Go.Proofs.Ytifliljlacmmlaa
open Go.RowKit

/-- A span in memory. -/
def atS (W : World) (b : Nat) (l h d : Int) (o : Bool) : Prop := W.cell? ⟨b, 0, none⟩ = some (.int .i64 l) ∧ W.cell? ⟨b, 1, none⟩ = some (.int .i64 h) ∧ W.cell? ⟨b, 2, none⟩ = some (.int .i64 d) ∧ W.cell? ⟨b, 3, none⟩ = some (.bool o)
theorem atS_new (w : World) (l h d : Int) (o : Bool) (t : TypeId) : atS (w.alloc (.cells #[.int .i64 l, .int .i64 h, .int .i64 d, .bool o] t)) w.heap.size l h d o := by
  refine ⟨?_, ?_, ?_, ?_⟩ <;> go_simp
theorem atS_keep {w1 w2 : World} {b : Nat} {l h d : Int} {o : Bool} (h2 : Below w1.heap.size w1 w2) (k : atS w1 b l h d o) : atS w2 b l h d o :=
  ⟨cell_keep h2 k.1, cell_keep h2 k.2.1, cell_keep h2 k.2.2.1, cell_keep h2 k.2.2.2⟩

/-- The same of a span that may be written. -/
def owS (W : World) (b : Nat) (l h d : Int) (o : Bool) : Prop := W.cell? ⟨b, 0, none⟩ = some (.int .i64 l) ∧ W.cell? ⟨b, 1, none⟩ = some (.int .i64 h) ∧ W.cell? ⟨b, 2, none⟩ = some (.int .i64 d) ∧ W.cell? ⟨b, 3, none⟩ = some (.bool o) ∧
  W.frozen? ⟨b, 0, none⟩ = false ∧ W.frozen? ⟨b, 1, none⟩ = false ∧ W.frozen? ⟨b, 2, none⟩ = false ∧ W.frozen? ⟨b, 3, none⟩ = false
theorem owS_new (w : World) (l h d : Int) (o : Bool) (t : TypeId) : owS (w.alloc (.cells #[.int .i64 l, .int .i64 h, .int .i64 d, .bool o] t)) w.heap.size l h d o := by
  refine ⟨?_, ?_, ?_, ?_, ?_, ?_, ?_, ?_⟩ <;> go_simp
theorem owS_keep {w1 w2 : World} {b : Nat} {l h d : Int} {o : Bool} (h2 : Below w1.heap.size w1 w2) (k : owS w1 b l h d o) : owS w2 b l h d o := by
  obtain ⟨a, b, c, d, e, f, g, i⟩ := k
  exact ⟨cell_keep h2 a, cell_keep h2 b, cell_keep h2 c, cell_keep h2 d, fr_keep h2 a e, fr_keep h2 b f, fr_keep h2 c g, fr_keep h2 d i⟩

theorem some_of (l h d : Int) (o v : Bool) (w : World) (hv : Hid (someB l h d o = v)) :
    Calls Try.prog 39 #[.agg #[.int .i64 l, .int .i64 h, .int .i64 d, .bool o]] w fun e w' => e = .returned (.bool v) ∧ Below w.heap.size w w' := by
  cases o
  all_goals
    go_enter Try.func39, Try.ntmps39
    go_wp2
    all_goals go_ret
    all_goals refine ⟨ret_bool ?_, (Below.refl _ _).alloc (Nat.le_refl _) _⟩
    all_goals (rw [← hv.out, Bool.eq_iff_iff]; unfold someB; simp)
    all_goals omega

theorem span_pos (a d lo hi : Int) (o : Bool) (w : World) (h0 : 0 ≤ d) (h1 : -268435456 ≤ a) (h2 : a ≤ 268435456) (h3 : -268435456 ≤ lo) (h4 : lo ≤ 268435456) (h5 : -268435456 ≤ hi) (h6 : hi ≤ 268435456) (ho : Hid (spO a d lo hi = o)) :
    Calls Try.prog 38 #[.int .i64 a, .int .i64 d, .int .i64 lo, .int .i64 hi] w fun e w' => e = .returned (.agg #[.int .i64 (lo - a), .int .i64 (hi - a), .int .i64 d, .bool o]) ∧ Below w.heap.size w w' := by
  have hc : (0 < d ∧ o = true) ∨ (d = 0 ∧ a ≤ lo ∧ o = false) ∨ (d = 0 ∧ lo < a ∧ hi ≤ a ∧ o = false) ∨ (d = 0 ∧ lo < a ∧ a < hi ∧ o = true) := by
    have := ho.out
    unfold spO at this
    rw [← this]
    by_cases g1 : 0 < d <;> by_cases g2 : lo < a <;> by_cases g3 : a < hi <;> simp [g1, g2, g3] <;> omega
  clear ho
  rcases hc with ⟨g1, rfl⟩ | ⟨rfl, g2, rfl⟩ | ⟨rfl, g2, g3, rfl⟩ | ⟨rfl, g2, g3, rfl⟩
  · go_enter Try.func38, Try.ntmps38
    go_wp2
    exact bodyPost_ret (v := .agg #[.int .i64 (lo - a), .int .i64 (hi - a), .int .i64 d, .bool true]) (by simp [results, Try.results38, go_sem] <;> omega) rfl ⟨rfl, al1 ..⟩
  · go_enter Try.func38, Try.ntmps38
    go_wp2
    exact bodyPost_ret (v := .agg #[.int .i64 (lo - a), .int .i64 (hi - a), .int .i64 0, .bool false]) (by simp [results, Try.results38, go_sem] <;> omega) rfl ⟨rfl, al1 ..⟩
  · go_enter Try.func38, Try.ntmps38
    go_wp2
    exact bodyPost_ret (v := .agg #[.int .i64 (lo - a), .int .i64 (hi - a), .int .i64 0, .bool false]) (by simp [results, Try.results38, go_sem] <;> omega) rfl ⟨rfl, al1 ..⟩
  · go_enter Try.func38, Try.ntmps38
    go_wp2
    exact bodyPost_ret (v := .agg #[.int .i64 (lo - a), .int .i64 (hi - a), .int .i64 0, .bool true]) (by simp [results, Try.results38, go_sem] <;> omega) rfl ⟨rfl, al1 ..⟩

theorem span_of (a d lo hi l h e : Int) (o : Bool) (w : World) (h0 : -536870912 ≤ d) (h00 : d ≤ 536870912) (h1 : -268435456 ≤ a) (h2 : a ≤ 268435456) (h3 : -268435456 ≤ lo) (h4 : lo ≤ 268435456) (h5 : -268435456 ≤ hi) (h6 : hi ≤ 268435456)
    (hl : Hid (spL a d lo hi = l)) (hh : Hid (spH a d lo hi = h)) (he : Hid (spD d = e)) (ho : Hid (spO a d lo hi = o)) :
    Calls Try.prog 38 #[.int .i64 a, .int .i64 d, .int .i64 lo, .int .i64 hi] w fun e' w' => e' = .returned (.agg #[.int .i64 l, .int .i64 h, .int .i64 e, .bool o]) ∧ Below w.heap.size w w' := by
  by_cases hd : d < 0
  · have hl' := hl.out
    have hh' := hh.out
    have he' := he.out
    have ho' := ho.out
    unfold spL at hl'
    unfold spH at hh'
    unfold spD at he'
    unfold spO at ho'
    rw [if_pos hd] at hl' hh' he'
    simp [hd] at ho'
    subst hl' hh' he' ho'
    have HN : Hid (spO (-a) (-d) (-hi) (-lo) = true) := Lib.hid (by unfold spO; simp; omega)
    clear hl hh he ho
    go_enter Try.func38, Try.ntmps38
    go_wp2_with fail
    refine (span_pos (-a) (-d) (-hi) (-lo) true _ (by omega) (by omega) (by omega) (by omega) (by omega) (by omega) (by omega) HN).mono ?_
    rintro e' w1 ⟨rfl, hb1⟩
    have hq1 := below_keep hb1 (al1 ..)
    have f0 := owS_keep hb1 (owS_new w 0 0 0 false 52)
    obtain ⟨c0, c1, c2, c3, c4, c5, c6, c7⟩ := f0
    clear hb1
    go_wp2
    exact bodyPost_ret (v := .agg #[.int .i64 (-hi - -a), .int .i64 (-lo - -a), .int .i64 (-d), .bool true]) (by simp [results, Try.results38, go_sem, c0, c1, c2, c3]) rfl ⟨rfl, set4 hq1 (by omega)⟩
  · have hl' := hl.out
    have hh' := hh.out
    have he' := he.out
    unfold spL at hl'
    unfold spH at hh'
    unfold spD at he'
    rw [if_neg hd] at hl' hh' he'
    subst hl' hh' he'
    exact span_pos a d lo hi o w (by omega) h1 h2 h3 h4 h5 h6 ho
end Go.Proofs.Ytifliljlacmmlaa
