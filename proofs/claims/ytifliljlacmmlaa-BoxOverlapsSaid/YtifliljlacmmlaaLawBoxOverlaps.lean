/-
  BoxOverlaps: two boxes overlap exactly if some point with half coordinates lies in the interiors of both, as the statement says. No condition.
-/
import Derived.Test.YtifliljlacmmlaaBoxNear
import Derived.Deep.RegionHeld3
import Derived.Deep.DeepCutAuto
import Derived.Deep.CutBlock
namespace Go.Proofs.Ytifliljlacmmlaa.loverlaps
open Go.ChangeShapes Go.WideShapes Go.ChangeAt Go.RowKit

theorem far1 (a b c d x y z u : Int) (w : World) (H1 : Hid (nearB a b c d = false)) :
    Calls Try.prog 5 #[.agg #[.int .i64 a, .int .i64 b, .int .i64 c, .int .i64 d], .agg #[.int .i64 x, .int .i64 y, .int .i64 z, .int .i64 u]] w fun e w' => e = .returned (.bool true) ∧ Below w.heap.size w w' := by
  go_enter Try.func5, Try.ntmps5
  go_wp2_with fail
  refine (near_of _ _ _ _ _ _ H1).mono ?_
  rintro e w1 ⟨rfl, hb1⟩
  have hq1 := below_keep hb1 (al2 ..)
  have f0_1 : at4 w1 (w.heap.size) a b c d := by simpa using at4_keep hb1 (at4_keep (al1 ..) (at4_new w a b c d 23))
  have f1_1 : at4 w1 (w.heap.size + 1) x y z u := by simpa using at4_keep hb1 (at4_new (w.alloc (.cells #[.int .i64 a, .int .i64 b, .int .i64 c, .int .i64 d] 23)) x y z u 23)
  have g := f0_1; obtain ⟨c0_1_0, c0_1_1, c0_1_2, c0_1_3⟩ := g
  have g := f1_1; obtain ⟨c1_1_0, c1_1_1, c1_1_2, c1_1_3⟩ := g
  go_wp2_with fail
  refine (awake_any _).mono ?_
  rintro e w2 ⟨rfl, hb2⟩
  have hq2 := below_keep hb2 (hq1)
  have f0_2 : at4 w2 (w.heap.size) a b c d := at4_keep hb2 (f0_1)
  have f1_2 : at4 w2 (w.heap.size + 1) x y z u := at4_keep hb2 (f1_1)
  clear f0_1 c0_1_0 c0_1_1 c0_1_2 c0_1_3
  clear f1_1 c1_1_0 c1_1_1 c1_1_2 c1_1_3
  have g := f0_2; obtain ⟨c0_2_0, c0_2_1, c0_2_2, c0_2_3⟩ := g
  have g := f1_2; obtain ⟨c1_2_0, c1_2_1, c1_2_2, c1_2_3⟩ := g
  go_wp2
  go_ret
  exact ⟨rfl, hq2⟩

theorem far2 (a b c d x y z u : Int) (w : World) (H1 : Hid (nearB a b c d = true)) (H2 : Hid (nearB x y z u = false)) :
    Calls Try.prog 5 #[.agg #[.int .i64 a, .int .i64 b, .int .i64 c, .int .i64 d], .agg #[.int .i64 x, .int .i64 y, .int .i64 z, .int .i64 u]] w fun e w' => e = .returned (.bool true) ∧ Below w.heap.size w w' := by
  go_enter Try.func5, Try.ntmps5
  go_wp2_with fail
  refine (near_of _ _ _ _ _ _ H1).mono ?_
  rintro e w1 ⟨rfl, hb1⟩
  have hq1 := below_keep hb1 (al2 ..)
  have f0_1 : at4 w1 (w.heap.size) a b c d := by simpa using at4_keep hb1 (at4_keep (al1 ..) (at4_new w a b c d 23))
  have f1_1 : at4 w1 (w.heap.size + 1) x y z u := by simpa using at4_keep hb1 (at4_new (w.alloc (.cells #[.int .i64 a, .int .i64 b, .int .i64 c, .int .i64 d] 23)) x y z u 23)
  have g := f0_1; obtain ⟨c0_1_0, c0_1_1, c0_1_2, c0_1_3⟩ := g
  have g := f1_1; obtain ⟨c1_1_0, c1_1_1, c1_1_2, c1_1_3⟩ := g
  go_wp2_with fail
  refine (near_of _ _ _ _ _ _ H2).mono ?_
  rintro e w2 ⟨rfl, hb2⟩
  have hq2 := below_keep hb2 (hq1)
  have f0_2 : at4 w2 (w.heap.size) a b c d := at4_keep hb2 (f0_1)
  have f1_2 : at4 w2 (w.heap.size + 1) x y z u := at4_keep hb2 (f1_1)
  clear f0_1 c0_1_0 c0_1_1 c0_1_2 c0_1_3
  clear f1_1 c1_1_0 c1_1_1 c1_1_2 c1_1_3
  have g := f0_2; obtain ⟨c0_2_0, c0_2_1, c0_2_2, c0_2_3⟩ := g
  have g := f1_2; obtain ⟨c1_2_0, c1_2_1, c1_2_2, c1_2_3⟩ := g
  go_wp2_with fail
  refine (awake_any _).mono ?_
  rintro e w3 ⟨rfl, hb3⟩
  have hq3 := below_keep hb3 (hq2)
  have f0_3 : at4 w3 (w.heap.size) a b c d := at4_keep hb3 (f0_2)
  have f1_3 : at4 w3 (w.heap.size + 1) x y z u := at4_keep hb3 (f1_2)
  clear f0_2 c0_2_0 c0_2_1 c0_2_2 c0_2_3
  clear f1_2 c1_2_0 c1_2_1 c1_2_2 c1_2_3
  have g := f0_3; obtain ⟨c0_3_0, c0_3_1, c0_3_2, c0_3_3⟩ := g
  have g := f1_3; obtain ⟨c1_3_0, c1_3_1, c1_3_2, c1_3_3⟩ := g
  go_wp2
  go_ret
  exact ⟨rfl, hq3⟩

/-- What both loops keep. -/
def Inv (a b c d x y z u X Y : Int) (s : Bool) (w wr : World) : Prop := Seen (fun p q => half a b c d p q && half x y z u p q) X Y s ∧ Below w.heap.size w wr ∧ at4 wr w.heap.size a b c d ∧ at4 wr (w.heap.size + 1) x y z u
theorem Inv.keep {a b c d x y z u X Y : Int} {s : Bool} {w w1 w2 : World} (h : Inv a b c d x y z u X Y s w w1) (h2 : Below w1.heap.size w1 w2) : Inv a b c d x y z u X Y s w w2 :=
  ⟨h.1, below_keep h2 h.2.1, at4_keep h2 h.2.2.1, at4_keep h2 h.2.2.2⟩
theorem Inv.next {a b c d x y z u X Y : Int} {s : Bool} {w w1 : World} (h : Inv a b c d x y z u X Y s w w1) (hX : -24 ≤ X) (hY : -24 ≤ Y) (hY' : Y ≤ 24) {p q : Bool} (hp : half a b c d X Y = p) (hq : half x y z u X Y = q) : Inv a b c d x y z u X (Y + 1) (s || (p && q)) w w1 := by
  subst hp hq
  exact ⟨seen_next _ X Y s hX hY hY' h.1, h.2⟩
theorem Inv.row {a b c d x y z u X : Int} {s : Bool} {w w1 : World} (h : Inv a b c d x y z u X 25 s w w1) : Inv a b c d x y z u (X + 1) (-24) s w w1 := ⟨seen_row _ X s h.1, h.2⟩

set_option maxRecDepth 100000 in
set_option maxHeartbeats 4000000 in
theorem both (a b c d x y z u : Int) (w : World) (H1 : Hid (nearB a b c d = true)) (H2 : Hid (nearB x y z u = true)) :
    Calls Try.prog 5 #[.agg #[.int .i64 a, .int .i64 b, .int .i64 c, .int .i64 d], .agg #[.int .i64 x, .int .i64 y, .int .i64 z, .int .i64 u]] w fun e w' => e = .returned (.bool true) ∧ Below w.heap.size w w' := by
  obtain ⟨x1, x2, x3, x4, x5, x6⟩ := (nearB_iff _ _ _ _).1 H1.out
  obtain ⟨y1, y2, y3, y4, y5, y6⟩ := (nearB_iff _ _ _ _).1 H2.out
  go_enter Try.func5, Try.ntmps5
  go_wp2_with fail
  refine (near_of _ _ _ _ _ _ H1).mono ?_
  rintro e w1 ⟨rfl, hb1⟩
  have hq1 := below_keep hb1 (al2 ..)
  have f0_1 : at4 w1 (w.heap.size) a b c d := by simpa using at4_keep hb1 (at4_keep (al1 ..) (at4_new w a b c d 23))
  have f1_1 : at4 w1 (w.heap.size + 1) x y z u := by simpa using at4_keep hb1 (at4_new (w.alloc (.cells #[.int .i64 a, .int .i64 b, .int .i64 c, .int .i64 d] 23)) x y z u 23)
  have g := f0_1; obtain ⟨c0_1_0, c0_1_1, c0_1_2, c0_1_3⟩ := g
  have g := f1_1; obtain ⟨c1_1_0, c1_1_1, c1_1_2, c1_1_3⟩ := g
  go_wp2_with fail
  refine (near_of _ _ _ _ _ _ H2).mono ?_
  rintro e w2 ⟨rfl, hb2⟩
  have hq2 := below_keep hb2 (hq1)
  have f0_2 : at4 w2 (w.heap.size) a b c d := at4_keep hb2 (f0_1)
  have f1_2 : at4 w2 (w.heap.size + 1) x y z u := at4_keep hb2 (f1_1)
  clear f0_1 c0_1_0 c0_1_1 c0_1_2 c0_1_3
  clear f1_1 c1_1_0 c1_1_1 c1_1_2 c1_1_3
  have g := f0_2; obtain ⟨c0_2_0, c0_2_1, c0_2_2, c0_2_3⟩ := g
  have g := f1_2; obtain ⟨c1_2_0, c1_2_1, c1_2_2, c1_2_3⟩ := g
  have hI0 : Inv a b c d x y z u (-24) (-24) false w w2 := ⟨seen_start _, hq2, f0_2, f1_2⟩
  clear hb1 hb2 hq1 hq2 f0_2 f1_2 c0_2_0 c0_2_1 c0_2_2 c0_2_3 c1_2_0 c1_2_1 c1_2_2 c1_2_3
  go_wp2_with fail
  go_loopw [5, 6] (fun s i wr => ∃ (X : Int) (v : Bool), -24 ≤ X ∧ X ≤ 25 ∧ s = .bool v ∧ i = .int .i64 X ∧ Inv a b c d x y z u X (-24) v w wr) (fun _ i _ => (25 - intOf i).toNat)
  case atStart => exact ⟨-24, false, by omega, by omega, rfl, rfl, hI0⟩
  case round =>
    obtain ⟨X, v, hX, hX', rfl, rfl, hI⟩ := hrel
    by_cases hlt : X ≤ 24
    · go_wp2_with fail
      go_loopw [5, 7] (fun s j wr => ∃ (Y : Int) (v : Bool), -24 ≤ Y ∧ Y ≤ 25 ∧ s = .bool v ∧ j = .int .i64 Y ∧ Inv a b c d x y z u X Y v w wr) (fun _ j _ => (25 - intOf j).toNat)
      case atStart => exact ⟨-24, v, by omega, by omega, rfl, rfl, hI⟩
      case round =>
        clear hI
        obtain ⟨Y, v, hY, hY', rfl, rfl, hI⟩ := hrel
        by_cases hlu : Y ≤ 24
        · obtain ⟨p, hp⟩ : ∃ v, half a b c d X Y = v := ⟨_, rfl⟩
          obtain ⟨q, hq⟩ : ∃ v, half x y z u X Y = v := ⟨_, rfl⟩
          have HP := Lib.hid hp
          have HQ := Lib.hid hq
          clear hp hq
          obtain ⟨k0, k1, k2, k3⟩ := id hI.2.2.1
          obtain ⟨k4, k5, k6, k7⟩ := id hI.2.2.2
          cases v
          · cases p
            · go_wp2_with fail
              refine (half_of _ _ _ _ _ _ _ _ (by omega) (by omega) (by omega) (by omega) (by omega) (by omega) (by omega) (by omega) HP).mono ?_
              rintro e w3 ⟨rfl, hb3⟩
              have hI3 := hI.keep hb3
              clear hb3
              go_wp2
              go_roundw
              case rel => exact ⟨Y + 1, false, by omega, by omega, rfl, by go_num, hI3.next hX hY hlu HP.out HQ.out⟩
              case measure => simp [intOf]; omega
            · go_wp2_with fail
              refine (half_of _ _ _ _ _ _ _ _ (by omega) (by omega) (by omega) (by omega) (by omega) (by omega) (by omega) (by omega) HP).mono ?_
              rintro e w3 ⟨rfl, hb3⟩
              have hI3 := hI.keep hb3
              clear hb3 hI k0 k1 k2 k3 k4 k5 k6 k7
              obtain ⟨k4, k5, k6, k7⟩ := id hI3.2.2.2
              go_wp2_with fail
              refine (half_of _ _ _ _ _ _ _ _ (by omega) (by omega) (by omega) (by omega) (by omega) (by omega) (by omega) (by omega) HQ).mono ?_
              rintro e w4 ⟨rfl, hb4⟩
              have hI4 := hI3.keep hb4
              clear hb4
              go_wp2
              go_roundw
              case rel => exact ⟨Y + 1, q, by omega, by omega, rfl, by go_num, by have := hI4.next hX hY hlu HP.out HQ.out; simpa using this⟩
              case measure => simp [intOf]; omega
          · go_wp2
            go_roundw
            case rel => exact ⟨Y + 1, true, by omega, by omega, rfl, by go_num, hI.next hX hY hlu HP.out HQ.out⟩
            case measure => simp [intOf]; omega
        · obtain rfl : Y = 25 := by omega
          go_wp2
          go_roundw
          case rel => exact ⟨X + 1, v, by omega, by omega, rfl, by go_num, hI.row⟩
          case measure => simp [intOf]; omega
    · obtain rfl : X = 25 := by omega
      have HO : Hid (ovl a b c d x y z u = v) := Lib.hid (seen_end a b c d x y z u v H1.out H2.out hI.1)
      have e1 : (v == v) = true := by simp
      obtain ⟨k0, k1, k2, k3⟩ := id hI.2.2.1
      obtain ⟨k4, k5, k6, k7⟩ := id hI.2.2.2
      go_wp2_with fail
      refine (ovl_of _ _ _ _ _ _ _ _ _ _ HO).mono ?_
      rintro e w3 ⟨rfl, hb3⟩
      go_wp2_with fail
      refine (awake_any _).mono ?_
      rintro e w4 ⟨rfl, hb4⟩
      go_wp2
      go_ret
      exact ⟨rfl, below_keep hb4 (below_keep hb3 hI.2.1)⟩

theorem top (a b c d x y z u : Int) (w : World) :
    Calls Try.prog 5 #[.agg #[.int .i64 a, .int .i64 b, .int .i64 c, .int .i64 d], .agg #[.int .i64 x, .int .i64 y, .int .i64 z, .int .i64 u]] w fun e w' => e = .returned (.bool true) ∧ Below w.heap.size w w' := by
  obtain ⟨p, hp⟩ : ∃ v, nearB a b c d = v := ⟨_, rfl⟩
  obtain ⟨q, hq⟩ : ∃ v, nearB x y z u = v := ⟨_, rfl⟩
  cases p
  · exact far1 a b c d x y z u w (Lib.hid hp)
  cases q
  · exact far2 a b c d x y z u w (Lib.hid hp) (Lib.hid hq)
  · exact both a b c d x y z u w (Lib.hid hp) (Lib.hid hq)

set_option maxRecDepth 100000 in
theorem lifted (os : Os) (started : os.Started) (H : Type) (enc : TypeId × Value → H) :
    ReturnsInHanded {} Try.checked os 5 .any (Rows.boxOverlapsSpec.pre6 enc Try.prog Try.f5 Rows.boxOverlapsRow.domain false) (Rows.boxOverlapsSpec.post enc Try.prog Try.f5 false true false false) := by
  refine returnsInHanded_of_change (C := Try.checked) own started (by kernel_rfl) Try.func5
    (ChangeSpec.witness6 (enc := enc) (C := Try.checked) false ⟨#[], #[.agg #[.int .i64 0, .int .i64 0, .int .i64 0, .int .i64 0], .agg #[.int .i64 0, .int .i64 0, .int .i64 0, .int .i64 0]], []⟩ 8 (by kernel_rfl) (by kernel_rfl) (by kernel_rfl) (by kernel_rfl)) ?_
  intro W base args ds gs before hval0 hW _ _
  have hval : ∀ (j : Nat) t v, Try.f5.params[j]? = some t → args[j]? = some v → Value.okWide Try.prog W .any base t v := hval0
  have hW' := hW
  obtain ⟨p, q, hA0, hV, rfl, hfz, hnd⟩ := hW
  have hA : DataW.TrodAll enc Try.prog W 0 (fun _ => true) true Try.f5.params.toList args.toList ds p := hA0
  rw [Try.params5] at hA hval
  obtain ⟨v0, v1, d0, d1, p0, p1, rfl, rfl, rfl, h0, h1⟩ := trodAll_two hA
  obtain ⟨rfl, rfl⟩ := trodVars_none hV
  obtain ⟨x0, y0, z0, u0, rfl, rfl, rfl, wx0, wy0, wz0, wu0⟩ := open_box (hval 0 23 v0 rfl rfl) h0
  obtain ⟨x1, y1, z1, u1, rfl, rfl, rfl, wx1, wy1, wz1, wu1⟩ := open_box (hval 1 23 v1 rfl rfl) h1
  clear hA0 hval0
  simp only [List.append_nil] at hW'
  refine (top x0 y0 z0 u0 x1 y1 z1 u1  W).mono fun e W' ⟨he, hb⟩ => ?_
  subst he
  exact ⟨_, rfl, _, _, _, [], [], [], hW', trodAll_mk1 (shut_bool Try.underlying4 _), trodAll_mk2 (shut_box wx0 wy0 wz0 wu0) (shut_box wx1 wy1 wz1 wu1), rfl, hb.frame _, fun h => by cases h⟩

/-- The statement. -/
theorem holds : Rows.BoxOverlapsSaid :=
  OpenClaim.holds_of_wide 5 Try.f5 rfl rfl rfl rfl rfl rfl rfl ⟨rfl, rfl, rfl, rfl, rfl⟩ rfl rfl rfl rfl rfl (by kernel_rfl) Try.func5 (by kernel_rfl)
    (of_decide_eq_true (by kernel_rfl)) (by unfold Func.isWrapper; first | (rw [if_pos (by decide +kernel)]; kernel_rfl) | (rw [if_neg (by decide +kernel)]; exact ⟨rfl, rfl⟩))
    (fun os started H enc _ => lifted os started H enc)
#print axioms holds

end Go.Proofs.Ytifliljlacmmlaa.loverlaps
