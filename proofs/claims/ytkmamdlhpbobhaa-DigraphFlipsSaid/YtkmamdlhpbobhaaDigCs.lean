/-
  The library's slices.Equal, slices.Contains and slices.Clone at arcs, slices.Contains and slices.Index at numbers. Conditions: slices in memory.
-/
import Derived.Test.YtkmamdlhpbobhaaDigCa
import Derived.Test.YtkmamdlhpbobhaaShelf
import Derived.Shelf.SlicesE.Clone
import Derived.Shelf.SlicesQ.Equal
import Derived.Shelf.SlicesQ.Contains
namespace Go.Proofs.Ytkmamdlhpbobhaa.dig
open Go.RowKit Go.Shelf

theorem spot_none {w : World} {A : Addr} {v : Value} (h : w.cell? A = some v) : A = ⟨A.block, A.off, none⟩ := by
  obtain ⟨b, o, s⟩ := A
  cases s with
  | none => rfl
  | some x => unfold World.cell? at h; simp only at h; split at h <;> simp at h
theorem Ins.flat {w : World} {ao : Option Addr} {n cap : Nat} {l : List Int} (h : Ins w (.slice ao n cap) l) (hl : 0 < l.length) :
    ∃ b o, ao = some ⟨b, o, none⟩ ∧ b < w.heap.size ∧ ∀ j, j < l.length → w.cell? ⟨b, o + j, none⟩ = some (.int .i64 (l.getD j 0)) := by
  obtain ⟨A, rfl, h0⟩ := h.at hl
  rw [show A.add 0 = A by unfold Addr.add; rw [if_pos rfl]] at h0
  have hs := spot_none h0
  obtain ⟨b, o, q⟩ := A
  simp only [Addr.mk.injEq, true_and] at hs
  subst hs
  refine ⟨b, o, rfl, World.block_lt_of_cell? w _ h0, fun j hj => ?_⟩
  obtain ⟨A, e, h1⟩ := h.at hj
  cases e
  rw [add_at] at h1
  rw [h1, List.getD_eq_getElem?_getD, List.getElem?_eq_getElem hj]; rfl
theorem Ars.flat {w : World} {ao : Option Addr} {n cap : Nat} {l : List Ar} (h : Ars w (.slice ao n cap) l) (hl : 0 < l.length) :
    ∃ b o, ao = some ⟨b, o, none⟩ ∧ b < w.heap.size ∧ ∀ j, j < l.length → ∀ i v, (arC l[j]!)[i]? = some v → w.cell? ⟨b, o + j * 2 + i, none⟩ = some v := by
  obtain ⟨A, rfl, h0, -⟩ := h.at hl
  rw [Nat.zero_mul, show A.add 0 = A by unfold Addr.add; rw [if_pos rfl]] at h0
  have hs := spot_none h0
  obtain ⟨b, o, q⟩ := A
  simp only [Addr.mk.injEq, true_and] at hs
  subst hs
  refine ⟨b, o, rfl, World.block_lt_of_cell? w _ h0, fun j hj i v hv => ?_⟩
  obtain ⟨A, e, p0, p1⟩ := h.at hj
  cases e
  rw [add_at] at p0 p1
  rw [getElem!_pos l j hj] at hv
  match i, hv with
  | 0, hv => obtain rfl := Option.some.inj hv; exact p0
  | 1, hv => obtain rfl := Option.some.inj hv; exact p1
  | (i + 2), hv => simp [arC] at hv
theorem allEq_ar {l l' : List Ar} : Lib.allEq (fun x y => decide (x = y)) l l' = decide (l = l') := by
  induction l generalizing l' with
  | nil => cases l' <;> simp [Lib.allEq]
  | cons x t ih =>
    cases l' with
    | nil => simp [Lib.allEq]
    | cons y u => rw [Lib.allEq, ih, Bool.eq_iff_iff]; simp
theorem eql_ar (u v : Ar) (dq : Bool) (h : Hid (decide (u = v) = dq)) (w : World) : (binOp .eql 43 (.agg #[.int .i64 u.1, .int .i64 u.2]) (.agg #[.int .i64 v.1, .int .i64 v.2])).run Try.prog w = .ok (.bool dq) w := by
  have hu : Try.prog.underlying 43 = some (.struct (Try.prog.fieldsOf 43)) := by kernel_rfl
  have hp : Try.prog.stoodInHeld 43 = false := by kernel_rfl
  obtain ⟨a0, a1⟩ := u
  obtain ⟨c0, c1⟩ := v
  rw [run_eql_struct, show (10000 : Nat) = 9999 + 1 from rfl, run_equalIn_agg w 9999 _ _ _ hu hp, ← h.out]
  by_cases h1 : a0 = c0 <;> by_cases h2 : a1 = c1 <;> simp [go_sem, Op.eqFields, Program.fieldsOf, Try.underlying43, Try.underlying3, h1, h2]
theorem eqlAt_ar : EqlAt Try.prog 43 (fun x : Ar => .agg (arC x).toArray) (fun x y => decide (x = y)) :=
  ⟨fun x y w => eql_ar x y _ (Lib.hid rfl) w, .agg (fun x : Ar => (arC x).toArray) guard_ar⟩
theorem neqAt_ar : NeqAt Try.prog 43 (fun x : Ar => .agg (arC x).toArray) (fun x y => decide (x = y)) :=
  ⟨fun x y w => neq_ar x y _ (Lib.hid (by simp)) w, .agg (fun x : Ar => (arC x).toArray) guard_ar⟩
def lays_eq_ren : Go.Shelf.Ren := ⟨fun | 8 => 28 | n => n, fun | 0 => 0 | 3 => 3 | 4 => 4 | 22 => 22 | 24 => 43 | n => n, fun | n => n⟩
theorem lays_eq : Go.Proofs.SlLaysQ.n8 Try.prog lays_eq_ren := {
  mixed := by kernel_rfl
  f8 := ⟨Try.f28.name, by decide, Try.func28.trans (congrArg some (by kernel_rfl))⟩
  t0 := Try.underlying0
  a0 := Try.isAgg0
  z0 := Try.sizeOf0
  v0 := Try.zeroValue0
  t3 := Try.underlying3
  a3 := Try.isAgg3
  z3 := Try.sizeOf3
  v3 := Try.zeroValue3
  t4 := Try.underlying4
  a4 := Try.isAgg4
  z4 := Try.sizeOf4
  v4 := Try.zeroValue4
  t22 := Try.underlying22
  a22 := Try.isAgg22
  z22 := Try.sizeOf22
  v22 := Try.zeroValue22 }
def lays_ct_ren : Go.Shelf.Ren := ⟨fun | 6 => 44 | 7 => 37 | n => n, fun | 0 => 0 | 3 => 3 | 4 => 4 | 22 => 22 | 24 => 43 | n => n, fun | n => n⟩
theorem lays_ct : Go.Proofs.SlLaysQ.n7 Try.prog lays_ct_ren := {
  mixed := by kernel_rfl
  f6 := ⟨Try.f44.name, by decide, Try.func44.trans (congrArg some (by kernel_rfl))⟩
  f7 := ⟨Try.f37.name, by decide, Try.func37.trans (congrArg some (by kernel_rfl))⟩
  t0 := Try.underlying0
  a0 := Try.isAgg0
  z0 := Try.sizeOf0
  v0 := Try.zeroValue0
  t3 := Try.underlying3
  a3 := Try.isAgg3
  z3 := Try.sizeOf3
  v3 := Try.zeroValue3
  t4 := Try.underlying4
  a4 := Try.isAgg4
  z4 := Try.sizeOf4
  v4 := Try.zeroValue4
  t22 := Try.underlying22
  a22 := Try.isAgg22
  z22 := Try.sizeOf22
  v22 := Try.zeroValue22 }
def lays_cl_ren : Go.Shelf.Ren := ⟨fun | 41 => 34 | n => n, fun | 4 => 4 | 22 => 22 | 23 => 43 | n => n, fun | n => n⟩
theorem lays_cl : Go.Proofs.SlLaysE0.n41 Try.prog lays_cl_ren := {
  mixed := by kernel_rfl
  f41 := ⟨Try.f34.name, by decide, Try.func34.trans (congrArg some (by kernel_rfl))⟩
  t4 := Try.underlying4
  a4 := Try.isAgg4
  z4 := Try.sizeOf4
  v4 := Try.zeroValue4
  t22 := Try.underlying22
  a22 := Try.isAgg22
  z22 := Try.sizeOf22
  v22 := Try.zeroValue22 }

set_option maxRecDepth 100000 in
set_option maxHeartbeats 4000000 in
theorem eqar_of (v v' : Value) (l l' : List Ar) (R : Bool) (w : World) (h : Hid (Ars w v l)) (h' : Hid (Ars w v' l')) (hR : Hid (decide (l = l') = R)) :
    Calls Try.prog 28 #[v, v'] w fun e w' => e = .returned (.bool R) ∧ Below w.heap.size w w' := by
  obtain ⟨ao, cap, rfl, hc, hm, _⟩ := id h.out
  obtain ⟨ao', cap', rfl, hc', hm', _⟩ := id h'.out
  unfold maxLen at hm hm'
  by_cases hl : l.length = l'.length
  · by_cases h0 : l.length = 0
    · obtain rfl : l = [] := List.length_eq_zero_iff.1 h0
      obtain rfl : l' = [] := List.length_eq_zero_iff.1 (by rw [← hl]; rfl)
      obtain rfl : true = R := by rw [← hR.out]; rfl
      clear h h' hR hl h0 hc hc' hm hm'
      go_enter Try.func28, Try.ntmps28
      go_wp2_with fail
      go_loopw [13] (fun iv wr => iv = .int .i64 0 ∧ w = wr) (fun _ _ => 0)
      case atStart => exact ⟨rfl, rfl⟩
      case round =>
        obtain ⟨rfl, rfl⟩ := hrel
        go_wp2
        go_ret
        exact ⟨rfl, Below.refl _ _⟩
    · obtain ⟨b, o, rfl, _, hcl⟩ := h.out.flat (by omega)
      obtain ⟨b', o', rfl, _, hcl'⟩ := h'.out.flat (by omega)
      have := AnyQ.slices_Equal lays_eq 2 Try.isAgg43 Try.sizeOf43 arC (fun _ => rfl) _ neqAt_ar b o l.length cap b' o' l'.length cap' l l' w (Nat.le_refl _) (Nat.le_refl _) (by omega) (by omega) hcl hcl'
      refine this.mono ?_
      rintro e w' ⟨rfl, q, rfl⟩
      rw [List.take_length, List.take_length, allEq_ar, hR.out]
      exact ⟨rfl, drew_n w q⟩
  · obtain rfl : false = R := by rw [← hR.out]; symm; rw [decide_eq_false_iff_not]; intro e; exact hl (by rw [e])
    have hb : ((l.length : Int) != (l'.length : Int)) = true := by rw [bne_iff_ne]; omega
    clear h h' hR hl hc hc' hm hm'
    go_enter Try.func28, Try.ntmps28
    go_wp2
    go_ret
    exact ⟨rfl, Below.refl _ _⟩
/-- No arc is in an empty list. -/
theorem indexar_none (ao : Option Addr) (c : Nat) (x y : Int) (w : World) :
    Calls Try.prog 44 #[.slice ao 0 c, .agg #[.int .i64 x, .int .i64 y]] w fun e w' => e = .returned (.int .i64 (-1)) ∧ Below w.heap.size w w' := by
  have HB := Lib.hid (al1 w (.cells #[.int .i64 x, .int .i64 y] 43))
  go_enter Try.func44, Try.ntmps44
  go_wp2_with fail
  generalize w.alloc (.cells #[.int .i64 x, .int .i64 y] 43) = w1 at HB ⊢
  go_loopw [8] (fun iv wr => iv = .int .i64 0 ∧ w1 = wr) (fun _ _ => 0)
  case atStart => exact ⟨rfl, rfl⟩
  case round =>
    obtain ⟨rfl, rfl⟩ := hrel
    go_wp2
    go_ret
    exact ⟨rfl, HB.out⟩
set_option maxRecDepth 100000 in
set_option maxHeartbeats 4000000 in
theorem contar_of (v : Value) (l : List Ar) (x : Ar) (R : Bool) (w : World) (h : Hid (Ars w v l)) (hR : Hid ((l.any fun y => decide (x = y)) = R)) :
    Calls Try.prog 37 #[v, .agg #[.int .i64 x.1, .int .i64 x.2]] w fun e w' => e = .returned (.bool R) ∧ Below w.heap.size w w' := by
  obtain ⟨ao, cap, rfl, hc, hm, _⟩ := id h.out
  unfold maxLen at hm
  by_cases h0 : l.length = 0
  · obtain rfl : l = [] := List.length_eq_zero_iff.1 h0
    obtain rfl : false = R := by rw [← hR.out]; rfl
    obtain ⟨x, y⟩ := x
    have HB := Lib.hid (al1 w (.cells #[.int .i64 x, .int .i64 y] 43))
    clear h hR h0 hc hm
    simp only [List.length_nil]
    go_enter Try.func37, Try.ntmps37
    go_wp2_with fail
    refine (indexar_none ao cap x y _).mono ?_
    rintro e w2 ⟨rfl, hb⟩
    go_wp2
    go_ret
    exact ⟨rfl, below_keep hb HB.out⟩
  · obtain ⟨b, o, rfl, _, hcl⟩ := h.out.flat (by omega)
    have := AnyQ.slices_Contains lays_ct 2 Try.isAgg43 Try.sizeOf43 arC (fun _ => rfl) _ eqlAt_ar b o l.length cap l x w (Nat.le_refl _) (by omega) hcl
    rw [List.take_length, hR.out] at this
    exact this
set_option maxRecDepth 100000 in
set_option maxHeartbeats 4000000 in
/-- slices.Clone: a row of the call's own. -/
theorem clonear_of (v : Value) (l : List Ar) (w : World) (h : Hid (Ars w v l)) (hl : l.length ≤ 1000000) :
    Calls Try.prog 34 #[v] w fun e w' => (∃ u, e = .returned u ∧ Arow w' w.heap.size u l) ∧ Below w.heap.size w w' := by
  obtain ⟨ao, cap, rfl, hc, hm, _⟩ := id h.out
  by_cases h0 : l.length = 0
  · obtain rfl : l = [] := List.length_eq_zero_iff.1 h0
    simp only [List.length_nil]
    cases ao with
    | none => exact (AnyE.slices_Clone_nil lays_cl 0 cap w).mono fun e w' ⟨he, hw⟩ => by subst hw; exact ⟨⟨_, he, own_nil ..⟩, Below.refl _ _⟩
    | some ad =>
      obtain ⟨i0, hi, hz0, hz1, hz2⟩ := info_of_car
      have q22 : ∀ (w : World) (a : Option Addr) (n c n' c' : Nat), (binOp .eql 22 (.slice a n c) (.slice none n' c')).run Try.prog w = .ok (.bool a.isNone) w := fun w a n c n' c' => Lib.run_eql_slice_nil w _ _ a n c n' c' Try.underlying22
      clear h h0 hc hm
      go_enter Try.func34, Try.ntmps34
      go_wp2_with (at_builtin; refine wpList_append_own _ rfl _ _ 22 rfl w.heap.size 43 i0 _ 2 16 Try.underlying22 hi hz0 hz1 hz2 rfl (by decide) _ _ _ rfl (World.ownsRow_made w #[] 0 (Nat.le_refl _) (Nat.zero_le _) (by simp)) ad 0 cap [] rfl (by simp) (by simp) (by simp) (by simp) (by simp) (by simp) ?_)
      intro v' w1 hown hgrow hnil
      go_wp2
      go_ret
      refine ⟨⟨v', rfl, by unfold Arow; simpa using hown⟩, ?_⟩
      exact ((Below.refl _ w).alloc (Nat.le_refl _) _).grown hgrow (by simp) (by intro k hk; simp [Value.ownBlock] at hk; omega)
  · obtain ⟨b, o, rfl, _, hcl⟩ := h.out.flat (by omega)
    obtain ⟨i0, hi, hz0, hz1, hz2⟩ := info_of_car
    have hfl := flat_len arC 2 (fun _ => rfl) l
    refine (AnyE.slices_Clone lays_cl i0 _ 2 16 hi hz0 hz1 hz2 rfl (by decide) Try.sizeOf43 b o l.length cap (l.flatMap arC) w hfl (by unfold maxLen; omega) (by omega) (fun j u hj => ?_) (fun u hu => ?_)).mono ?_
    · have hlt : j < l.length * 2 := by
        have := (List.getElem?_eq_some_iff.1 hj).1
        omega
      have := flat_get arC 2 (fun _ => rfl) l (j / 2) (j % 2) (by omega) (by omega)
      rw [show j / 2 * 2 + j % 2 = j by omega, hj] at this
      have h2 := hcl (j / 2) (by omega) (j % 2) u (by rw [getElem!_pos l (j / 2) (by omega)]; exact this.symm)
      rw [show o + j / 2 * 2 + j % 2 = o + j by omega] at h2
      exact h2
    · obtain ⟨x, _, hx⟩ := List.mem_flatMap.1 hu
      simp [arC] at hx
      rcases hx with rfl | rfl <;> rfl
    · rintro e w' ⟨u, rfl, hown, _, hb⟩
      exact ⟨⟨u, rfl, hown⟩, hb⟩

/-! ### Numbers -/
theorem place_idx : ∀ (l : List Int) (x : Int) (i : Nat), Lib.idxFrom l x i = placeI l x i
  | [], _, _ => rfl
  | y :: t, x, i => by rw [Lib.idxFrom, placeI, place_idx t x (i + 1)]
theorem icont_of (ao : Option Addr) (k cap : Nat) (l : List Int) (x : Int) (R : Bool) (w : World) (h : Hid (Ins w (.slice ao l.length cap) l)) (hk : k ≤ l.length) (hlm : l.length ≤ 9223372036854775807) (hR : Hid ((l.take k).contains x = R)) :
    Calls Try.prog 43 #[.slice ao k cap, .int .i64 x] w fun e w' => e = .returned (.bool R) ∧ w = w' := by
  by_cases h0 : k = 0
  · subst h0
    obtain rfl : false = R := by rw [← hR.out]; rfl
    exact (Try.slices_Contains_int_empty ao cap x w).mono fun e w' h => ⟨h.1, h.2.symm⟩
  · obtain ⟨b, o, rfl, _, hcl⟩ := h.out.flat (by omega)
    refine (Try.slices_Contains_int b o k cap l x w hk (by omega) hcl).mono ?_
    rintro e w' ⟨rfl, rfl⟩
    rw [hR.out]
    exact ⟨rfl, rfl⟩
theorem iindex_of (v : Value) (l : List Int) (x R : Int) (w : World) (h : Hid (Ins w v l)) (hR : Hid (placeI l x 0 = R)) :
    Calls Try.prog 39 #[v, .int .i64 x] w fun e w' => e = .returned (.int .i64 R) ∧ w = w' := by
  obtain ⟨ao, cap, rfl, hc, hm, _⟩ := id h.out
  unfold maxLen at hm
  by_cases h0 : l.length = 0
  · obtain rfl : l = [] := List.length_eq_zero_iff.1 h0
    refine (Try.slices_Index_int_empty ao cap x w).mono ?_
    rintro e w' ⟨rfl, rfl⟩
    rw [show Lib.idxOf [] x = R from (place_idx [] x 0).trans hR.out]
    exact ⟨rfl, rfl⟩
  · obtain ⟨b, o, rfl, _, hcl⟩ := h.out.flat (by omega)
    refine (Try.slices_Index_int b o l.length cap l x w (Nat.le_refl _) (by omega) hcl).mono ?_
    rintro e w' ⟨rfl, rfl⟩
    rw [List.take_length, show Lib.idxOf l x = R from (place_idx l x 0).trans hR.out]
    exact ⟨rfl, rfl⟩
end Go.Proofs.Ytkmamdlhpbobhaa.dig
