/-
  The library's slices.Equal, slices.ContainsFunc and slices.Clone at the structs of a tree. Conditions: slices in memory; lengths where a copy is made.
-/
import Derived.Test.YtmpjdlhigmofdaaMTe
import Derived.Test.YtmpjdlhigmofdaaTreLex
import Derived.Shelf.SlicesE.Clone
import Derived.Shelf.SlicesQ.Equal
import Derived.Shelf.SlicesQ.IndexFunc
namespace Go.Proofs.Ytmpjdlhigmofdaa.tre
open Go.RowKit Go.Shelf lex

theorem spot_none {w : World} {A : Addr} {v : Value} (h : w.cell? A = some v) : A = ⟨A.block, A.off, none⟩ := by
  obtain ⟨b, o, s⟩ := A
  cases s with
  | none => rfl
  | some x => unfold World.cell? at h; simp only at h; split at h <;> simp at h
abbrev prC (r : Pr) : List Value := [.string (bb r.1), .string (bb r.2)]
theorem add_at (b o j : Nat) : (⟨b, o, none⟩ : Addr).add j = ⟨b, o + j, none⟩ := by
  unfold Addr.add; split
  · subst_vars; rfl
  · rfl
theorem Prs.at {w : World} {ao : Option Addr} {n cap : Nat} {l : List Pr} (h : Prs w (.slice ao n cap) l) (hl : 0 < l.length) :
    n = l.length ∧ ∃ b o, ao = some ⟨b, o, none⟩ ∧ b < w.heap.size ∧ ∀ j, j < l.length → ∀ i v, (prC l[j]!)[i]? = some v → w.cell? ⟨b, o + j * 2 + i, none⟩ = some v := by
  obtain ⟨ao', cap', e, _, _, hA⟩ := h
  cases e
  obtain ⟨A, rfl, h2⟩ := hA hl
  have h0 := (h2 0 hl).1
  rw [Nat.zero_mul, show A.add 0 = A by unfold Addr.add; rw [if_pos rfl]] at h0
  have hs := spot_none h0
  obtain ⟨b, o, q⟩ := A
  simp only [Addr.mk.injEq, true_and] at hs
  subst hs
  refine ⟨rfl, b, o, rfl, World.block_lt_of_cell? w _ h0, fun j hj i v hv => ?_⟩
  obtain ⟨p0, p1, _⟩ := h2 j hj
  rw [add_at] at p0 p1
  rw [getElem!_pos l j hj] at hv
  match i, hv with
  | 0, hv => obtain rfl := Option.some.inj hv; exact p0
  | 1, hv => obtain rfl := Option.some.inj hv; exact p1
  | (i + 2), hv => simp at hv
theorem allEq_iff {l l' : List Pr} : Lib.allEq (fun x y => decide (x = y)) l l' = decide (l = l') := by
  induction l generalizing l' with
  | nil => cases l' <;> simp [Lib.allEq]
  | cons x t ih =>
    cases l' with
    | nil => simp [Lib.allEq]
    | cons y u => rw [Lib.allEq, ih, Bool.eq_iff_iff]; simp
theorem below_drewQ {w w' : World} (h : ∃ q, w' = w.drewN q) : Below w.heap.size w w' := by obtain ⟨q, rfl⟩ := h; exact below_drewT w q

def lays_eqr_ren : Go.Shelf.Ren := ⟨fun | 8 => 47 | n => n, fun | 0 => 0 | 3 => 3 | 4 => 4 | 22 => 45 | 24 => 51 | n => n, fun | n => n⟩
theorem lays_eqr : Go.Proofs.SlLaysQ.n8 Try.prog lays_eqr_ren := {
  mixed := by kernel_rfl
  f8 := ⟨Try.f47.name, by decide, Try.func47.trans (congrArg some (by kernel_rfl))⟩
  t0 := Try.underlying0
  a0 := Try.isAgg0
  z0 := Try.sizeOf0
  v0 := Try.zeroValue0
  t3 := Try.underlying3
  a3 := Try.isAgg3
  z3 := Try.sizeOf3
  v3 := Try.zeroValue3
  t4 := Try.underlying4
  a4 := Try.isAgg4
  z4 := Try.sizeOf4
  v4 := Try.zeroValue4
  t22 := Try.underlying45
  a22 := Try.isAgg45
  z22 := Try.sizeOf45
  v22 := Try.zeroValue45 }
theorem ne_eqr : NeqAt Try.prog 51 (fun x : Pr => .agg (prC x).toArray) (fun x y => decide (x = y)) :=
  ⟨fun x y w => neq_ref x y _ (Lib.hid (by simp)) w, .agg (fun x : Pr => (prC x).toArray) guard_ref⟩
set_option maxRecDepth 100000 in
set_option maxHeartbeats 4000000 in
theorem eqr_of (v v' : Value) (l l' : List Pr) (R : Bool) (w : World) (h : Hid (Prs w v l)) (h' : Hid (Prs w v' l')) (hR : Hid (decide (l = l') = R)) :
    Calls Try.prog 47 #[v, v'] w fun e w' => e = .returned (.bool R) ∧ Below w.heap.size w w' := by
  obtain ⟨ao, cap, rfl, hc, hm, _⟩ := id h.out
  obtain ⟨ao', cap', rfl, hc', hm', _⟩ := id h'.out
  unfold maxLen at hm hm'
  by_cases hl : l.length = l'.length
  · by_cases h0 : l.length = 0
    · obtain rfl : l = [] := List.length_eq_zero_iff.1 h0
      obtain rfl : l' = [] := List.length_eq_zero_iff.1 (by rw [← hl]; rfl)
      obtain rfl : true = R := by rw [← hR.out]; rfl
      clear h h' hR hl h0 hc hc' hm hm'
      go_enter Try.func47, Try.ntmps47
      go_wp2_with fail
      go_loopw [13] (fun iv wr => iv = .int .i64 0 ∧ w = wr) (fun _ _ => 0)
      case atStart => exact ⟨rfl, rfl⟩
      case round =>
        obtain ⟨rfl, rfl⟩ := hrel
        go_wp2
        go_ret
        exact ⟨rfl, Below.refl _ _⟩
    · obtain ⟨_, b, o, rfl, _, hcl⟩ := h.out.at (by omega)
      obtain ⟨_, b', o', rfl, _, hcl'⟩ := h'.out.at (by omega)
      have := AnyQ.slices_Equal lays_eqr 2 Try.isAgg51 Try.sizeOf51 prC (fun _ => rfl) _ ne_eqr b o l.length cap b' o' l'.length cap' l l' w (Nat.le_refl _) (Nat.le_refl _) (by omega) (by omega) hcl hcl'
      refine this.mono ?_
      rintro e w' ⟨rfl, hq⟩
      rw [List.take_length, List.take_length, allEq_iff, hR.out]
      exact ⟨rfl, below_drewQ hq⟩
  · obtain rfl : false = R := by rw [← hR.out]; symm; rw [decide_eq_false_iff_not]; intro e; exact hl (by rw [e])
    have hb : ((l.length : Int) != (l'.length : Int)) = true := by rw [bne_iff_ne]; omega
    clear h h' hR hl hc hc' hm hm'
    go_enter Try.func47, Try.ntmps47
    go_wp2
    go_ret
    exact ⟨rfl, Below.refl _ _⟩
def lays_eqa_ren : Go.Shelf.Ren := ⟨fun | 8 => 48 | n => n, fun | 0 => 0 | 3 => 3 | 4 => 4 | 22 => 28 | 24 => 30 | n => n, fun | n => n⟩
theorem lays_eqa : Go.Proofs.SlLaysQ.n8 Try.prog lays_eqa_ren := {
  mixed := by kernel_rfl
  f8 := ⟨Try.f48.name, by decide, Try.func48.trans (congrArg some (by kernel_rfl))⟩
  t0 := Try.underlying0
  a0 := Try.isAgg0
  z0 := Try.sizeOf0
  v0 := Try.zeroValue0
  t3 := Try.underlying3
  a3 := Try.isAgg3
  z3 := Try.sizeOf3
  v3 := Try.zeroValue3
  t4 := Try.underlying4
  a4 := Try.isAgg4
  z4 := Try.sizeOf4
  v4 := Try.zeroValue4
  t22 := Try.underlying28
  a22 := Try.isAgg28
  z22 := Try.sizeOf28
  v22 := Try.zeroValue28 }
theorem ne_eqa : NeqAt Try.prog 30 (fun x : Pr => .agg (prC x).toArray) (fun x y => decide (x = y)) :=
  ⟨fun x y w => neq_att x y _ (Lib.hid (by simp)) w, .agg (fun x : Pr => (prC x).toArray) guard_att⟩
set_option maxRecDepth 100000 in
set_option maxHeartbeats 4000000 in
theorem eqa_of (v v' : Value) (l l' : List Pr) (R : Bool) (w : World) (h : Hid (Prs w v l)) (h' : Hid (Prs w v' l')) (hR : Hid (decide (l = l') = R)) :
    Calls Try.prog 48 #[v, v'] w fun e w' => e = .returned (.bool R) ∧ Below w.heap.size w w' := by
  obtain ⟨ao, cap, rfl, hc, hm, _⟩ := id h.out
  obtain ⟨ao', cap', rfl, hc', hm', _⟩ := id h'.out
  unfold maxLen at hm hm'
  by_cases hl : l.length = l'.length
  · by_cases h0 : l.length = 0
    · obtain rfl : l = [] := List.length_eq_zero_iff.1 h0
      obtain rfl : l' = [] := List.length_eq_zero_iff.1 (by rw [← hl]; rfl)
      obtain rfl : true = R := by rw [← hR.out]; rfl
      clear h h' hR hl h0 hc hc' hm hm'
      go_enter Try.func48, Try.ntmps48
      go_wp2_with fail
      go_loopw [13] (fun iv wr => iv = .int .i64 0 ∧ w = wr) (fun _ _ => 0)
      case atStart => exact ⟨rfl, rfl⟩
      case round =>
        obtain ⟨rfl, rfl⟩ := hrel
        go_wp2
        go_ret
        exact ⟨rfl, Below.refl _ _⟩
    · obtain ⟨_, b, o, rfl, _, hcl⟩ := h.out.at (by omega)
      obtain ⟨_, b', o', rfl, _, hcl'⟩ := h'.out.at (by omega)
      have := AnyQ.slices_Equal lays_eqa 2 Try.isAgg30 Try.sizeOf30 prC (fun _ => rfl) _ ne_eqa b o l.length cap b' o' l'.length cap' l l' w (Nat.le_refl _) (Nat.le_refl _) (by omega) (by omega) hcl hcl'
      refine this.mono ?_
      rintro e w' ⟨rfl, hq⟩
      rw [List.take_length, List.take_length, allEq_iff, hR.out]
      exact ⟨rfl, below_drewQ hq⟩
  · obtain rfl : false = R := by rw [← hR.out]; symm; rw [decide_eq_false_iff_not]; intro e; exact hl (by rw [e])
    have hb : ((l.length : Int) != (l'.length : Int)) = true := by rw [bne_iff_ne]; omega
    clear h h' hR hl hc hc' hm hm'
    go_enter Try.func48, Try.ntmps48
    go_wp2
    go_ret
    exact ⟨rfl, Below.refl _ _⟩
def lays_cf_ren : Go.Shelf.Ren := ⟨fun | 6 => 107 | 8 => 94 | n => n, fun | 0 => 0 | 3 => 3 | 4 => 4 | 22 => 28 | 25 => 113 | 23 => 30 | n => n, fun | n => n⟩
theorem lays_cf : Go.Proofs.SlLaysH0.n8 Try.prog lays_cf_ren := {
  mixed := by kernel_rfl
  f6 := ⟨Try.f107.name, by decide, Try.func107.trans (congrArg some (by kernel_rfl))⟩
  f8 := ⟨Try.f94.name, by decide, Try.func94.trans (congrArg some (by kernel_rfl))⟩
  t0 := Try.underlying0
  a0 := Try.isAgg0
  z0 := Try.sizeOf0
  v0 := Try.zeroValue0
  t3 := Try.underlying3
  a3 := Try.isAgg3
  z3 := Try.sizeOf3
  v3 := Try.zeroValue3
  t4 := Try.underlying4
  a4 := Try.isAgg4
  z4 := Try.sizeOf4
  v4 := Try.zeroValue4
  t22 := Try.underlying28
  a22 := Try.isAgg28
  z22 := Try.sizeOf28
  v22 := Try.zeroValue28
  t25 := Try.underlying113
  a25 := Try.isAgg113
  z25 := Try.sizeOf113
  v25 := Try.zeroValue113 }
/-- slices.ContainsFunc over the first attributes. -/
theorem cfa_of (p : Pr → Bool) (g : Nat) (lb : Array Value) (eg : ∀ args w, (callFunc g args).run Try.prog w = .ok (.enter g args) w) (ao : Option Addr) (n0 k cap cap0 : Nat) (l : List Pr) (R : Bool) (w : World)
    (hp : Hid (PredBelow Try.prog g lb (fun x => .agg (prC x).toArray) p w)) (h : Hid (Prs w (.slice ao n0 cap0) l)) (hk : k ≤ l.length) (h0 : 0 < l.length) (hR : Hid ((l.take k).any p = R)) :
    Calls Try.prog 94 #[.slice ao k cap, .func (.func g) #[] lb] w fun e w' => e = .returned (.bool R) ∧ Below w.heap.size w w' := by
  obtain ⟨_, cap', e, hc, hm, _⟩ := id h.out
  cases e
  unfold maxLen at hm
  obtain ⟨_, b, o, rfl, hb, hcl⟩ := h.out.at h0
  have := AnyQ.slices_ContainsFunc lays_cf 2 Try.isAgg30 Try.sizeOf30 prC (fun _ => rfl) p g lb eg b o k cap l w hp.out hk (by omega) hb hcl
  rw [hR.out] at this
  exact this
end Go.Proofs.Ytmpjdlhigmofdaa.tre
