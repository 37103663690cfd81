/-
  What IsName of the landed lexer returns, for a program that calls nothing else of the lexer. Condition: the text's length.
  The library's slices.Equal, slices.ContainsFunc and slices.Clone at the structs of a tree. Conditions: slices in memory; lengths where a copy is made.
-/
import Derived.Test.YtgccheiemnpaoaaGreatDoorLexPlain
import Derived.Test.YtgccheiemnpaoaaGreatDoorKit
import Derived.Test.YtgccheiemnpaoaaGreatDoorShelf
import Derived.Test.YtgccheiemnpaoaaGreatDoorChecked
import Derived.Test.YtgccheiemnpaoaaGreatDoorMLa
import Derived.Test.YtgccheiemnpaoaaGreatDoorRefLex2
import Derived.Test.YtgccheiemnpaoaaGreatDoorMLv
import Derived.Test.YtgccheiemnpaoaaGreatDoorMTf
import Derived.Shelf.SlicesE.Clone
import Derived.Shelf.SlicesQ.Equal
import Derived.Shelf.SlicesQ.IndexFunc
namespace Go.Proofs.YtgccheiemnpaoaaGreatDoor










end Go.Proofs.YtgccheiemnpaoaaGreatDoor
namespace Go.Proofs.YtgccheiemnpaoaaGreatDoor.tre
open Go.RowKit Go.Shelf lex

theorem spot_none {w : World} {A : Addr} {v : Value} (h : w.cell? A = some v) : A = ⟨A.block, A.off, none⟩ := by
  obtain ⟨b, o, s⟩ := A
  cases s with
  | none => rfl
  | some x => unfold World.cell? at h; simp only at h; split at h <;> simp at h
abbrev prC (r : Pr) : List Value := [.string (bb r.1), .string (bb r.2)]
theorem add_at (b o j : Nat) : (⟨b, o, none⟩ : Addr).add j = ⟨b, o + j, none⟩ := by
  unfold Addr.add; split
  · subst_vars; rfl
  · rfl
theorem Prs.at {w : World} {ao : Option Addr} {n cap : Nat} {l : List Pr} (h : Prs w (.slice ao n cap) l) (hl : 0 < l.length) :
    n = l.length ∧ ∃ b o, ao = some ⟨b, o, none⟩ ∧ b < w.heap.size ∧ ∀ j, j < l.length → ∀ i v, (prC l[j]!)[i]? = some v → w.cell? ⟨b, o + j * 2 + i, none⟩ = some v := by
  obtain ⟨ao', cap', e, _, _, hA⟩ := h
  cases e
  obtain ⟨A, rfl, h2⟩ := hA hl
  have h0 := (h2 0 hl).1
  rw [Nat.zero_mul, show A.add 0 = A by unfold Addr.add; rw [if_pos rfl]] at h0
  have hs := spot_none h0
  obtain ⟨b, o, q⟩ := A
  simp only [Addr.mk.injEq, true_and] at hs
  subst hs
  refine ⟨rfl, b, o, rfl, World.block_lt_of_cell? w _ h0, fun j hj i v hv => ?_⟩
  obtain ⟨p0, p1, _⟩ := h2 j hj
  rw [add_at] at p0 p1
  rw [getElem!_pos l j hj] at hv
  match i, hv with
  | 0, hv => obtain rfl := Option.some.inj hv; exact p0
  | 1, hv => obtain rfl := Option.some.inj hv; exact p1
  | (i + 2), hv => simp at hv
theorem allEq_iff {l l' : List Pr} : Lib.allEq (fun x y => decide (x = y)) l l' = decide (l = l') := by
  induction l generalizing l' with
  | nil => cases l' <;> simp [Lib.allEq]
  | cons x t ih =>
    cases l' with
    | nil => simp [Lib.allEq]
    | cons y u => rw [Lib.allEq, ih, Bool.eq_iff_iff]; simp
theorem below_drewQ {w w' : World} (h : ∃ q, w' = w.drewN q) : Below w.heap.size w w' := by obtain ⟨q, rfl⟩ := h; exact below_drewT w q

theorem ne_eqr : NeqAt Tryz.prog 51 (fun x : Pr => .agg (prC x).toArray) (fun x y => decide (x = y)) :=
  ⟨fun x y w => neq_ref x y _ (Lib.hid (by simp)) w, .agg (fun x : Pr => (prC x).toArray) guard_ref⟩
theorem ne_eqa : NeqAt Tryz.prog 63 (fun x : Pr => .agg (prC x).toArray) (fun x y => decide (x = y)) :=
  ⟨fun x y w => neq_att x y _ (Lib.hid (by simp)) w, .agg (fun x : Pr => (prC x).toArray) guard_att⟩
def lays_cf_ren : Go.Shelf.Ren := ⟨fun | 6 => 105 | 8 => 92 | n => n, fun | 0 => 0 | 3 => 3 | 4 => 4 | 22 => 35 | 25 => 111 | 23 => 63 | n => n, fun | n => n⟩
theorem lays_cf : Go.Proofs.SlLaysH0.n8 Tryz.prog lays_cf_ren := {
  mixed := by kernel_rfl
  f6 := ⟨Tryz.f105.name, by decide, Tryz.func105.trans (congrArg some (by kernel_rfl))⟩
  f8 := ⟨Tryz.f92.name, by decide, Tryz.func92.trans (congrArg some (by kernel_rfl))⟩
  t0 := Tryz.underlying0
  a0 := Tryz.isAgg0
  z0 := Tryz.sizeOf0
  v0 := Tryz.zeroValue0
  t3 := Tryz.underlying3
  a3 := Tryz.isAgg3
  z3 := Tryz.sizeOf3
  v3 := Tryz.zeroValue3
  t4 := Tryz.underlying4
  a4 := Tryz.isAgg4
  z4 := Tryz.sizeOf4
  v4 := Tryz.zeroValue4
  t22 := Tryz.underlying35
  a22 := Tryz.isAgg35
  z22 := Tryz.sizeOf35
  v22 := Tryz.zeroValue35
  t25 := Tryz.underlying111
  a25 := Tryz.isAgg111
  z25 := Tryz.sizeOf111
  v25 := Tryz.zeroValue111 }
/-- slices.ContainsFunc over the first attributes. -/
theorem cfa_of (p : Pr → Bool) (g : Nat) (lb : Array Value) (eg : ∀ args w, (callFunc g args).run Tryz.prog w = .ok (.enter g args) w) (ao : Option Addr) (n0 k cap cap0 : Nat) (l : List Pr) (R : Bool) (w : World)
    (hp : Hid (PredBelow Tryz.prog g lb (fun x => .agg (prC x).toArray) p w)) (h : Hid (Prs w (.slice ao n0 cap0) l)) (hk : k ≤ l.length) (h0 : 0 < l.length) (hR : Hid ((l.take k).any p = R)) :
    Calls Tryz.prog 92 #[.slice ao k cap, .func (.func g) #[] lb] w fun e w' => e = .returned (.bool R) ∧ Below w.heap.size w w' := by
  obtain ⟨_, cap', e, hc, hm, _⟩ := id h.out
  cases e
  unfold maxLen at hm
  obtain ⟨_, b, o, rfl, hb, hcl⟩ := h.out.at h0
  have := AnyQ.slices_ContainsFunc lays_cf 2 Tryz.isAgg63 Tryz.sizeOf63 prC (fun _ => rfl) p g lb eg b o k cap l w hp.out hk (by omega) hb hcl
  rw [hR.out] at this
  exact this
end Go.Proofs.YtgccheiemnpaoaaGreatDoor.tre
