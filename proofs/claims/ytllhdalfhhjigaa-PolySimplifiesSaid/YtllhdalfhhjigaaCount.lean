/-
  Bends of package poly. Condition: the list is no longer than a list can be.
-/
import Derived.Test.YtllhdalfhhjigaaBends
import Derived.Test.YtllhdalfhhjigaaHas
namespace Go.Proofs.Ytllhdalfhhjigaa
open Go.RowKit
attribute [local go_sem] Oper.semAt_some

/-- Bends, as a number. -/
def bndV (l : List Pt) : Int := if pval l then (bndTo l (l.length - 1) : Int) else 0
theorem valid_pa (l : List Pt) (h : pval l = true) : ∀ i, i < l.length → vld (pa l i).1 (pa l i).2 = true := by
  have h3 := ((pval_iff l).1 h).2.1
  exact fun i hi => h3 _ (by unfold pa; rw [List.getD_eq_getElem?_getD, List.getElem?_eq_getElem hi]; exact List.getElem_mem hi)
/-- What the iterator hands over of a path: its bends. -/
theorem bst_bout (l : List Pt) (h0 : 1 ≤ l.length) (hv : ∀ i, i < l.length → vld (pa l i).1 (pa l i).2 = true) (hd : dif l) : (bst (pa l 0) (sgs l.tail (l.tail.length - 1))).2 = bout l (l.length - 2) := by
  rw [List.length_tail, show l.length - 1 - 1 = l.length - 2 by omega]
  by_cases h : 2 ≤ l.length
  · rw [bst_sgs l hv hd _ (by omega)]
  · rw [show l.length - 2 = 0 by omega]; rfl
theorem bout_len (l : List Pt) (h0 : 1 ≤ l.length) : (bout l (l.length - 2)).length = bndTo l (l.length - 1) := by
  by_cases h : 2 ≤ l.length
  · rw [bout_length l _ (by omega), show l.length - 2 + 1 = l.length - 1 by omega]
  · rw [show l.length - 2 = 0 by omega, show l.length - 1 = 0 by omega]; rfl

set_option maxRecDepth 100000 in
set_option maxHeartbeats 4000000 in
theorem bendsN_any (ao : Option Addr) (cap : Nat) (pts : List Pt) (hlen : pts.length ≤ maxLen) (w : World) (hP : Pl w (.slice ao pts.length cap) pts) :
    Calls Try.prog 15 #[.slice ao pts.length cap] w fun e W' => e = .returned (.int .i64 (bndV pts)) ∧ Below w.heap.size w W' := by
  obtain ⟨v, hv⟩ : ∃ v, pval pts = v := ⟨_, rfl⟩
  have HV := Lib.hid hv
  clear hv
  refine (callsIn_wide (n := 9)).1 ?_
  refine callsIn_of_wp_marks Try.func15 rfl trivial ?_ rfl
  simp only [Try.ntmps15, List.size_toArray, List.length_cons, List.length_nil, Nat.reduceAdd, Nat.reduceSub, Array.replicate_succ, Array.replicate_zero, List.push_toArray, List.append_toArray, List.nil_append, List.cons_append]
  gi_wp2
  refine ⟨trivial, ?_⟩
  refine (callsIn_wide.2 (pvalid_of ao cap pts _ hlen _ hP HV)).mono ?_
  rintro e w0 ⟨rfl, hb0⟩
  cases v
  · gi_wp2
    exact ⟨_, results_tmp rfl _ _ _, by unfold bndV; rw [HV.out]; rfl, hb0⟩
  · have HL := Lib.hid ((pval_iff pts).1 HV.out).1
    obtain ⟨L, hL⟩ : ∃ L, (bst (pa pts 0) (sgs pts.tail (pts.tail.length - 1))).2 = L := ⟨_, rfl⟩
    have HR : Hid ((L.length : Int) = bndV pts) := Lib.hid (by
      have hh := (pval_iff pts).1 HV.out
      rw [← hL, bst_bout pts hh.1.1 (valid_pa pts HV.out) hh.2.2, bout_len pts hh.1.1]
      unfold bndV; rw [HV.out]; rfl)
    obtain ⟨A, rfl⟩ : ∃ A, ao = some A := by
      obtain ⟨A, cap', e, _⟩ := hP.get 0 (by have := HL.out.1; omega)
      cases e
      exact ⟨A, rfl⟩
    gi_wp2
    refine ⟨trivial, ?_⟩
    refine (callsIn_wide.2 (bends_fn _ _ _ _)).mono ?_
    rintro e w' ⟨rfl, rfl⟩
    gi_wp2
    have bC := (Boxed.new w0 3 (.int .i64 0)).alloc (.cells #[.slice (some A) pts.length cap] 22)
    have bS := Boxed.new (w0.alloc (.cells #[.int .i64 0] 3)) 22 (.slice (some A) pts.length cap)
    have hB0 := al2 w0 (.cells #[.int .i64 0] 3) (.cells #[.slice (some A) pts.length cap] 22)
    simp only [World.size_alloc] at bS
    have hsz : ((w0.alloc (.cells #[.int .i64 0] 3)).alloc (.cells #[.slice (some A) pts.length cap] 22)).heap.size = w0.heap.size + 2 := by simp
    obtain ⟨W0, hW0⟩ : ∃ W0, (w0.alloc (.cells #[.int .i64 0] 3)).alloc (.cells #[.slice (some A) pts.length cap] 22) = W0 := ⟨_, rfl⟩
    rw [hW0] at bC bS hB0 hsz ⊢
    clear hW0
    have hA0 := (hP.keep hb0).block A rfl (by have := HL.out.1; omega)
    have hx := bends_x w0.heap.size (w0.heap.size + 1) A cap pts HL.out.1 hlen W0 bS hA0 (by omega) ((hP.keep hb0).keep hB0)
    rw [hL] at hx
    clear hL
    refine range_x (gf := 48) (lb := #[.pointer (some ⟨w0.heap.size + 1, 0, none⟩)]) rfl (enters_of Try.func48 (by kernel_rfl) rfl)
      hx (by omega) (fun _ => rfl)
      (fun pre b X => (b = w0.heap.size ∧ Boxed X w0.heap.size 3 (.int .i64 (pre.length : Int))) ∧ Below w0.heap.size w0 X)
      (fun pre b X Y row hs hg hr => ⟨⟨hs.1.1, hs.1.2.kept hg (fun e => (hr _ e.symm).2 hs.1.1.symm)⟩, hs.2.grown hg hs.2.size (fun k e => by have := (hr k e).1; omega)⟩)
      (fun pre b X hs => by obtain ⟨⟨rfl, hb⟩, _⟩ := hs; exact ⟨_, _, _, hb, by decide⟩)
      w0.heap.size (by omega) ⟨⟨rfl, bC⟩, hB0⟩
      (fun x a' b X => a' = { tmps := #[.slice (some A) pts.length cap, undef, .int .i64 0, .pointer (some ⟨w0.heap.size, 0, none⟩), .slice (some A) pts.length cap, .bool true, .bool false, .slice (some A) pts.length cap, .func (.func 48) #[] #[.pointer (some ⟨w0.heap.size + 1, 0, none⟩)], ptV x, undef, undef, undef], defers := [] })
      (fun x a' b X l o o' h _ => h)
      ?assign ?body ?done
    case assign =>
      intro k l pre b x X K hi hz hK
      gi_wp2
      exact hK _ _ (KpX.refl _ _ _ _) hi (by simp)
    case body =>
      rintro k l pre b x a' X ⟨⟨rfl, bC1⟩, hB1⟩ hz rfl hlt
      have cC := bC1.cell
      have fC := bC1.frozen
      have hpn := HL.out.2
      have hwk : IntKind.i64.wrap ((pre.length : Int) + 1) = (pre.length : Int) + 1 := IntWalk.i64_in _ (by omega)
      gi_wp2
      exact ⟨KpX.set (Nat.le_refl _) (.inl (by omega)), w0.heap.size, ⟨⟨rfl, bC1.set _⟩, hB1.setCell (p := ⟨w0.heap.size, 0, none⟩) (Nat.le_refl _) _⟩, .inl rfl⟩
    case done =>
      rintro D b X hD ⟨⟨rfl, bC1⟩, hB1⟩ hDb hK
      have cC := bC1.cell
      gi_wp2
      refine ⟨by simp, .inl ⟨_, _, rfl, run_takeDeferred hK, ?_⟩⟩
      exact ⟨_, results_tmp rfl _ _ _, by rw [← HR.out]; rfl, below_keep (hB1.trans (belowK_b (w := w0) (Nat.le_refl _) X D _ _ (by omega) hK rfl rfl)) hb0⟩
end Go.Proofs.Ytllhdalfhhjigaa
