/-
  Length of package poly. Condition: the list is no longer than a list can be.
-/
import Derived.Test.YtllhdalfhhjigaaHas
namespace Go.Proofs.Ytllhdalfhhjigaa
open Go.RowKit
attribute [local go_sem] Oper.semAt_some

/-- The sum of the distances of segments. -/
def sgD (s : Sg) : Int := dist s.1.1 s.1.2 s.2.1 s.2.2
def lsum (L : List Sg) : Int := L.foldl (fun n s => n + sgD s) 0
theorem lsum_snoc (L : List Sg) (s : Sg) : lsum (L ++ [s]) = lsum L + sgD s := by simp [lsum]
theorem sgD_range (s : Sg) : 0 ≤ sgD s ∧ sgD s ≤ 1073741824 := by
  unfold sgD dist
  cases h : vld s.1.1 s.1.2 && vld s.2.1 s.2.2
  · simp
  · rw [Bool.and_eq_true, vld_iff, vld_iff] at h
    obtain ⟨⟨x1, x2, x3, x4⟩, y1, y2, y3, y4⟩ := h
    simp only [if_true]
    omega
theorem lsum_range (pts : List Pt) (k : Nat) : 0 ≤ lsum (sgs pts k) ∧ lsum (sgs pts k) ≤ k * 1073741824 := by
  induction k with
  | zero => simp [lsum, sgs]
  | succ k ih =>
    rw [sgs_succ, lsum_snoc]
    have := sgD_range (pa pts k, pa pts (k + 1))
    omega
theorem lsum_range' (L : List Sg) : 0 ≤ lsum L ∧ lsum L ≤ L.length * 1073741824 := by
  have key : ∀ (L : List Sg) (n : Int), n ≤ L.foldl (fun n s => n + sgD s) n ∧ L.foldl (fun n s => n + sgD s) n ≤ n + L.length * 1073741824 := by
    intro L
    induction L with
    | nil => intro n; simp
    | cons a t ih =>
      intro n
      have h1 := ih (n + sgD a)
      have h2 := sgD_range a
      simp only [List.foldl_cons, List.length_cons]
      omega
  have := key L 0
  unfold lsum
  omega
theorem lsum_all (pts : List Pt) (h : pval pts = true) : lsum (sgs pts (pts.length - 1)) = lenL pts := by
  rw [← lenTo_all]
  rw [pval_iff] at h
  obtain ⟨⟨h1, h2⟩, h3, h4⟩ := h
  have hm : ∀ i, i < pts.length → vld (pa pts i).1 (pa pts i).2 = true := fun i hi => h3 _ (by unfold pa; rw [List.getD_eq_getElem?_getD, List.getElem?_eq_getElem hi]; exact List.getElem_mem hi)
  have key : ∀ k, k < pts.length → lsum (sgs pts k) = lenTo pts (k + 1) := by
    intro k
    induction k with
    | zero => intro _; rfl
    | succ k ih =>
      intro hk
      rw [sgs_succ, lsum_snoc, ih (by omega), lenTo_succ pts (k + 1) (by omega)]
      unfold sgD dist dst
      simp only [hm k (by omega), hm (k + 1) hk, Bool.and_self, if_true, Nat.add_sub_cancel]
  rw [key (pts.length - 1) (by omega), show pts.length - 1 + 1 = pts.length by omega]

/-- Length, as a number. -/
def lenV (l : List Pt) : Int := if pval l then lenL l else 0

set_option maxRecDepth 100000 in
set_option maxHeartbeats 4000000 in
theorem length_any (ao : Option Addr) (cap : Nat) (pts : List Pt) (hlen : pts.length ≤ maxLen) (w : World) (hP : Pl w (.slice ao pts.length cap) pts) :
    Calls Try.prog 11 #[.slice ao pts.length cap] w fun e W' => e = .returned (.int .i64 (lenV pts)) ∧ Below w.heap.size w W' := by
  obtain ⟨v, hv⟩ : ∃ v, pval pts = v := ⟨_, rfl⟩
  have HV := Lib.hid hv
  clear hv
  have hmx : Try.prog.follows .mixedOrders = true := by kernel_rfl
  refine (callsIn_wide (n := 9)).1 ?_
  refine callsIn_of_wp_marks Try.func11 rfl trivial ?_ rfl
  simp only [Try.ntmps11, List.size_toArray, List.length_cons, List.length_nil, Nat.reduceAdd, Nat.reduceSub, Array.replicate_succ, Array.replicate_zero, List.push_toArray, List.append_toArray, List.nil_append, List.cons_append]
  gi_wp2
  refine ⟨trivial, ?_⟩
  refine (callsIn_wide.2 (pvalid_of ao cap pts _ hlen _ hP HV)).mono ?_
  rintro e w0 ⟨rfl, hb0⟩
  cases v
  · gi_wp2
    exact ⟨_, results_tmp rfl _ _ _, by unfold lenV; rw [HV.out]; rfl, hb0⟩
  · have HL := Lib.hid ((pval_iff pts).1 HV.out).1
    have HR := Lib.hid (lsum_all pts HV.out)
    gi_wp2
    refine ⟨trivial, ?_⟩
    refine (callsIn_wide.2 (segments_any _ _ _ _)).mono ?_
    rintro e w' ⟨rfl, rfl⟩
    gi_wp2
    have bC := (Boxed.new w0 3 (.int .i64 0)).alloc (.cells #[.slice ao pts.length cap] 22)
    have bS := Boxed.new (w0.alloc (.cells #[.int .i64 0] 3)) 22 (.slice ao pts.length cap)
    have hB0 := al2 w0 (.cells #[.int .i64 0] 3) (.cells #[.slice ao pts.length cap] 22)
    simp only [World.size_alloc] at bS
    have hsz : ((w0.alloc (.cells #[.int .i64 0] 3)).alloc (.cells #[.slice ao pts.length cap] 22)).heap.size = w0.heap.size + 2 := by simp
    obtain ⟨W0, hW0⟩ : ∃ W0, (w0.alloc (.cells #[.int .i64 0] 3)).alloc (.cells #[.slice ao pts.length cap] 22) = W0 := ⟨_, rfl⟩
    rw [hW0] at bC bS hB0 hsz ⊢
    clear hW0
    refine wpIn_rangeFunc_ownH rfl (by omega) (gf := 45) (lb := #[.pointer (some ⟨w0.heap.size + 1, 0, none⟩)]) rfl trivial (enters_of Try.func45 (by kernel_rfl) rfl)
      (seg_stops 8 (by omega) w0.heap.size (w0.heap.size + 1) ao cap pts hlen W0 bS (hP.keep hb0).block ((hP.keep hb0).keep hB0)) KpB.t (KpB.b (by omega) (by omega)) (Below.refl _ _) (fun _ => rfl)
      (fun pre W => Boxed W w0.heap.size 3 (.int .i64 (lsum pre)) ∧ Ld w0 2 W)
      (fun _ _ _ => False)
      (OwnFrom.and (Own.from (boxed_own _ _ _) _) (ownFrom_ld (by omega)))
      (fun _ _ _ _ _ hs _ _ => hs)
      ⟨bC, hB0, by omega⟩
      (fun x a' W => ∃ Bx, w0.heap.size + 1 < Bx ∧ Box4 W Bx 36 x.1.1 x.1.2 x.2.1 x.2.2 ∧ a' = { tmps := #[.slice ao pts.length cap, undef, .int .i64 0, .pointer (some ⟨w0.heap.size, 0, none⟩), .pointer (some ⟨Bx, 0, none⟩), .slice ao pts.length cap, .bool true, .bool false, .slice ao pts.length cap, .func (.func 45) #[] #[.pointer (some ⟨w0.heap.size + 1, 0, none⟩)], segV x, undef, undef, undef, undef, undef, undef, undef, undef], defers := [] })
      (fun x a' _ X Y row hs hg hr => by
        obtain ⟨Bx, h1, h2, h3⟩ := hs
        exact ⟨Bx, h1, box4_own h2 hg hr, h3⟩)
      ?assign ?body ?done ?stop
    case assign =>
      rintro l pre x W K ⟨bC1, hB1⟩ hK
      dsimp only [segV]
      gi_wp2
      have hz := hB1.2
      exact hK _ _ ((KeepsOthers.alloc _ _).from _) (KpB.of (by omega) (by omega) (al1 _ _)) ⟨bC1.alloc _, hB1.alloc _⟩ ⟨W.heap.size, by omega, Box4.new W _ _ _ _ _, rfl⟩
    case body =>
      rintro l pre x a' W hl hr ⟨bC1, hB1⟩ ⟨Bx, hBx, bX, rfl⟩ hlt
      have cC := bC1.cell
      have fC := bC1.frozen
      obtain ⟨x0, x1, x2, x3⟩ := bX.at
      have hz := hB1.2
      have hrg := lsum_range' pre
      have hrd := sgD_range x
      have hpn := HL.out.2
      have fin : ∀ w1, Below W.drew.heap.size W.drew w1 → KeepsFrom W0.heap.size W (w1.setCell ⟨w0.heap.size, 0, none⟩ (.int .i64 (IntKind.i64.wrap (lsum pre + dist x.1.1 x.1.2 x.2.1 x.2.2)))) ∧
          KpB w0.heap.size (w0.heap.size + 1) W (w1.setCell ⟨w0.heap.size, 0, none⟩ (.int .i64 (IntKind.i64.wrap (lsum pre + dist x.1.1 x.1.2 x.2.1 x.2.2)))) ∧
          Boxed (w1.setCell ⟨w0.heap.size, 0, none⟩ (.int .i64 (IntKind.i64.wrap (lsum pre + dist x.1.1 x.1.2 x.2.1 x.2.2)))) w0.heap.size 3 (.int .i64 (lsum (pre ++ [x]))) ∧
          Ld w0 2 (w1.setCell ⟨w0.heap.size, 0, none⟩ (.int .i64 (IntKind.i64.wrap (lsum pre + dist x.1.1 x.1.2 x.2.1 x.2.2)))) := by
        intro w1 hb1
        have hb2 : Below W.heap.size W w1 := (below_drew W).trans hb1
        have ew : IntKind.i64.wrap (lsum pre + dist x.1.1 x.1.2 x.2.1 x.2.2) = lsum (pre ++ [x]) := by
          rw [lsum_snoc]
          unfold sgD at hrd ⊢
          exact IntWalk.i64_in _ (by omega)
        rw [ew]
        exact ⟨((keepsOthers_below hb2).trans (KeepsOthers.setCell _ _ _)).from _, (KpB.of (by omega) (by omega) hb2).t (KpB.set (by omega) (by omega)), (boxed_keep hb2 bC1).set _, (hB1.keep hb2).set (by omega)⟩
      gi_wp2
      gi_region_with_o (refine ⟨trivial, ?_⟩; refine (CallsIn.inRound l (callsIn_wide.2 (distance_any _ _ _ _ _))).mono ?_; rintro e w1 ⟨rfl, hb1⟩; have cC1 := (boxed_keep hb1 (boxed_keep (below_drew W) bC1)).cell; have fC1 := (boxed_keep hb1 (boxed_keep (below_drew W) bC1)).frozen)
      all_goals gi_wp2
      all_goals exact fin _ (by assumption)
    case done =>
      rintro D zs W hD rfl ⟨bC1, hB1⟩ hK
      have cC := bC1.cell
      gi_wp2
      refine ⟨by simp, .inl ⟨_, _, rfl, run_takeDeferred hK, ?_⟩⟩
      exact ⟨_, results_tmp rfl _ _ _, by unfold lenV; rw [HV.out, HR.out]; rfl, below_keep (hB1.1.trans (belowK_b (w := w0) (Nat.le_refl _) W D _ _ (by omega) hK rfl rfl)) hb0⟩
    case stop =>
      rintro D c pre W _ _ h _
      exact h.elim
end Go.Proofs.Ytllhdalfhhjigaa
