/-
  Crossings of package poly. Condition: the lists are no longer than a list can be.
-/
import Derived.Test.YtllhdalfhhjigaaHas
namespace Go.Proofs.Ytllhdalfhhjigaa
open Go.RowKit
attribute [local go_sem] Oper.semAt_some

/-- Whether two segments cross; how many of a list cross one; how many pairs do. -/
def sgX (s t : Sg) : Bool := cross s.1.1 s.1.2 s.2.1 s.2.2 t.1.1 t.1.2 t.2.1 t.2.2
def xIn (s : Sg) (L : List Sg) : Int := L.foldl (fun n t => if sgX s t then n + 1 else n) 0
def xAll (K L : List Sg) : Int := K.foldl (fun n s => n + xIn s L) 0
theorem xIn_snoc (s : Sg) (L : List Sg) (t : Sg) : xIn s (L ++ [t]) = if sgX s t then xIn s L + 1 else xIn s L := by simp [xIn]
theorem xAll_snoc (K L : List Sg) (s : Sg) : xAll (K ++ [s]) L = xAll K L + xIn s L := by simp [xAll]
theorem xIn_range (s : Sg) (L : List Sg) : 0 ≤ xIn s L ∧ xIn s L ≤ L.length := by
  have key : ∀ (L : List Sg) (n : Int), n ≤ L.foldl (fun n t => if sgX s t then n + 1 else n) n ∧ L.foldl (fun n t => if sgX s t then n + 1 else n) n ≤ n + L.length := by
    intro L
    induction L with
    | nil => intro n; simp
    | cons a t ih =>
      intro n
      have h1 := ih (if sgX s a then n + 1 else n)
      simp only [List.foldl_cons, List.length_cons]
      cases hx : sgX s a <;> simp only [hx, Bool.false_eq_true, if_false, if_true] at h1 ⊢ <;> omega
  have := key L 0
  unfold xIn
  omega
theorem xAll_range (K L : List Sg) : 0 ≤ xAll K L ∧ xAll K L ≤ K.length * L.length := by
  have key : ∀ (K : List Sg) (n : Int), n ≤ K.foldl (fun n s => n + xIn s L) n ∧ K.foldl (fun n s => n + xIn s L) n ≤ n + K.length * L.length := by
    intro K
    induction K with
    | nil => intro n; simp
    | cons a t ih =>
      intro n
      have h1 := ih (n + xIn a L)
      have h2 := xIn_range a L
      simp only [List.foldl_cons, List.length_cons]
      have e : ((t.length + 1 : Nat) : Int) * (L.length : Int) = (t.length : Int) * L.length + L.length := by push_cast; rw [Int.add_mul, Int.one_mul]
      rw [e]
      omega
  have := key K 0
  unfold xAll
  omega
theorem xAll_small (K L : List Sg) (h1 : K.length ≤ 512) (h2 : L.length ≤ 512) : 0 ≤ xAll K L ∧ xAll K L ≤ 262144 := by
  have h := xAll_range K L
  have h3 : K.length * L.length ≤ 512 * 512 := Nat.mul_le_mul h1 h2
  have e : (K.length : Int) * (L.length : Int) = ((K.length * L.length : Nat) : Int) := by push_cast; rfl
  omega
/-- Crossings, as a number. -/
def crsV (a b : List Pt) : Int := if pval a && pval b then xAll (sgs a (a.length - 1)) (sgs b (b.length - 1)) else 0

theorem cross_of (s t : Sg) (v : Bool) (h : Hid (sgX s t = v)) (w : World) : Calls Try.prog 41 #[segV s, segV t] w fun e w' => e = .returned (.bool v) ∧ Below w.heap.size w w' := by
  have := cross_any s.1.1 s.1.2 s.2.1 s.2.2 t.1.1 t.1.2 t.2.1 t.2.2 w
  rw [show cross s.1.1 s.1.2 s.2.1 s.2.2 t.1.1 t.1.2 t.2.1 t.2.2 = v from h.out] at this
  exact this

set_option maxRecDepth 100000 in
set_option maxHeartbeats 4000000 in
theorem crossings_any (ao bo : Option Addr) (cap cbp : Nat) (ps qs : List Pt) (hla : ps.length ≤ maxLen) (hlb : qs.length ≤ maxLen) (w : World) (hP : Pl w (.slice ao ps.length cap) ps) (hQ : Pl w (.slice bo qs.length cbp) qs) :
    Calls Try.prog 23 #[.slice ao ps.length cap, .slice bo qs.length cbp] w fun e W' => e = .returned (.int .i64 (crsV ps qs)) ∧ Below w.heap.size w W' := by
  obtain ⟨u, hu⟩ : ∃ v, pval ps = v := ⟨_, rfl⟩
  obtain ⟨v, hv⟩ : ∃ v, pval qs = v := ⟨_, rfl⟩
  have HU := Lib.hid hu
  have HV := Lib.hid hv
  clear hu hv
  refine (callsIn_wide (n := 12)).1 ?_
  refine callsIn_of_wp_marks Try.func23 rfl trivial ?_ rfl
  simp only [Try.ntmps23, List.size_toArray, List.length_cons, List.length_nil, Nat.reduceAdd, Nat.reduceSub, Array.replicate_succ, Array.replicate_zero, List.push_toArray, List.append_toArray, List.nil_append, List.cons_append]
  gi_wp2
  refine ⟨trivial, ?_⟩
  refine (callsIn_wide.2 (pvalid_of ao cap ps _ hla _ (hP.keep (al1 ..)) HU)).mono ?_
  rintro e w1 ⟨rfl, hb1⟩
  have bB1 := boxed_keep hb1 (Boxed.new w 22 (.slice bo qs.length cbp))
  have cB1 := bB1.cell
  have hb1' := below_keep hb1 (al1 ..)
  cases u
  · gi_wp2
    refine ⟨trivial, ?_⟩
    gi_wp2
    exact ⟨_, results_tmp rfl _ _ _, by unfold crsV; rw [HU.out]; rfl, hb1'⟩
  gi_wp2
  refine ⟨trivial, ?_⟩
  refine (callsIn_wide.2 (pvalid_of bo cbp qs _ hlb _ (hQ.keep hb1') HV)).mono ?_
  rintro e w2 ⟨rfl, hb2⟩
  have bB2 := boxed_keep hb2 bB1
  have cB2 := bB2.cell
  have hb2' := below_keep hb2 hb1'
  have hlt2 := bB2.lt
  cases v
  · gi_wp2
    exact ⟨_, results_tmp rfl _ _ _, by unfold crsV; rw [HV.out]; simp, hb2'⟩
  have HL := Lib.hid ((pval_iff ps).1 HU.out).1
  have HM := Lib.hid ((pval_iff qs).1 HV.out).1
  have HR : Hid (crsV ps qs = xAll (sgs ps (ps.length - 1)) (sgs qs (qs.length - 1))) := Lib.hid (by unfold crsV; rw [HU.out, HV.out]; rfl)
  gi_wp2
  refine ⟨trivial, ?_⟩
  refine (callsIn_wide.2 (segments_any _ _ _ _)).mono ?_
  rintro e w' ⟨rfl, rfl⟩
  gi_wp2
  have bB := (bB2.alloc (.cells #[.int .i64 0] 3)).alloc (.cells #[.slice ao ps.length cap] 22)
  have bC := (Boxed.new w2 3 (.int .i64 0)).alloc (.cells #[.slice ao ps.length cap] 22)
  have bS := Boxed.new (w2.alloc (.cells #[.int .i64 0] 3)) 22 (.slice ao ps.length cap)
  have hB0 := al2 w2 (.cells #[.int .i64 0] 3) (.cells #[.slice ao ps.length cap] 22)
  simp only [World.size_alloc] at bS
  have hsz : ((w2.alloc (.cells #[.int .i64 0] 3)).alloc (.cells #[.slice ao ps.length cap] 22)).heap.size = w2.heap.size + 2 := by simp
  obtain ⟨W0, hW0⟩ : ∃ W0, (w2.alloc (.cells #[.int .i64 0] 3)).alloc (.cells #[.slice ao ps.length cap] 22) = W0 := ⟨_, rfl⟩
  rw [hW0] at bB bC bS hB0 hsz ⊢
  clear hW0
  have hPa := hP.keep hb2'
  have hPb := hQ.keep hb2'
  refine wpIn_rangeFunc_ownH rfl (by omega) (gf := 45) (lb := #[.pointer (some ⟨w2.heap.size + 1, 0, none⟩)]) rfl trivial (enters_of Try.func45 (by kernel_rfl) rfl)
    (seg_stops 11 (by omega) w2.heap.size (w2.heap.size + 1) ao cap ps hla W0 bS hPa.block (hPa.keep hB0)) KpB.t (KpB.b (by omega) (by omega)) (Below.refl _ _) (fun _ => rfl)
    (fun pre W => ((Boxed W w2.heap.size 3 (.int .i64 (xAll pre (sgs qs (qs.length - 1)))) ∧ Boxed W w.heap.size 22 (.slice bo qs.length cbp)) ∧ Boxed W (w2.heap.size + 1) 22 (.slice ao ps.length cap)) ∧ Ld w2 2 W)
    (fun _ _ _ => False)
    (OwnFrom.and (OwnFrom.and (OwnFrom.and (boxed_from _ _ _ _) (boxed_from _ _ _ _)) (boxed_from _ _ _ _)) (ownFrom_ld (by omega)))
    (fun _ _ _ _ _ hs _ _ => hs)
    ⟨⟨⟨bC, bB⟩, bS⟩, hB0, by omega⟩
    (fun x a' W => ∃ Bx, w2.heap.size + 1 < Bx ∧ Box4 W Bx 36 x.1.1 x.1.2 x.2.1 x.2.2 ∧ a' = { tmps := #[.slice ao ps.length cap, .slice bo qs.length cbp, undef, .pointer (some ⟨w.heap.size, 0, none⟩), .int .i64 0, .pointer (some ⟨w2.heap.size, 0, none⟩), .pointer (some ⟨Bx, 0, none⟩), undef, .slice ao ps.length cap, .bool true, .bool false, .bool false, .slice bo qs.length cbp, .bool true, .bool false, .bool false, .slice ao ps.length cap, .func (.func 45) #[] #[.pointer (some ⟨w2.heap.size + 1, 0, none⟩)], segV x, undef, undef, undef, undef, undef, undef, undef, undef, undef], defers := [] })
    (fun x a' _ X Y row hs hg hr => by
      obtain ⟨Bx, h1, h2, h3⟩ := hs
      exact ⟨Bx, h1, box4_own h2 hg hr, h3⟩)
    ?assign ?body ?done ?stop
  case assign =>
    rintro l pre x W K ⟨⟨⟨bC1, bB1'⟩, bO1⟩, hB1⟩ hK
    dsimp only [segV]
    gi_wp2
    have hz := hB1.2
    exact hK _ _ ((KeepsOthers.alloc _ _).from _) (KpB.of (by omega) (by omega) (al1 _ _)) ⟨⟨⟨bC1.alloc _, bB1'.alloc _⟩, bO1.alloc _⟩, hB1.alloc _⟩ ⟨W.heap.size, by omega, Box4.new W _ _ _ _ _, rfl⟩
  case body =>
    rintro l pre x a' W hl ⟨r, hr⟩ ⟨⟨⟨bC1, bB1'⟩, bO1⟩, hB1⟩ ⟨Bx, hBx, bX, rfl⟩ hlt
    have cB := bB1'.cell
    have hz := hB1.2
    gi_wp2
    refine ⟨trivial, ?_⟩
    refine (CallsIn.inRound l (callsIn_wide.2 (segments_any _ _ _ _))).mono ?_
    rintro e w' ⟨rfl, rfl⟩
    gi_wp2
    have bN := Boxed.new W 22 (.slice bo qs.length cbp)
    have hr' : (W.alloc (.cells #[.slice bo qs.length cbp] 22)).heap[l]? = some (.loop r) := (Below.heap_alloc W _ l (Array.getElem?_eq_some_iff.1 hr).1).trans hr
    have hPb1 := hPb.keep hB1.1
    refine wpIn_rangeFunc_ownN (l₀ := l) (r₀ := r) rfl hr' (by omega) (gf := 45) (lb := #[.pointer (some ⟨W.heap.size, 0, none⟩)]) rfl trivial (enters_of Try.func45 (by kernel_rfl) rfl)
      ((seg_stops 9 (by omega) w2.heap.size W.heap.size bo cbp qs hlb _ bN hPb.block (hPb1.keep (al1 ..))).inRound l) KpB.t (KpB.b (by simp; omega) (by simp)) (Below.refl _ _) (fun _ => rfl)
      (fun pre' W' => (((Boxed W' w2.heap.size 3 (.int .i64 (xAll pre (sgs qs (qs.length - 1)) + xIn x pre')) ∧ Boxed W' w.heap.size 22 (.slice bo qs.length cbp)) ∧ Box4 W' Bx 36 x.1.1 x.1.2 x.2.1 x.2.2) ∧ Boxed W' (w2.heap.size + 1) 22 (.slice ao ps.length cap)) ∧ (Below w2.heap.size W W' ∧ KeepsFrom W0.heap.size W W') ∧ W.heap.size + 1 ≤ W'.heap.size)
      (fun _ _ _ => False)
      (OwnFrom.and (OwnFrom.and (OwnFrom.and (OwnFrom.and (boxed_from _ _ _ _) (boxed_from _ _ _ _)) (box4_from _ _ _ _ _ _ _)) (boxed_from _ _ _ _)) (OwnFrom.and (OwnFrom.and (ownFrom_below (by omega) (by simp; omega)) (ownFrom_keepsFrom (by simp))) (ownFrom_size _ _)))
      (fun _ _ _ _ _ hs _ _ => hs)
      ⟨⟨⟨⟨by simpa [xIn] using bC1.alloc _, bB1'.alloc _⟩, bX.kept (World.grownBy_alloc W _ none) (by simp)⟩, bO1.alloc _⟩, ⟨(Below.refl _ W).alloc (by omega) _, (KeepsOthers.alloc _ _).from _⟩, by simp⟩
      (fun y a'' W' => ∃ By, W.heap.size < By ∧ Box4 W' By 36 y.1.1 y.1.2 y.2.1 y.2.2 ∧ a'' = { tmps := #[.slice ao ps.length cap, .slice bo qs.length cbp, undef, .pointer (some ⟨w.heap.size, 0, none⟩), .int .i64 0, .pointer (some ⟨w2.heap.size, 0, none⟩), .pointer (some ⟨Bx, 0, none⟩), .pointer (some ⟨By, 0, none⟩), .slice ao ps.length cap, .bool true, .bool false, .bool false, .slice bo qs.length cbp, .bool true, .bool false, .bool false, .slice ao ps.length cap, .func (.func 45) #[] #[.pointer (some ⟨w2.heap.size + 1, 0, none⟩)], segV x, .slice bo qs.length cbp, .func (.func 45) #[] #[.pointer (some ⟨W.heap.size, 0, none⟩)], segV y, undef, undef, undef, undef, undef, undef], defers := [] })
      (fun y a'' _ X Y row hs hg hr => by
        obtain ⟨By, h1, h2, h3⟩ := hs
        exact ⟨By, h1, box4_own h2 hg hr, h3⟩)
      ?assign2 ?body2 ?done2 ?stop2
    case assign2 =>
      rintro l2 pre' y W' K ⟨⟨⟨⟨bC2, bB2⟩, bX2⟩, bO2⟩, ⟨hBW, hKF⟩, hs2⟩ hK
      dsimp only [segV]
      gi_wp2
      have hz2 := hBW.size
      exact hK _ _ ((KeepsOthers.alloc _ _).from _) (KpB.of (by omega) (by omega) (al1 _ _)) ⟨⟨⟨⟨bC2.alloc _, bB2.alloc _⟩, bX2.kept (World.grownBy_alloc W' _ none) (by simp)⟩, bO2.alloc _⟩, ⟨hBW.alloc (by omega) _, hKF.trans ((KeepsOthers.alloc _ _).from _)⟩, by simp; omega⟩ ⟨W'.heap.size, by omega, Box4.new W' _ _ _ _ _, rfl⟩
    case body2 =>
      rintro l2 pre' y a'' W' _ _ ⟨⟨⟨⟨bC2, bB2⟩, bX2⟩, bO2⟩, ⟨hBW, hKF⟩, hs2⟩ ⟨By, hBy, bY, rfl⟩ hlt'
      have cC := bC2.cell
      have fC := bC2.frozen
      obtain ⟨x0, x1, x2, x3⟩ := bX2.at
      obtain ⟨y0, y1, y2, y3⟩ := bY.at
      have hz2 := hBW.size
      obtain ⟨g, hg⟩ : ∃ v, sgX x y = v := ⟨_, rfl⟩
      have HG := Lib.hid hg
      clear hg
      gi_wp2
      refine ⟨trivial, ?_⟩
      refine (CallsIn.inRound l2 (CallsIn.inRound l (callsIn_wide.2 (cross_of x y g HG W')))).mono ?_
      rintro e w3 ⟨rfl, hb3⟩
      have bC3 := boxed_keep hb3 bC2
      have cC3 := bC3.cell
      have fC3 := bC3.frozen
      have hk3 := (keepsOthers_below hb3)
      have hBW3 := hBW.trans (hb3.mono (by omega : w2.heap.size ≤ W'.heap.size))
      have hs3 := hb3.size
      have r1 := xAll_small pre (sgs qs (qs.length - 1)) (by have := HL.out.2; omega) (by rw [sgs_length]; have := HM.out.2; omega)
      have r2 := xIn_range x pre'
      have r3 := HM.out.2
      have hwk : IntKind.i64.wrap (xAll pre (sgs qs (qs.length - 1)) + xIn x pre' + 1) = xAll pre (sgs qs (qs.length - 1)) + xIn x pre' + 1 := IntWalk.i64_in _ (by omega)
      cases g
      · gi_wp2
        refine ⟨hk3.from _, KpB.of (by omega) (by omega) hb3, ⟨⟨⟨?_, boxed_keep hb3 bB2⟩, bX2.keep hb3⟩, boxed_keep hb3 bO2⟩, ⟨hBW3, hKF.trans (hk3.from _)⟩, by omega⟩
        rw [xIn_snoc, HG.out, if_neg (by simp)]
        exact bC3
      · gi_wp2
        refine ⟨(hk3.trans (KeepsOthers.setCell _ _ _)).from _, (KpB.of (by omega) (by omega) hb3).t (KpB.set (by omega) (by omega)), ⟨⟨⟨?_, (boxed_keep hb3 bB2).other (by omega) _⟩, (bX2.keep hb3).kept (grownBy_setCell' _ _ _) (by simp; omega)⟩, (boxed_keep hb3 bO2).other (by omega) _⟩, ⟨hBW3.setCell (p := ⟨w2.heap.size, 0, none⟩) (by simp) _, hKF.trans ((hk3.trans (KeepsOthers.setCell _ _ _)).from _)⟩, Nat.le_trans (by omega) (KeepsOthers.setCell _ _ _).size⟩
        rw [xIn_snoc, HG.out, if_pos rfl]
        have := bC3.set (.int .i64 (xAll pre (sgs qs (qs.length - 1)) + xIn x pre' + 1))
        rw [show xAll pre (sgs qs (qs.length - 1)) + (xIn x pre' + 1) = xAll pre (sgs qs (qs.length - 1)) + xIn x pre' + 1 by omega]
        exact this
    case done2 =>
      rintro ys' W' rfl ⟨⟨⟨⟨bC2, bB2⟩, bX2⟩, bO2⟩, ⟨hBW, hKF⟩, hs2⟩
      gi_wp2
      have hz2 := hBW.size
      exact ⟨hKF, ⟨hBW, (show W'.heap[w2.heap.size + 1]? = _ from bO2).trans (show W.heap[w2.heap.size + 1]? = _ from bO1).symm⟩, ⟨⟨by rw [xAll_snoc]; exact bC2, bB2⟩, bO2⟩, hB1.1.trans hBW, by omega⟩
    case stop2 =>
      rintro c pre' W' _ h
      exact h.elim
  case done =>
    rintro D zs W hD rfl ⟨⟨⟨bC1, _⟩, _⟩, hB1⟩ hK
    have cC := bC1.cell
    gi_wp2
    refine ⟨by simp, .inl ⟨_, _, rfl, run_takeDeferred hK, ?_⟩⟩
    exact ⟨_, results_tmp rfl _ _ _, by rw [HR.out]; rfl, below_keep (hB1.1.trans (belowK_b (w := w2) (Nat.le_refl _) W D _ _ (by omega) hK rfl rfl)) hb2'⟩
  case stop =>
    rintro D c pre W _ _ h _
    exact h.elim
end Go.Proofs.Ytllhdalfhhjigaa
