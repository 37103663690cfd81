/-
  The iterator over the bends of a list of points, as the code makes it: its contract. Condition: the list has a point, and is no longer than a list can be.
-/
import Derived.Test.YtllhdalfhhjigaaSeqX
import Derived.Test.YtllhdalfhhjigaaSegs
namespace Go.Proofs.Ytllhdalfhhjigaa
open Go.RowKit
attribute [local go_sem] Oper.semAt_some

def onB (p a b : Pt) : Bool := on p.1 p.2 a.1 a.2 b.1 b.2
/-- Of different valid points the middle one lies between the others just where there is no bend. -/
theorem onB_bnd (p q r : Pt) (hp : vld p.1 p.2 = true) (hq : vld q.1 q.2 = true) (hr : vld r.1 r.2 = true) (h1 : p ≠ q) (h2 : q ≠ r) : onB q p r = !bndB p q r := by
  have hs : ∀ n : Int, sgn n = 0 ↔ n = 0 := by intro n; unfold sgn; split <;> (try split) <;> omega
  have e : onB q p r = true ↔ sd (q.1 - p.1) (q.2 - p.2) (r.1 - q.1) (r.2 - q.2) := by
    unfold onB on has vld3 side
    rw [hp, hq, hr, btw_of, btw_of]
    simp only [Bool.and_self, Bool.true_and, Bool.and_eq_true, decide_eq_true_eq, hs]
    constructor
    · rintro ⟨⟨ha, hx⟩, hy⟩
      have hb : bndB p q r = false := by
        unfold bndB area at *
        simp only [Bool.or_eq_false_iff, decide_eq_false_iff_not, ne_eq, Classical.not_not, Int.not_lt]
        constructor
        · have : (q.1 - p.1) * (r.2 - p.2) - (q.2 - p.2) * (r.1 - p.1) = -((r.1 - p.1) * (q.2 - p.2) - (r.2 - p.2) * (q.1 - p.1)) := by grind
          rw [this, ha]; rfl
        · have k : ∀ a b c : Int, min a c ≤ b → b ≤ max a c → 0 ≤ (b - a) * (c - b) := by
            intro a b c h h'
            rcases Int.le_total a c with hac | hac
            · exact Int.mul_nonneg (by omega) (by omega)
            · exact Int.mul_nonneg_of_nonpos_of_nonpos (by omega) (by omega)
          have k1 := k p.1 q.1 r.1 hx.1 hx.2
          have k2 := k p.2 q.2 r.2 hy.1 hy.2
          omega
      exact not_bnd h1 h2 hb
    · intro h
      have hg := sd_signs h
      refine ⟨⟨?_, by omega⟩, by omega⟩
      have hc := h.1
      unfold crs2 at hc
      unfold area
      have : (r.1 - p.1) * (q.2 - p.2) - (r.2 - p.2) * (q.1 - p.1) = -((q.1 - p.1) * (r.2 - q.2) - (q.2 - p.2) * (r.1 - q.1)) := by grind
      rw [this, hc]; rfl
  have e2 := bndB_iff p q r h1 h2
  unfold bnd at e2
  cases h : onB q p r <;> cases h' : bndB p q r <;> simp_all

/-- The last point gone by and the bends so far. -/
def bst (p0 : Pt) (L : List Sg) : Pt × List Pt := L.foldl (fun st s => (s.1, if onB s.1 st.1 s.2 then st.2 else st.2 ++ [s.1])) (p0, [])
theorem bst_nil (p0 : Pt) : bst p0 [] = (p0, []) := rfl
theorem bst_snoc (p0 : Pt) (L : List Sg) (s : Sg) : bst p0 (L ++ [s]) = (s.1, if onB s.1 (bst p0 L).1 s.2 then (bst p0 L).2 else (bst p0 L).2 ++ [s.1]) := by unfold bst; rw [List.foldl_append]; rfl
theorem bst_length (p0 : Pt) (L : List Sg) : (bst p0 L).2.length ≤ L.length := by
  have key : ∀ (L : List Sg) (st : Pt × List Pt), (L.foldl (fun st s => (s.1, if onB s.1 st.1 s.2 then st.2 else st.2 ++ [s.1])) st).2.length ≤ st.2.length + L.length := by
    intro L
    induction L with
    | nil => intro st; simp
    | cons a t ih =>
      intro st
      have := ih (a.1, if onB a.1 st.1 a.2 then st.2 else st.2 ++ [a.1])
      simp only [List.foldl_cons, List.length_cons]
      refine Nat.le_trans this ?_
      cases onB a.1 st.1 a.2
      · simp only [Bool.false_eq_true, if_false, List.length_append, List.length_cons, List.length_nil]; omega
      · simp only [if_true]; omega
  have := key L (p0, [])
  simpa [bst] using this
/-- The bends among the first k inner points. -/
def bout (l : List Pt) : Nat → List Pt
  | 0 => []
  | k + 1 => if bndB (pa l k) (pa l (k + 1)) (pa l (k + 2)) then bout l k ++ [pa l (k + 1)] else bout l k
theorem pa_tail (l : List Pt) (i : Nat) : pa l.tail i = pa l (i + 1) := by cases l <;> rfl
theorem bst_sgs (l : List Pt) (hv : ∀ i, i < l.length → vld (pa l i).1 (pa l i).2 = true) (hd : dif l) : ∀ k, k + 2 ≤ l.length ∨ k = 0 → bst (pa l 0) (sgs l.tail k) = (pa l k, bout l k)
  | 0, _ => rfl
  | k + 1, hk => by
    have hk' : k + 1 + 2 ≤ l.length := by omega
    have hd' := (dif_index l).2 hd
    rw [sgs_succ, bst_snoc, bst_sgs l hv hd k (by omega), pa_tail, pa_tail]
    simp only [bout, onB_bnd (pa l k) (pa l (k + 1)) (pa l (k + 2)) (hv _ (by omega)) (hv _ (by omega)) (hv _ (by omega)) (hd' k (by omega)) (hd' (k + 1) (by omega))]
    cases bndB (pa l k) (pa l (k + 1)) (pa l (k + 2)) <;> simp
theorem bout_length (l : List Pt) : ∀ k, k + 2 ≤ l.length ∨ k = 0 → (bout l k).length = bndTo l (k + 1)
  | 0, _ => rfl
  | k + 1, hk => by
    rw [bndTo_succ l (k + 1) (by omega) (by omega), ← bout_length l k (by omega), bout]
    simp only [Nat.add_sub_cancel]
    split <;> simp
theorem bout_simp (l : List Pt) : ∀ k, k + 2 ≤ l.length ∨ k = 0 → simpI l (k + 1) = if l.length = 0 then simpI l (k + 1) else pa l 0 :: bout l k
  | 0, _ => by
    by_cases h : l.length = 0
    · simp [h]
    · rw [if_neg h, simpI_yes l 0 (by simp [keepI])]; simp [simpI, bout]
  | k + 1, hk => by
    have ih := bout_simp l k (by omega)
    rw [if_neg (by omega)] at ih ⊢
    have hkeep : keepI l (k + 1) = bndB (pa l k) (pa l (k + 1)) (pa l (k + 2)) := by
      unfold keepI; simp; omega
    cases hb : bndB (pa l k) (pa l (k + 1)) (pa l (k + 2)) with
    | true => rw [simpI_yes l (k + 1) (by rw [hkeep, hb]), ih, bout, if_pos hb]; simp
    | false => rw [simpI_no l (k + 1) (by rw [hkeep, hb]), ih, bout, if_neg (by rw [hb]; simp)]
/-- The first point, the bends, the last point. -/
theorem simpL_bout (l : List Pt) (h : 2 ≤ l.length) : simpL l = pa l 0 :: bout l (l.length - 2) ++ [pa l (l.length - 1)] := by
  have h1 := bout_simp l (l.length - 2) (by omega)
  rw [if_neg (by omega), show l.length - 2 + 1 = l.length - 1 by omega] at h1
  rw [← simpI_eq]
  have h2 := simpI_yes l (l.length - 1) (by unfold keepI; simp; omega)
  rw [show l.length - 1 + 1 = l.length by omega] at h2
  rw [h2, h1]

set_option maxHeartbeats 1000000 in
theorem bends_fn (ao : Option Addr) (len cap : Nat) (w : World) :
    Calls Try.prog 34 #[.slice ao len cap] w fun e w' => e = .returned (.func (.func 48) #[] #[.pointer (some ⟨w.heap.size, 0, none⟩)]) ∧ w' = w.alloc (.cells #[.slice ao len cap] 22) := by
  go_enter Try.func34, Try.ntmps34
  go_wp2
  go_ret
  exact ⟨rfl, rfl⟩

theorem on_ofB (p a b : Pt) (v : Bool) (h : Hid (onB p a b = v)) (w : World) : Calls Try.prog 49 #[.agg #[.int .i64 p.1, .int .i64 p.2], .agg #[.int .i64 a.1, .int .i64 a.2, .int .i64 b.1, .int .i64 b.2]] w fun e w' => e = .returned (.bool v) ∧ Below w.heap.size w w' := by
  have := on_any p.1 p.2 a.1 a.2 b.1 b.2 w
  rw [show on p.1 p.2 a.1 a.2 b.1 b.2 = v from h.out] at this
  exact this
/-- What is left of a list behind its first point. -/
theorem tail_pl {W : World} {A : Addr} {cap : Nat} {l : List Pt} (h : Pl W (.slice (some A) l.length cap) l) (hc : 1 ≤ cap) : Pl W (.slice (some ⟨A.block, A.off + 2, none⟩) l.tail.length (cap - 1)) l.tail := by
  obtain ⟨ao, cap', e, hcp, hA⟩ := h
  cases e
  refine ⟨_, _, rfl, by rw [List.length_tail]; omega, fun h0 => ⟨_, rfl, fun i hi => ?_⟩⟩
  rw [List.length_tail] at hi
  obtain ⟨A', e', hA2⟩ := hA (by omega)
  cases e'
  have h2 := hA2 (i + 1) (by omega)
  rw [pa_tail]
  have e1 : A.add ((i + 1) * 2) = ⟨A.block, A.off + (i + 1) * 2, none⟩ := add_one_of _ _ (by omega)
  have e2 : (⟨A.block, A.off + 2, none⟩ : Addr).add (i * 2) = ⟨A.block, A.off + (i + 1) * 2, none⟩ := by
    unfold Addr.add
    split
    all_goals first
      | (simp; omega)
      | (simp; done)
      | (simp_all; done)
  rw [e1] at h2
  rw [e2]
  exact h2
theorem tail_pl1 {W : World} {A : Addr} {l : List Pt} (h : l.length ≤ 1) : Pl W (.slice (some A) l.tail.length 0) l.tail := by
  have h0 : l.tail.length = 0 := by rw [List.length_tail]; omega
  exact ⟨_, _, rfl, by omega, fun h => by omega⟩
def ptV (p : Pt) : Value := .agg #[.int .i64 p.1, .int .i64 p.2]

set_option maxRecDepth 100000 in
set_option maxHeartbeats 4000000 in
theorem bends_x (m Bp : Nat) (A : Addr) (cap : Nat) (pts : List Pt) (h1 : 1 ≤ pts.length) (hlen : pts.length ≤ maxLen) (w : World) (hB : Boxed w Bp 22 (.slice (some A) pts.length cap))
    (hb : A.block < m) (hm : m ≤ w.heap.size) (hP : Pl w (.slice (some A) pts.length cap) pts) :
    SeqX Try.prog 48 #[.pointer (some ⟨Bp, 0, none⟩)] (fun p : Pt => #[ptV p]) 36 m pts.length (bst (pa pts 0) (sgs pts.tail (pts.tail.length - 1))).2 w := by
  intro n l J b0 W hW hb0 hJ hJb hY h0
  have hBW := boxed_keep hW hB
  have cB := hBW.cell
  have hPW := hP.keep hW
  have hmW : m ≤ W.heap.size := Nat.le_trans hm hW.size
  obtain ⟨A', cap', e1, hcap, c0, c1⟩ := hPW.get 0 (by omega)
  cases e1
  have hltB := hBW.lt
  have hltA : A.block < W.heap.size := by omega
  have hltA0 : (A.add (0 * 2)).block < W.heap.size := by rw [show (A.add (0 * 2)).block = A.block by unfold Addr.add; split <;> rfl]; exact hltA
  have d0 : W.cell? A = some (.int .i64 (pa pts 0).1) := by simpa [Addr.add] using c0
  have d1 : W.cell? ⟨A.block, A.off + 1, none⟩ = some (.int .i64 (pa pts 0).2) := by simpa [Addr.add] using c1
  have hPt0 := tail_pl hPW (by omega)
  have hPt1 := fun h => @tail_pl1 W A pts h
  have ht : pts.tail.length = pts.length - 1 := List.length_tail
  generalize pts.tail = T at *
  have HT := Lib.hid ht
  have hTlt : T.length < pts.length := by omega
  clear ht
  have hlen' := hlen
  unfold maxLen at hlen'
  refine callsIn_wide.2 ((callsIn_wide (n := 9)).1 ?_)
  refine callsIn_of_wp_marks Try.func48 rfl trivial ?_ rfl
  simp only [Try.ntmps48, List.size_toArray, List.length_cons, List.length_nil, Nat.reduceAdd, Nat.reduceSub, Array.replicate_succ, Array.replicate_zero, List.push_toArray, List.append_toArray, List.nil_append, List.cons_append]
  gi_wp2
  · have hPt : Pl W (.slice (some A) T.length (0)) T := hPt1 (by omega)
    have hAt : (A : Addr).block < m := hb
    refine ⟨trivial, ?_⟩
    rw [← HT.out]
    refine (callsIn_wide.2 (segments_any _ _ _ _)).mono ?_
    rintro e w' ⟨rfl, rfl⟩
    gi_wp2
    have bY := ((Boxed.new W 38 (.func (.yield l) #[] #[])).alloc (.cells #[.int .i64 (pa pts 0).1, .int .i64 (pa pts 0).2] 33)).alloc (.cells #[.slice (some A) T.length (0)] 22)
    have bF := (Box2.new (W.alloc (.cells #[.func (.yield l) #[] #[]] 38)) 33 (pa pts 0).1 (pa pts 0).2).keep (al1 _ (.cells #[.slice (some A) T.length (0)] 22))
    have bS := Boxed.new ((W.alloc (.cells #[.func (.yield l) #[] #[]] 38)).alloc (.cells #[.int .i64 (pa pts 0).1, .int .i64 (pa pts 0).2] 33)) 22 (.slice (some A) T.length (0))
    have hB0 := al3 W (.cells #[.func (.yield l) #[] #[]] 38) (.cells #[.int .i64 (pa pts 0).1, .int .i64 (pa pts 0).2] 33) (.cells #[.slice (some A) T.length (0)] 22)
    simp only [World.size_alloc] at bF bS
    have hsz : (((W.alloc (.cells #[.func (.yield l) #[] #[]] 38)).alloc (.cells #[.int .i64 (pa pts 0).1, .int .i64 (pa pts 0).2] 33)).alloc (.cells #[.slice (some A) T.length (0)] 22)).heap.size = W.heap.size + 3 := by simp
    obtain ⟨W0, hW0⟩ : ∃ W0, ((W.alloc (.cells #[.func (.yield l) #[] #[]] 38)).alloc (.cells #[.int .i64 (pa pts 0).1, .int .i64 (pa pts 0).2] 33)).alloc (.cells #[.slice (some A) T.length (0)] 22) = W0 := ⟨_, rfl⟩
    rw [hW0] at bY bF bS hB0 hsz ⊢
    clear hW0
    have hJ0 := hJ _ _ _ _ none h0 (below_grown hB0) (fun r e => by cases e)
    refine wpIn_rangeFunc_ownH rfl (by omega) (gf := 45) (lb := #[.pointer (some ⟨W.heap.size + 1 + 1, 0, none⟩)]) rfl trivial (enters_of Try.func45 (by kernel_rfl) rfl)
      (seg_stops 8 (by omega) m (W.heap.size + 1 + 1) (some A) (0) T (by omega) W0 bS (fun A' e _ => by cases e; exact hAt) (hPt.keep hB0)) KpB.t (KpB.b (by omega) (by omega)) (Below.refl _ _) (fun _ => rfl)
      (fun pre X => ∃ b, (J (bst (pa pts 0) pre).2 b X ∧ (b < W.heap.size ∨ W.heap.size + 3 ≤ b)) ∧ Boxed X W.heap.size 38 (.func (.yield l) #[] #[]) ∧ Box2 X (W.heap.size + 1) 33 (bst (pa pts 0) pre).1.1 (bst (pa pts 0) pre).1.2 ∧
        Boxed X (W.heap.size + 1 + 1) 22 (.slice (some A) T.length (0)) ∧ W.heap.size + 3 ≤ X.heap.size)
      (fun _ _ _ => False)
      (fun pre X Y row hs hg hr => by
        obtain ⟨b, ⟨hj, hbb⟩, q1, q2, q3, q4⟩ := hs
        have hc : ∀ k o, X.heap[k]? = some o → o.isCells = true → some k ≠ row := fun k o ho hc e => by
          obtain ⟨_, o', ho', hc'⟩ := hr k e.symm
          rw [ho] at ho'; cases ho'; rw [hc] at hc'; cases hc'
        obtain ⟨cs, t, fr, hcb, _⟩ := hJb _ _ _ hj
        exact ⟨b, ⟨hJ _ _ _ _ row hj hg (fun r e => ⟨by have := (hr r e).1; omega, fun e' => hc b _ hcb rfl (by rw [e, e'])⟩), hbb⟩, q1.kept hg (hc _ _ q1 rfl), q2.kept hg (hc _ _ q2 rfl), q3.kept hg (hc _ _ q3 rfl), Nat.le_trans q4 hg.size⟩)
      (fun _ _ _ _ _ hs _ _ => hs)
      ⟨b0, ⟨hJ0, .inl hb0⟩, bY, bF, bS, by omega⟩
      (fun x a' X => ∃ Bx, W.heap.size + 3 ≤ Bx ∧ Box4 X Bx 36 x.1.1 x.1.2 x.2.1 x.2.2 ∧ a' = { tmps := #[.func (.yield l) #[] #[], .pointer (some ⟨Bp, 0, none⟩), .pointer (some ⟨W.heap.size, 0, none⟩), .pointer (some ⟨W.heap.size + 1, 0, none⟩), .pointer (some ⟨Bx, 0, none⟩), .slice (some A) pts.length 1, .pointer (some A), ptV (pa pts 0), .slice (some A) pts.length 1, .slice (some A) T.length (0), .func (.func 45) #[] #[.pointer (some ⟨W.heap.size + 1 + 1, 0, none⟩)], segV x, undef, undef, undef, undef, undef, undef, undef, undef, undef, undef, undef, undef, undef, undef, undef, undef, undef], defers := [] })
      (fun x a' _ X Y row hs hg hr => by
        obtain ⟨Bx, h1, h2, h3⟩ := hs
        exact ⟨Bx, h1, box4_own h2 hg hr, h3⟩)
      ?assign ?body ?done ?stop
    case assign =>
      rintro l2 pre x X K ⟨b, ⟨hj, hbb⟩, q1, q2, q3, q4⟩ hK
      dsimp only [segV]
      gi_wp2
      exact hK _ _ ((KeepsOthers.alloc _ _).from _) (KpB.of (by omega) (by omega) (al1 _ _)) ⟨b, ⟨hJ _ _ _ _ none hj (below_grown (al1 _ _)) (fun r e => by cases e), hbb⟩, q1.alloc _, q2.keep (al1 _ _), q3.alloc _, by simp; omega⟩ ⟨X.heap.size, by omega, Box4.new X _ _ _ _ _, rfl⟩
    case body =>
      rintro l2 pre x a' X hl ⟨r, hr⟩ ⟨b, ⟨hj, hbb⟩, q1, q2, q3, q4⟩ ⟨Bx, hBx, bX, rfl⟩ hlt
      exfalso
      omega
    case done =>
      rintro D ys X hD rfl ⟨b, ⟨hj, hbb⟩, q1, q2, q3, q4⟩ hK
      gi_wp2
      refine ⟨by simp, .inl ⟨_, _, rfl, run_takeDeferred hK, ?_⟩⟩
      obtain ⟨cs, t, fr, hcb, _⟩ := hJb _ _ _ hj
      exact ⟨_, results_none rfl _ _ _, ⟨_, rfl⟩, b, hJ _ _ _ _ (some D) hj (grownBy_putObj' _ _ _) (fun r e => by cases e; exact ⟨by omega, fun e' => by rw [e', hcb] at hK; cases hK⟩)⟩
    case stop =>
      rintro D c pre X _ _ h _
      exact h.elim
  · have hPt : Pl W (.slice (some ⟨A.block, A.off + 2, none⟩) T.length (cap - 1)) T := hPt0
    have hAt : (⟨A.block, A.off + 2, none⟩ : Addr).block < m := hb
    refine ⟨trivial, ?_⟩
    rw [← HT.out]
    refine (callsIn_wide.2 (segments_any _ _ _ _)).mono ?_
    rintro e w' ⟨rfl, rfl⟩
    gi_wp2
    have bY := ((Boxed.new W 38 (.func (.yield l) #[] #[])).alloc (.cells #[.int .i64 (pa pts 0).1, .int .i64 (pa pts 0).2] 33)).alloc (.cells #[.slice (some ⟨A.block, A.off + 2, none⟩) T.length (cap - 1)] 22)
    have bF := (Box2.new (W.alloc (.cells #[.func (.yield l) #[] #[]] 38)) 33 (pa pts 0).1 (pa pts 0).2).keep (al1 _ (.cells #[.slice (some ⟨A.block, A.off + 2, none⟩) T.length (cap - 1)] 22))
    have bS := Boxed.new ((W.alloc (.cells #[.func (.yield l) #[] #[]] 38)).alloc (.cells #[.int .i64 (pa pts 0).1, .int .i64 (pa pts 0).2] 33)) 22 (.slice (some ⟨A.block, A.off + 2, none⟩) T.length (cap - 1))
    have hB0 := al3 W (.cells #[.func (.yield l) #[] #[]] 38) (.cells #[.int .i64 (pa pts 0).1, .int .i64 (pa pts 0).2] 33) (.cells #[.slice (some ⟨A.block, A.off + 2, none⟩) T.length (cap - 1)] 22)
    simp only [World.size_alloc] at bF bS
    have hsz : (((W.alloc (.cells #[.func (.yield l) #[] #[]] 38)).alloc (.cells #[.int .i64 (pa pts 0).1, .int .i64 (pa pts 0).2] 33)).alloc (.cells #[.slice (some ⟨A.block, A.off + 2, none⟩) T.length (cap - 1)] 22)).heap.size = W.heap.size + 3 := by simp
    obtain ⟨W0, hW0⟩ : ∃ W0, ((W.alloc (.cells #[.func (.yield l) #[] #[]] 38)).alloc (.cells #[.int .i64 (pa pts 0).1, .int .i64 (pa pts 0).2] 33)).alloc (.cells #[.slice (some ⟨A.block, A.off + 2, none⟩) T.length (cap - 1)] 22) = W0 := ⟨_, rfl⟩
    rw [hW0] at bY bF bS hB0 hsz ⊢
    clear hW0
    have hJ0 := hJ _ _ _ _ none h0 (below_grown hB0) (fun r e => by cases e)
    refine wpIn_rangeFunc_ownH rfl (by omega) (gf := 45) (lb := #[.pointer (some ⟨W.heap.size + 1 + 1, 0, none⟩)]) rfl trivial (enters_of Try.func45 (by kernel_rfl) rfl)
      (seg_stops 8 (by omega) m (W.heap.size + 1 + 1) (some ⟨A.block, A.off + 2, none⟩) (cap - 1) T (by omega) W0 bS (fun A' e _ => by cases e; exact hAt) (hPt.keep hB0)) KpB.t (KpB.b (by omega) (by omega)) (Below.refl _ _) (fun _ => rfl)
      (fun pre X => ∃ b, (J (bst (pa pts 0) pre).2 b X ∧ (b < W.heap.size ∨ W.heap.size + 3 ≤ b)) ∧ Boxed X W.heap.size 38 (.func (.yield l) #[] #[]) ∧ Box2 X (W.heap.size + 1) 33 (bst (pa pts 0) pre).1.1 (bst (pa pts 0) pre).1.2 ∧
        Boxed X (W.heap.size + 1 + 1) 22 (.slice (some ⟨A.block, A.off + 2, none⟩) T.length (cap - 1)) ∧ W.heap.size + 3 ≤ X.heap.size)
      (fun _ _ _ => False)
      (fun pre X Y row hs hg hr => by
        obtain ⟨b, ⟨hj, hbb⟩, q1, q2, q3, q4⟩ := hs
        have hc : ∀ k o, X.heap[k]? = some o → o.isCells = true → some k ≠ row := fun k o ho hc e => by
          obtain ⟨_, o', ho', hc'⟩ := hr k e.symm
          rw [ho] at ho'; cases ho'; rw [hc] at hc'; cases hc'
        obtain ⟨cs, t, fr, hcb, _⟩ := hJb _ _ _ hj
        exact ⟨b, ⟨hJ _ _ _ _ row hj hg (fun r e => ⟨by have := (hr r e).1; omega, fun e' => hc b _ hcb rfl (by rw [e, e'])⟩), hbb⟩, q1.kept hg (hc _ _ q1 rfl), q2.kept hg (hc _ _ q2 rfl), q3.kept hg (hc _ _ q3 rfl), Nat.le_trans q4 hg.size⟩)
      (fun _ _ _ _ _ hs _ _ => hs)
      ⟨b0, ⟨hJ0, .inl hb0⟩, bY, bF, bS, by omega⟩
      (fun x a' X => ∃ Bx, W.heap.size + 3 ≤ Bx ∧ Box4 X Bx 36 x.1.1 x.1.2 x.2.1 x.2.2 ∧ a' = { tmps := #[.func (.yield l) #[] #[], .pointer (some ⟨Bp, 0, none⟩), .pointer (some ⟨W.heap.size, 0, none⟩), .pointer (some ⟨W.heap.size + 1, 0, none⟩), .pointer (some ⟨Bx, 0, none⟩), .slice (some A) pts.length cap, .pointer (some A), ptV (pa pts 0), .slice (some A) pts.length cap, .slice (some ⟨A.block, A.off + 2, none⟩) T.length (cap - 1), .func (.func 45) #[] #[.pointer (some ⟨W.heap.size + 1 + 1, 0, none⟩)], segV x, undef, undef, undef, undef, undef, undef, undef, undef, undef, undef, undef, undef, undef, undef, undef, undef, undef], defers := [] })
      (fun x a' _ X Y row hs hg hr => by
        obtain ⟨Bx, h1, h2, h3⟩ := hs
        exact ⟨Bx, h1, box4_own h2 hg hr, h3⟩)
      ?assign ?body ?done ?stop
    case assign =>
      rintro l2 pre x X K ⟨b, ⟨hj, hbb⟩, q1, q2, q3, q4⟩ hK
      dsimp only [segV]
      gi_wp2
      exact hK _ _ ((KeepsOthers.alloc _ _).from _) (KpB.of (by omega) (by omega) (al1 _ _)) ⟨b, ⟨hJ _ _ _ _ none hj (below_grown (al1 _ _)) (fun r e => by cases e), hbb⟩, q1.alloc _, q2.keep (al1 _ _), q3.alloc _, by simp; omega⟩ ⟨X.heap.size, by omega, Box4.new X _ _ _ _ _, rfl⟩
    case body =>
      rintro l2 pre x a' X hl ⟨r, hr⟩ ⟨b, ⟨hj, hbb⟩, q1, q2, q3, q4⟩ ⟨Bx, hBx, bX, rfl⟩ hlt
      obtain ⟨y0, y1, y2, y3⟩ := bX.at
      obtain ⟨f0, f1, f2, f3⟩ := q2.ow
      have cY := q1.cell
      obtain ⟨g, hg⟩ : ∃ v, onB x.1 (bst (pa pts 0) pre).1 x.2 = v := ⟨_, rfl⟩
      have HG := Lib.hid hg
      have HS := Lib.hid (bst_snoc (pa pts 0) pre x)
      clear hg
      gi_wp2
      refine ⟨trivial, ?_⟩
      refine (CallsIn.inRound l2 (callsIn_wide.2 (on_ofB x.1 (bst (pa pts 0) pre).1 x.2 g HG X))).mono ?_
      rintro e X1 ⟨rfl, hb1⟩
      have hj1 := hJ _ _ _ _ none hj (below_grown hb1) (fun r e => by cases e)
      have q11 := boxed_keep hb1 q1
      have q21 := q2.keep hb1
      have q31 := boxed_keep hb1 q3
      have bX1 := bX.keep hb1
      have hs1 := hb1.size
      obtain ⟨z0, z1, z2, z3⟩ := bX1.at
      obtain ⟨g0, g1, g2, g3⟩ := q21.ow
      have cY1 := q11.cell
      have hO1 := (keepsOthers_below hb1).from W0.heap.size
      have hK1 := KpB.of (m := m) (Bs := W.heap.size + 1 + 1) (by omega) (by omega) hb1
      have fin : ∀ Y b', J (bst (pa pts 0) (pre ++ [x])).2 b' Y → (b' < W.heap.size ∨ W.heap.size + 3 ≤ b') → Boxed Y W.heap.size 38 (.func (.yield l) #[] #[]) → Box2 Y (W.heap.size + 1) 33 (bst (pa pts 0) pre).1.1 (bst (pa pts 0) pre).1.2 →
          Boxed Y (W.heap.size + 1 + 1) 22 (.slice (some ⟨A.block, A.off + 2, none⟩) T.length (cap - 1)) → W.heap.size + 3 ≤ Y.heap.size → KeepsFrom W0.heap.size X Y → KpB m (W.heap.size + 1 + 1) X Y →
          KeepsFrom W0.heap.size X ((Y.setCell ⟨W.heap.size + 1, 0, none⟩ (.int .i64 x.1.1)).setCell ⟨W.heap.size + 1, 1, none⟩ (.int .i64 x.1.2)) ∧ KpB m (W.heap.size + 1 + 1) X ((Y.setCell ⟨W.heap.size + 1, 0, none⟩ (.int .i64 x.1.1)).setCell ⟨W.heap.size + 1, 1, none⟩ (.int .i64 x.1.2)) ∧
          ∃ b, (J (bst (pa pts 0) (pre ++ [x])).2 b ((Y.setCell ⟨W.heap.size + 1, 0, none⟩ (.int .i64 x.1.1)).setCell ⟨W.heap.size + 1, 1, none⟩ (.int .i64 x.1.2)) ∧ (b < W.heap.size ∨ W.heap.size + 3 ≤ b)) ∧
            Boxed ((Y.setCell ⟨W.heap.size + 1, 0, none⟩ (.int .i64 x.1.1)).setCell ⟨W.heap.size + 1, 1, none⟩ (.int .i64 x.1.2)) W.heap.size 38 (.func (.yield l) #[] #[]) ∧
            Box2 ((Y.setCell ⟨W.heap.size + 1, 0, none⟩ (.int .i64 x.1.1)).setCell ⟨W.heap.size + 1, 1, none⟩ (.int .i64 x.1.2)) (W.heap.size + 1) 33 (bst (pa pts 0) (pre ++ [x])).1.1 (bst (pa pts 0) (pre ++ [x])).1.2 ∧
            Boxed ((Y.setCell ⟨W.heap.size + 1, 0, none⟩ (.int .i64 x.1.1)).setCell ⟨W.heap.size + 1, 1, none⟩ (.int .i64 x.1.2)) (W.heap.size + 1 + 1) 22 (.slice (some ⟨A.block, A.off + 2, none⟩) T.length (cap - 1)) ∧
            W.heap.size + 3 ≤ ((Y.setCell ⟨W.heap.size + 1, 0, none⟩ (.int .i64 x.1.1)).setCell ⟨W.heap.size + 1, 1, none⟩ (.int .i64 x.1.2)).heap.size := by
        intro Y b' k0 k1 k2 k3 k4 k5 k6 k7
        have s1 := (grown_set Y (W.heap.size + 1) 0 (.int .i64 x.1.1)).size
        have s2 := (grown_set (Y.setCell ⟨W.heap.size + 1, 0, none⟩ (.int .i64 x.1.1)) (W.heap.size + 1) 1 (.int .i64 x.1.2)).size
        refine ⟨k6.trans (((KeepsOthers.setCell _ _ _).trans (KeepsOthers.setCell _ _ _)).from _), k7.t ((KpB.set (by omega) (by omega)).t (KpB.set (by omega) (by omega))), b', ⟨?_, k1⟩, ?_, ?_, ?_, by omega⟩
        · exact hJ _ _ _ _ _ (hJ _ _ _ _ _ k0 (grown_set _ _ _ _) (fun r e => by cases e; exact ⟨by omega, by omega⟩)) (grown_set _ _ _ _) (fun r e => by cases e; exact ⟨by omega, by omega⟩)
        · exact (k2.kept (grown_set _ _ _ _) (by simp)).kept (grown_set _ _ _ _) (by simp)
        · rw [HS.out]; exact k3.set _ _
        · exact (k4.kept (grown_set _ _ _ _) (by simp)).kept (grown_set _ _ _ _) (by simp)
      cases g
      · have HE : Hid ((bst (pa pts 0) (pre ++ [x])).2 = (bst (pa pts 0) pre).2 ++ [x.1]) := Lib.hid (by rw [HS.out, HG.out]; rfl)
        obtain ⟨fn, tmps, assign, body, hy, hR⟩ := hY 0 (bst (pa pts 0) pre).2 b x.1 X1 hj1 (by have := bst_length (pa pts 0) pre; omega)
        dsimp only [ptV] at hy
        gi_wp2
        refine (roundWide hR).mono ?_
        rintro e Y ⟨rfl, ⟨b', hj', hb'⟩, hk⟩
        obtain ⟨cs, t, fr, hcb, hte⟩ := hJb _ _ _ hj1
        have hbX : Bx ≠ b := by
          intro e
          have := show X1.heap[Bx]? = _ from bX1
          rw [e, hcb] at this
          cases this
          exact hte rfl
        have hBx1 := bX1.lt
        have q1Y : Boxed Y W.heap.size 38 (.func (.yield l) #[] #[]) := (hk.2 _ (by omega) (by omega) (by omega)).trans q11
        have q2Y : Box2 Y (W.heap.size + 1) 33 (bst (pa pts 0) pre).1.1 (bst (pa pts 0) pre).1.2 := (hk.2 _ (by omega) (by omega) (by omega)).trans q21
        have q3Y : Boxed Y (W.heap.size + 1 + 1) 22 (.slice (some ⟨A.block, A.off + 2, none⟩) T.length (cap - 1)) := (hk.2 _ (by omega) (by omega) (by omega)).trans q31
        have bXY : Box4 Y Bx 36 x.1.1 x.1.2 x.2.1 x.2.2 := (hk.2 _ (by omega) hBx1 hbX).trans bX1
        have hOY : KeepsFrom W0.heap.size X1 Y := ⟨hk.1.size, fun k o hB hk' hc => (hk.2 k (by omega) (Array.getElem?_eq_some_iff.1 hk').1 (fun e => by rw [e, hcb] at hk'; cases hk'; cases hc)).trans hk'⟩
        have hKY : KpB m (W.heap.size + 1 + 1) X1 Y := ⟨hk.1, hk.2 _ (by omega) (by omega) (by omega)⟩
        obtain ⟨u0, u1, u2, u3⟩ := bXY.at
        obtain ⟨v0, v1, v2, v3⟩ := q2Y.ow
        have hsY := hk.1.size
        gi_wp2
        exact fin Y b' (by rw [HE.out]; exact hj') (by omega) q1Y q2Y q3Y (by omega) (hO1.trans hOY) (hK1.t hKY)
      · have HE : Hid ((bst (pa pts 0) (pre ++ [x])).2 = (bst (pa pts 0) pre).2) := Lib.hid (by rw [HS.out, HG.out]; rfl)
        gi_wp2
        refine ⟨fun _ _ => trivial, ?_⟩
        gi_wp2
        exact fin X1 b (by rw [HE.out]; exact hj1) hbb q11 q21 q31 (by omega) hO1 hK1
    case done =>
      rintro D ys X hD rfl ⟨b, ⟨hj, hbb⟩, q1, q2, q3, q4⟩ hK
      gi_wp2
      refine ⟨by simp, .inl ⟨_, _, rfl, run_takeDeferred hK, ?_⟩⟩
      obtain ⟨cs, t, fr, hcb, _⟩ := hJb _ _ _ hj
      exact ⟨_, results_none rfl _ _ _, ⟨_, rfl⟩, b, hJ _ _ _ _ (some D) hj (grownBy_putObj' _ _ _) (fun r e => by cases e; exact ⟨by omega, fun e' => by rw [e', hcb] at hK; cases hK⟩)⟩
    case stop =>
      rintro D c pre X _ _ h _
      exact h.elim
end Go.Proofs.Ytllhdalfhhjigaa
