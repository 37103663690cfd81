/-
  slices.Clone over points, and Simplify of package poly. Condition: the list is no longer than a list can be.
-/
import Derived.Test.YtllhdalfhhjigaaHas
import Derived.Test.YtllhdalfhhjigaaCount
import Derived.Test.YtllhdalfhhjigaaAppSeq
import Derived.Test.YtllhdalfhhjigaaCompact
namespace Go.Proofs.Ytllhdalfhhjigaa
open Go.RowKit

/-- The cells of a list in memory, one behind the other. -/
theorem Pl.flat {W : World} {A : Addr} {n cap : Nat} {l : List Pt} (h : Pl W (.slice (some A) n cap) l) : ∀ j u, (flat2 l)[j]? = some u → W.cell? (A.add j) = some u := by
  intro j u hj
  obtain ⟨ao, cap', e, _, hA⟩ := h
  cases e
  have hlt : j < l.length * 2 := by
    rcases Nat.lt_or_ge j (flat2 l).length with h | h
    · rw [flat2_length] at h; exact h
    · rw [List.getElem?_eq_none h] at hj; cases hj
  obtain ⟨A', e', hA2⟩ := hA (by omega)
  cases e'
  obtain ⟨c0, c1⟩ := hA2 (j / 2) (by omega)
  obtain ⟨f0, f1⟩ := flat2_get l (j / 2) (by omega)
  rcases Nat.mod_two_eq_zero_or_one j with hm | hm
  · rw [show j / 2 * 2 = j by omega] at c0 f0
    rw [f0] at hj; cases hj; exact c0
  · rw [show j / 2 * 2 + 1 = j by omega] at f1
    rw [f1] at hj; cases hj
    rw [add_one_of A j (by omega)]
    have e1 : (A.add (j / 2 * 2)).block = A.block := by unfold Addr.add; split <;> rfl
    have e2 : (A.add (j / 2 * 2)).off + 1 = A.off + j := by
      unfold Addr.add
      split
      · have : j = 1 := by omega
        subst this; simp
      · simp; omega
    rw [e1, e2] at c1
    exact c1
theorem flat2_one : ∀ (l : List Pt), ∀ u ∈ flat2 l, u.oneCell' = true := by
  intro l u hu
  unfold flat2 at hu
  obtain ⟨p, _, hp⟩ := List.mem_flatMap.1 hu
  simp only [List.mem_cons, List.not_mem_nil, or_false] at hp
  rcases hp with rfl | rfl <;> rfl
/-- An owned row may be written. -/
theorem own_rw {W : World} {base g n cap : Nat} {l : List Pt} (h : W.ownsRow base 33 2 (.slice (some ⟨g, 0, none⟩) n cap) n (flat2 l)) (hn : l.length = n) : Rw W g n (pa l) ∧ base ≤ g ∧ n ≤ cap ∧ g < W.heap.size := by
  have h0 := h
  rcases h.2 with ⟨e, _⟩ | ⟨g', cap', cur, e, hb, hc, hcap, _⟩
  · cases e
  · cases e
    refine ⟨fun i hi => ?_, hb, hcap, (Array.getElem?_eq_some_iff.1 hc).1⟩
    obtain ⟨f0, f1⟩ := flat2_get l i (by omega)
    have c := h0.cells (g := g) rfl
    have c0 := c _ _ f0
    have c1 := c _ _ f1
    rw [add_one_of _ _ (by omega)] at c1
    have e0 : (⟨g, 0, none⟩ : Addr).add (i * 2) = ⟨g, i * 2, none⟩ := by
      unfold Addr.add
      split
      · rename_i h; rw [h]
      · simp
    rw [e0] at c0
    simp only [Nat.zero_add] at c1
    exact ⟨⟨c0, c1⟩, by simp [World.frozen?, hc], by simp [World.frozen?, hc]⟩
theorem rw_pl {W : World} {g n cap : Nat} {l : List Pt} (h : Rw W g n (pa l)) (hn : l.length = n) (hc : n ≤ cap) : Pl W (.slice (some ⟨g, 0, none⟩) n cap) l := by
  subst hn
  refine ⟨_, _, rfl, hc, fun _ => ⟨_, rfl, fun i hi => ?_⟩⟩
  have e0 : (⟨g, 0, none⟩ : Addr).add (i * 2) = ⟨g, i * 2, none⟩ := by
    unfold Addr.add
    split
    · rename_i h; rw [h]
    · simp
  rw [e0]
  exact (h i hi).1

set_option maxHeartbeats 1000000 in
theorem clone_any (A : Addr) (cap : Nat) (pts : List Pt) (h1 : 1 ≤ pts.length) (h5 : pts.length ≤ 512) (w : World) (hP : Pl w (.slice (some A) pts.length cap) pts) :
    Calls Try.prog 38 #[.slice (some A) pts.length cap] w fun e W' =>
      ∃ g cap', e = .returned (.slice (some ⟨g, 0, none⟩) pts.length cap') ∧ W'.ownsRow w.heap.size 33 2 (.slice (some ⟨g, 0, none⟩) pts.length cap') pts.length (flat2 pts) ∧ Below w.heap.size w W' := by
  obtain ⟨i0, hi, hz0, hz1, hz2⟩ := info_parts info_pt
  have HP := Lib.hid hP.flat
  have hnil : ∀ W, (binOp .eql 22 (.slice (some A) pts.length cap) (.slice none 0 0)).run Try.prog W = .ok (.bool false) W := fun W => by kernel_rfl
  go_enter Try.func38, Try.ntmps38
  have hown : (w.alloc (.cells #[] 33)).ownsRow w.heap.size 33 2 (.slice (some ⟨w.heap.size, 0, none⟩) 0 0) 0 [] := World.ownsRow_lit (base := w.heap.size) (e := 33) (size := 2) w #[] 0 (Nat.le_refl _) (by unfold maxLen; omega) rfl
  have HO := Lib.hid hown
  clear hown
  go_wp2_with (at_builtin; refine wpList_append_own _ rfl (.tmp 5) (.tmp 6) 22 rfl w.heap.size 33 i0 (.agg #[.int .i64 0, .int .i64 0]) 2 16 Try.underlying22 hi hz0 hz1 hz2 rfl (by decide) _ _ _ rfl HO.out A pts.length cap (flat2 pts) rfl (flat2_length pts) (fun j u hj => cell_later' (al1 ..) (HP.out j u hj)) (flat2_one pts) (by unfold maxLen; omega) (by omega) (by simp) ?_; intro v' w1 hown' hgrow _)
  go_ret
  simp only [Nat.zero_add, List.nil_append] at hown'
  have hb : Below w.heap.size w w1 := (al1 ..).grown hgrow (by simp) (fun k e => (HO.out.lt k e).1)
  rcases hown'.2 with ⟨_, h0⟩ | ⟨g', cap', cur, e, _⟩
  · omega
  · subst e
    exact ⟨g', cap', rfl, hown', hb⟩

/-- What Simplify returns, of the list that is left when equal neighbors are dropped. -/
theorem dd_facts (pts : List Pt) (h : hasP pts = true) : 1 ≤ (ddTo pts pts.length).length ∧ (ddTo pts pts.length).length ≤ 512 ∧ dif (ddTo pts pts.length) ∧ (∀ i, i < (ddTo pts pts.length).length → vld (pa (ddTo pts pts.length) i).1 (pa (ddTo pts pts.length) i).2 = true) := by
  unfold hasP alTo at h
  simp only [Bool.and_eq_true, decide_eq_true_eq] at h
  obtain ⟨⟨h1, h2⟩, h3⟩ := h
  have hd := ddTo_dif pts pts.length
  obtain ⟨s, hs⟩ := hd.2 h1
  have hz := ddTo_size pts pts.length
  refine ⟨by rw [hs]; simp, by omega, hd.1, fun i hi => ?_⟩
  have hm : pa (ddTo pts pts.length) i ∈ pts := ddTo_mem pts _ _ (Nat.le_refl _) (by
    unfold pa; rw [List.getD_eq_getElem?_getD, List.getElem?_eq_getElem hi]; exact List.getElem_mem hi)
  obtain ⟨j, hj, e⟩ := List.getElem_of_mem hm
  rw [← e]
  have := h3 j hj
  unfold pa at this
  rw [List.getD_eq_getElem?_getD, List.getElem?_eq_getElem hj] at this
  exact this
theorem simp4_eq (pts : List Pt) (h : hasP pts = true) : simp4 pts = simpL (ddTo pts pts.length) := by
  unfold simp4; unfold hasP at h; rw [h]; rfl
theorem simp4_no (pts : List Pt) (h : hasP pts = false) : simp4 pts = [] := by
  unfold simp4; unfold hasP at h; rw [h]; rfl

set_option maxRecDepth 100000 in
set_option maxHeartbeats 4000000 in
theorem simplify_any (ao : Option Addr) (cap : Nat) (pts : List Pt) (hlen : pts.length ≤ maxLen) (w : World) (hP : Pl w (.slice ao pts.length cap) pts) :
    Calls Try.prog 20 #[.slice ao pts.length cap] w fun e W' => ∃ v', e = .returned v' ∧ Pl W' v' (simp4 pts) ∧ Below w.heap.size w W' := by
  have hmx : Try.prog.follows .mixedOrders = true := by kernel_rfl
  obtain ⟨i0, hi, hz0, hz1, hz2'⟩ := info_parts info_pt
  obtain ⟨v, hv⟩ : ∃ v, hasP pts = v := ⟨_, rfl⟩
  have HV := Lib.hid hv
  clear hv
  cases v
  · go_enter Try.func20, Try.ntmps20
    go_wp2_with fail
    refine (hasPoints_of ao cap pts _ hlen _ hP HV).mono ?_
    rintro e w1 ⟨rfl, hb1⟩
    go_wp2
    go_ret
    exact ⟨_, rfl, by rw [simp4_no pts HV.out]; exact Pl.nil _, hb1⟩
  · have hb : 1 ≤ pts.length ∧ pts.length ≤ 512 := by
      have := HV.out; unfold hasP at this; simp only [Bool.and_eq_true, decide_eq_true_eq] at this; exact this.1
    obtain ⟨A, rfl⟩ : ∃ A, ao = some A := by
      obtain ⟨A, cap', e, _⟩ := hP.get 0 (by omega)
      cases e
      exact ⟨A, rfl⟩
    have HF := Lib.hid (dd_facts pts HV.out)
    have HS := Lib.hid (simp4_eq pts HV.out)
    go_enter Try.func20, Try.ntmps20
    go_wp2_with fail
    refine (hasPoints_of _ cap pts _ hlen _ hP HV).mono ?_
    rintro e w1 ⟨rfl, hb1⟩
    go_wp2_with fail
    refine (clone_any A cap pts hb.1 hb.2 w1 (hP.keep hb1)).mono ?_
    rintro e w2 ⟨g, c2, rfl, hown, hb2⟩
    obtain ⟨hR, hgb, hgc, hgl⟩ := own_rw hown rfl
    clear hown
    go_wp2_with fail
    refine (compact_any g c2 pts hlen hgc w2 (by omega) hR).mono ?_
    rintro e w3 ⟨rfl, hR3, hb3⟩
    have hB3 : Below w.heap.size w w3 := (below_keep hb2 hb1).trans (hb3.mono (by have := hb1.size; omega))
    have hDc : (ddTo pts pts.length).length ≤ c2 := Nat.le_trans (ddTo_size pts _) hgc
    clear hP hR hgb hgc
    generalize ddTo pts pts.length = D at *
    have hPD := rw_pl (cap := c2) hR3 rfl hDc
    have HR3 := Lib.hid hR3
    clear hR3
    obtain ⟨L, hL⟩ : ∃ L, (bst (pa D 0) (sgs D.tail (D.tail.length - 1))).2 = L := ⟨_, rfl⟩
    have HE : Hid (L = bout D (D.length - 2)) := Lib.hid (by rw [← hL]; exact bst_bout D HF.out.1 HF.out.2.2.2 HF.out.2.2.1)
    have HZ1 : Hid (D.length ≤ 1 → simpL D = pa D 0 :: L) := Lib.hid (fun h => by
      rw [HE.out, show D.length - 2 = 0 by omega]
      match D, h, HF.out.1 with
      | [a], _, _ => rfl)
    have HZ2 : Hid (1 < D.length → simpL D = (pa D 0 :: L) ++ [pa D (D.length - 1)] ∧ L.length + 2 ≤ D.length) := Lib.hid (fun h => by
      have e := simpL_bout D (by omega)
      rw [← HE.out] at e
      refine ⟨e, ?_⟩
      have := simpL_size D
      rw [e] at this
      simp at this
      omega)
    have hgl3 : g < w3.heap.size := by have := hb3.size; omega
    have hDm : D.length ≤ maxLen := by have := HF.out.2.1; unfold maxLen; omega
    have key : ∀ (W : World) (g0 Bp : Nat), Below w3.heap.size w3 W → W.ownsRow w3.heap.size 33 2 (.slice (some ⟨g0, 0, none⟩) 1 1) 1 (flat2 [pa D 0]) → g0 < W.heap.size → Boxed W Bp 22 (.slice (some ⟨g, 0, none⟩) D.length c2) →
        Calls Try.prog 39 #[.slice (some ⟨g0, 0, none⟩) 1 1, .func (.func 48) #[] #[.pointer (some ⟨Bp, 0, none⟩)]] W fun e W' =>
          ∃ g' cap', e = .returned (.slice (some ⟨g', 0, none⟩) (L.length + 1) cap') ∧ W'.ownsRow w3.heap.size 33 2 (.slice (some ⟨g', 0, none⟩) (L.length + 1) cap') (L.length + 1) (flat2 (pa D 0 :: L)) ∧ Below w3.heap.size w3 W' := by
      intro W g0 Bp hbW hrow hg0 hbox
      have hx := bends_x w3.heap.size Bp ⟨g, 0, none⟩ c2 D HF.out.1 hDm W hbox hgl3 hbW.size (hPD.keep hbW)
      rw [hL] at hx
      exact (appendSeq_any w3.heap.size g0 1 Bp (pa D 0) L D.length HF.out.2.1 W hbW.size hrow hg0 hx).mono fun e W' ⟨a, b, h1, h2, h3⟩ => ⟨a, b, h1, h2, hbW.trans h3⟩
    clear hL
    have keyA := key ((w3.alloc (.cells #[.int .i64 (pa D 0).1, .int .i64 (pa D 0).2] 33)).alloc (.cells #[.slice (some ⟨g, 0, none⟩) D.length c2] 22)).drew w3.heap.size (w3.heap.size + 1)
      (al2 w3 _ _).drew ((World.ownsRow_lit (base := w3.heap.size) (e := 33) (size := 2) w3 #[.int .i64 (pa D 0).1, .int .i64 (pa D 0).2] 1 (Nat.le_refl _) (by unfold maxLen; omega) rfl).alloc _) (by simp; omega)
      (by have := Boxed.new (w3.alloc (.cells #[.int .i64 (pa D 0).1, .int .i64 (pa D 0).2] 33)) 22 (.slice (some ⟨g, 0, none⟩) D.length c2); simp only [World.size_alloc] at this; exact this)
    have keyB := key ((w3.alloc (.cells #[.slice (some ⟨g, 0, none⟩) D.length c2] 22)).alloc (.cells #[.int .i64 (pa D 0).1, .int .i64 (pa D 0).2] 33)).drew (w3.heap.size + 1) w3.heap.size
      (al2 w3 _ _).drew (by have := World.ownsRow_lit (base := w3.heap.size) (e := 33) (size := 2) (w3.alloc (.cells #[.slice (some ⟨g, 0, none⟩) D.length c2] 22)) #[.int .i64 (pa D 0).1, .int .i64 (pa D 0).2] 1 (by simp) (by unfold maxLen; omega) rfl; simp only [World.size_alloc] at this; exact this) (by simp)
      ((Boxed.new w3 22 (.slice (some ⟨g, 0, none⟩) D.length c2)).alloc _)
    clear key
    obtain ⟨A0, cap0, e0, _, p0, p1⟩ := hPD.get 0 HF.out.1
    cases e0
    have d0 : w3.cell? ⟨g, 0, none⟩ = some (.int .i64 (pa D 0).1) := by simpa [Addr.add] using p0
    have d1 : w3.cell? ⟨g, 1, none⟩ = some (.int .i64 (pa D 0).2) := by simpa [Addr.add] using p1
    have hD1 : 0 < D.length := HF.out.1
    go_wp2_with fail
    go_region_with (first
      | (go_at_call 34; refine (bends_fn _ _ _ _).mono ?_; rintro e w' ⟨rfl, rfl⟩)
      | (go_at_call 39; (with_reducible refine keyA.mono ?_); rintro e w4 ⟨g', c4, rfl, hown4, hb4⟩)
      | (go_at_call 39; (with_reducible refine keyB.mono ?_); rintro e w4 ⟨g', c4, rfl, hown4, hb4⟩))
    all_goals clear keyA keyB p0 p1 d0 d1
    all_goals (
      have hB4 := hB3.trans (hb4.mono (by have := hB3.size; omega : w.heap.size ≤ w3.heap.size))
      rcases Nat.lt_or_ge 1 D.length with hD2 | hD2
      · obtain ⟨j, hj⟩ : ∃ j, D.length = j + 1 := ⟨D.length - 1, by omega⟩
        have hD5 := HF.out.2.1
        have hwk : IntKind.i64.wrap ((D.length : Int) - 1) = (j : Int) := by rw [IntWalk.i64_in _ (by omega)]; omega
        have hjl : j < D.length := by omega
        have HJ := Lib.hid hj
        clear hj
        have hz2 := (HZ2.out hD2).2
        obtain ⟨⟨q0, q1⟩, _, _⟩ := (HR3.out.keep hb4) j hjl
        have HO := Lib.hid hown4
        clear hown4
        go_wp2_with (at_builtin; refine wpList_append_own _ rfl (.tmp 21) (.tmp 28) 22 rfl w3.heap.size 33 i0 (.agg #[.int .i64 0, .int .i64 0]) 2 16 Try.underlying22 hi hz0 hz1 hz2' rfl (by decide) _ _ _ rfl (HO.out.alloc _) ⟨w4.heap.size, 0, none⟩ 1 1 [.int .i64 (pa D j).1, .int .i64 (pa D j).2] rfl rfl (cell2_new _ _ _ _) (by simp [Value.oneCell']) (by unfold maxLen; omega) (by omega) (by have := hb4.size; simp; omega) ?_; intro v' w5 hown5 hgrow5 _)
        go_ret
        have hB5 : Below w3.heap.size w4 w5 := ((al1 w4 _).mono hb4.size).grown hgrow5 (by have := hb4.size; simp; omega) (fun k e => (HO.out.lt k e).1)
        refine ⟨v', rfl, ?_, hB4.trans (hB5.mono (by have := hB3.size; omega))⟩
        rw [HS.out, (HZ2.out hD2).1, show D.length - 1 = j by have := HJ.out; omega]
        refine own_pl (B := w3.heap.size) (e := 33) ?_
        rw [flat2_snoc, List.length_append]
        exact hown5
      · have HO := Lib.hid hown4
        clear hown4
        go_wp2
        go_ret
        refine ⟨_, rfl, ?_, hB4⟩
        rw [HS.out, HZ1.out hD2]
        exact own_pl (l := pa D 0 :: L) HO.out)
end Go.Proofs.Ytllhdalfhhjigaa
