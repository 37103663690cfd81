/-
  What Neighbors of the landed layer 14 returns. Condition: a digraph in memory.
-/
import Derived.Test.YtkmamdlhpbobhaaDigCi
namespace Go.Proofs.Ytkmamdlhpbobhaa.dig
open Go.RowKit

/-! ### The other ends, sorted and without repeats, are the neighbors -/
def raw1 (v : Int) (a : Ar) : List Int := if a.1 = a.2 then [] else if a.1 = v then [a.2] else if a.2 = v then [a.1] else []
def rawN (l : List Ar) (v : Int) : List Int := l.flatMap (raw1 v)
theorem raw_take {l : List Ar} {k : Nat} (hk : k < l.length) (v : Int) : rawN (l.take (k + 1)) v = rawN (l.take k) v ++ raw1 v l[k] := by
  unfold rawN
  rw [List.take_succ_eq_append_getElem hk, List.flatMap_append, List.flatMap_cons, List.flatMap_nil, List.append_nil]
theorem raw1_len (v : Int) (a : Ar) : (raw1 v a).length ≤ 1 := by
  unfold raw1; split
  · simp
  · split
    · simp
    · split <;> simp
theorem raw_len (v : Int) : ∀ l : List Ar, (rawN l v).length ≤ l.length
  | [] => Nat.le_refl _
  | a :: t => by
    have h1 := raw1_len v a
    have h2 := raw_len v t
    unfold rawN at h2 ⊢
    rw [List.flatMap_cons, List.length_append, List.length_cons]; omega
theorem raw_mem {l : List Ar} {v x : Int} : x ∈ rawN l v ↔ near l x v = true := by
  unfold rawN near
  rw [List.mem_flatMap, Bool.and_eq_true, bne_iff_ne, List.any_eq_true]
  constructor
  · rintro ⟨a, ha, h⟩
    unfold raw1 at h
    split at h
    · cases h
    · split at h
      · rw [List.mem_singleton] at h; subst h
        exact ⟨by omega, a, ha, joined_iff.2 (Or.inr ⟨by omega, rfl⟩)⟩
      · split at h
        · rw [List.mem_singleton] at h; subst h
          exact ⟨by omega, a, ha, joined_iff.2 (Or.inl ⟨rfl, by omega⟩)⟩
        · cases h
  · rintro ⟨hne, a, ha, h⟩
    refine ⟨a, ha, ?_⟩
    unfold raw1
    rcases joined_iff.1 h with ⟨h1, h2⟩ | ⟨h1, h2⟩
    · rw [if_neg (by omega), if_neg (by omega), if_pos h2, h1]; exact List.mem_singleton.2 rfl
    · rw [if_neg (by omega), if_pos h1, h2]; exact List.mem_singleton.2 rfl
/-- What slices.Compact leaves of an ascending list: strictly ascending, with the same members. -/
theorem comp_up (d : Array Int) (hd : ∀ i j, i ≤ j → j < d.size → d[i]! ≤ d[j]!) : ∀ m, m ≤ d.size → (Lib.compactUpTo d m).Pairwise (· < ·) ∧ ∀ x, x ∈ Lib.compactUpTo d m ↔ ∃ j, j < m ∧ d[j]! = x
  | 0, _ => ⟨by simp [Lib.compactUpTo], fun x => by simp [Lib.compactUpTo]⟩
  | m + 1, hm => by
    obtain ⟨h1, h2⟩ := comp_up d hd m (by omega)
    rw [Lib.compactUpTo_succ]
    by_cases hk : Lib.keeps d m = true
    · rw [if_pos hk]
      refine ⟨List.pairwise_append.2 ⟨h1, List.pairwise_singleton .., fun a ha b hb => ?_⟩, fun x => ?_⟩
      · rw [List.mem_singleton] at hb
        subst hb
        obtain ⟨j, hj, rfl⟩ := (h2 a).1 ha
        have h3 : m = 0 ∨ d[m]! ≠ d[m - 1]! := by unfold Lib.keeps at hk; exact of_decide_eq_true hk
        have h4 := hd j (m - 1) (by omega) (by omega)
        have h5 := hd (m - 1) m (by omega) (by omega)
        rcases h3 with h3 | h3
        · omega
        · omega
      · rw [List.mem_append, h2, List.mem_singleton]
        constructor
        · rintro (⟨j, hj, h⟩ | h)
          · exact ⟨j, by omega, h⟩
          · exact ⟨m, by omega, h.symm⟩
        · rintro ⟨j, hj, h⟩
          by_cases e : j = m
          · subst e; exact Or.inr h.symm
          · exact Or.inl ⟨j, by omega, h⟩
    · rw [if_neg hk, List.append_nil]
      refine ⟨h1, fun x => ?_⟩
      rw [h2]
      have h3 : ¬ (m = 0 ∨ d[m]! ≠ d[m - 1]!) := by unfold Lib.keeps at hk; intro q; exact hk (decide_eq_true q)
      constructor
      · rintro ⟨j, hj, h⟩; exact ⟨j, by omega, h⟩
      · rintro ⟨j, hj, h⟩
        by_cases e : j = m
        · subst e
          exact ⟨j - 1, by omega, by rw [← h]; omega⟩
        · exact ⟨j, by omega, h⟩
/-- Two strictly ascending lists with the same members are one. -/
theorem asc_one : ∀ {a b : List Int}, a.Pairwise (· < ·) → b.Pairwise (· < ·) → (∀ x, x ∈ a ↔ x ∈ b) → a = b
  | [], [], _, _, _ => rfl
  | [], y :: u, _, _, h => by have := (h y).2 (List.mem_cons_self ..); cases this
  | x :: t, [], _, _, h => by have := (h x).1 (List.mem_cons_self ..); cases this
  | x :: t, y :: u, ha, hb, h => by
    obtain ⟨h1, h2⟩ := List.pairwise_cons.1 ha
    obtain ⟨h3, h4⟩ := List.pairwise_cons.1 hb
    have e : x = y := by
      rcases List.mem_cons.1 ((h x).1 (List.mem_cons_self ..)) with q | q
      · exact q
      · rcases List.mem_cons.1 ((h y).2 (List.mem_cons_self ..)) with q2 | q2
        · exact q2.symm
        · have := h1 y q2; have := h3 x q; omega
    subst e
    rw [asc_one h2 h4 (fun z => ⟨fun hz => by
      rcases List.mem_cons.1 ((h z).1 (List.mem_cons_of_mem _ hz)) with q | q
      · subst q; exact absurd (h1 z hz) (by omega)
      · exact q, fun hz => by
      rcases List.mem_cons.1 ((h z).2 (List.mem_cons_of_mem _ hz)) with q | q
      · subst q; exact absurd (h3 z hz) (by omega)
      · exact q⟩)]
theorem nbr_asc (l : List Ar) (v : Int) : ∀ k : Nat, (nbrK l v k).Pairwise (· < ·)
  | 0 => by rw [nbrK_zero]; exact List.Pairwise.nil
  | k + 1 => by
    rw [nbrK_succ]
    refine List.pairwise_append.2 ⟨nbr_asc l v k, ?_, fun a ha b hb => ?_⟩
    · split
      · exact List.pairwise_singleton ..
      · exact List.Pairwise.nil
    · split at hb
      · rw [List.mem_singleton] at hb; subst hb; exact (nbrK_mem.1 ha).2.1
      · cases hb
theorem nbr_sorted {n v : Int} {l : List Ar} (h : validD n l = true) : Lib.compact ((rawN l v).mergeSort fun x y => decide (x ≤ y)) = nbrK l v n.toNat := by
  obtain ⟨h0, -, -, hok⟩ := validD_iff.1 h
  obtain ⟨S, hS⟩ : ∃ S, (rawN l v).mergeSort (fun x y => decide (x ≤ y)) = S := ⟨_, rfl⟩
  have hp : S.Pairwise (fun x y => x ≤ y) := by
    rw [← hS]
    refine (List.pairwise_mergeSort (fun a b c h1 h2 => ?_) (fun a b => ?_) (rawN l v)).imp (fun h => of_decide_eq_true h)
    · rw [decide_eq_true_eq] at *; omega
    · rw [Bool.or_eq_true, decide_eq_true_eq, decide_eq_true_eq]; omega
  have hm : ∀ x, x ∈ S ↔ near l x v = true := fun x => by rw [← hS, List.mem_mergeSort]; exact raw_mem
  rw [hS]
  have hd : ∀ i j, i ≤ j → j < S.toArray.size → S.toArray[i]! ≤ S.toArray[j]! := fun i j hij hj => by
    have hj' : j < S.length := by simpa using hj
    rw [getElem!_pos _ i (by simp; omega), getElem!_pos _ j (by simp; omega)]
    simp only [List.getElem_toArray]
    by_cases e : i = j
    · subst e; exact Int.le_refl _
    · exact List.pairwise_iff_getElem.1 hp i j (by omega) hj' (by omega)
  obtain ⟨h1, h2⟩ := comp_up S.toArray hd S.length (by simp)
  refine asc_one h1 (nbr_asc l v n.toNat) (fun x => ?_)
  show x ∈ Lib.compactUpTo S.toArray S.length ↔ _
  rw [h2, nbrK_mem]
  constructor
  · rintro ⟨j, hj, rfl⟩
    have hx : S.toArray[j]! ∈ S := by
      rw [getElem!_pos _ j (by simp; omega)]; simp
    have hn := (hm _).1 hx
    obtain ⟨a, ha, hja⟩ := List.any_eq_true.1 ((Bool.and_eq_true _ _).mp hn).2
    have hr := okA_iff.1 (hok a ha)
    have hj2 := joined_iff.1 hja
    exact ⟨by omega, by omega, hn⟩
  · rintro ⟨_, _, hn⟩
    obtain ⟨j, hj, hx⟩ := List.mem_iff_getElem.1 ((hm x).2 hn)
    exact ⟨j, hj, by rw [getElem!_pos _ j (by simp; omega)]; simpa using hx⟩

/-! ### Rows that the library writes -/
theorem below_put {B : Nat} {w0 w : World} {g q : Nat} {d : Array Int} (h : Below B w0 w) (hg : B ≤ g) : Below B w0 (Sort.putRow (Value.int .i64) (Sort.ahead w q) g 0 d) :=
  h.trans ⟨rfl, rfl, rfl, by simp, fun k hk => by
    have : g ≠ k := by omega
    simp [Sort.putRow, Sort.mapBlock, Array.getElem?_modify, this]⟩
theorem below_grow {B : Nat} {w0 w : World} {os : Array Obj} (h : Below B w0 w) (hB : B ≤ w.heap.size) : Below B w0 (Sort.grow w os) :=
  h.trans ⟨rfl, rfl, rfl, by simp, fun k hk => Sort.heap_grow_old w os (by omega)⟩
theorem Irow.holds {w : World} {B g cap : Nat} {l : List Int} (h : Irow w B (.slice (some ⟨g, 0, none⟩) l.length cap) l) : Sort.Holds (Value.int .i64) w g 0 l.toArray ∧ g < w.heap.size ∧ B ≤ g := by
  rcases h.2 with ⟨e, _⟩ | ⟨g2, cap2, cur, e, hB, hg, h1, h2, h3, h4⟩
  · cases e
  · cases e
    have hk : blk w g 3 cur := hg
    refine ⟨fun j hj => ⟨?_, blk_free hk⟩, blk_lt hk, hB⟩
    have hj' : j < l.length := by simpa using hj
    have hx := flat_get inC 1 (fun _ => rfl) l j 0 hj' (by decide)
    rw [Nat.zero_add, blk_cell hk, ← Array.getElem?_toList, ← List.getElem?_take_of_lt (show j < l.length * 1 by omega), h4]
    rw [Nat.mul_one, Nat.add_zero] at hx
    rw [hx, getElem!_pos _ j hj]
    simp [inC]
/-- Sorted, then without repeats. -/
theorem ins_put {w : World} {g cap q m : Nat} {S D : List Int} {z : List Int} (h : Sort.Holds (Value.int .i64) w g 0 S.toArray) (hz : (D ++ z).length = S.length) (hm : D.length = m) (hc : m ≤ cap) (hcm : cap ≤ maxLen) :
    Ins (Sort.putRow (Value.int .i64) (Sort.ahead w q) g 0 (D ++ z).toArray) (.slice (some ⟨g, 0, none⟩) m cap) D := by
  subst hm
  refine ⟨_, cap, rfl, hc, hcm, fun _ => ⟨_, rfl, fun i hi => ?_⟩⟩
  rw [Nat.mul_one, add_at, Nat.zero_add]
  have hsz : (D ++ z).toArray.size = S.toArray.size := by simpa using hz
  have := Sort.cell?_putRow (Value.int .i64) (Sort.ahead w q) g 0 S.toArray (D ++ z).toArray h hsz i (by simp; omega)
  rw [Nat.zero_add] at this
  unfold inAt
  rw [this, getElem!_pos _ i (by simp; omega)]
  simp [List.getElem_append_left hi]
set_option maxRecDepth 100000 in
set_option maxHeartbeats 8000000 in
theorem cnbr_of (v : Value) (n : Int) (l : List Ar) (x : Int) (R : List Int) (w : World) (h : Hid (DgV w v n l)) (hr : Hid (nbrV n l x = R)) :
    Calls Try.prog 18 #[v, .int .i64 x] w (InsOut R w) := by
  obtain ⟨av, rfl, hl⟩ := id h.out
  obtain ⟨lo, lc, rfl, hq1, hq2, -⟩ := id hl
  unfold maxLen at hq2
  have hlm : l.length ≤ 9223372036854775807 := by omega
  have HL := Lib.hid hl
  have HB1 := Lib.hid (al1 w (.cells #[.int .i64 n, .slice lo l.length lc] 24))
  have HK1 := Lib.hid (dgb_new w n lo l.length lc 24)
  have HV := Lib.hid h.out
  obtain ⟨b, hb⟩ : ∃ b, validD n l = b := ⟨_, rfl⟩
  have hfe := hr.out
  unfold nbrV at hfe
  rw [hb] at hfe
  have HVD := Lib.hid hb
  have HFE := Lib.hid hfe
  obtain ⟨W1, hW1⟩ : ∃ W1, w.alloc (.cells #[.int .i64 n, .slice lo l.length lc] 24) = W1 := ⟨_, rfl⟩
  have HW1 := Lib.hid hW1
  rw [hW1] at HB1 HK1
  clear h hl hb hr hfe hq1 hq2 hW1
  go_enter Try.func18, Try.ntmps18
  go_wp2_with fail
  rw [HW1.out]
  obtain ⟨g0, hg0⟩ : ∃ g, w.heap.size = g := ⟨_, rfl⟩
  have HG0 := Lib.hid hg0
  rw [hg0] at HK1
  try simp only [hg0]
  clear hg0 HW1
  refine (cvalid_of _ n l b W1 (Lib.hid (HV.out.keep HB1.out)) HVD).mono ?_
  rintro e w2 ⟨rfl, hb2⟩
  have HB2 := Lib.hid (HB1.out.trans (hb2.mono HB1.out.size))
  have HK2 := Lib.hid (dgb_keep HK1.out hb2)
  clear hb2 HB1 HK1
  obtain ⟨c0, c1, -, -⟩ := HK2.out
  cases b
  case false =>
    have hf := HFE.out
    rw [if_neg (by decide)] at hf
    subst hf
    go_wp2
    go_ret
    exact ⟨_, rfl, Rw.nil .., HB2.out⟩
  have hf := HFE.out
  rw [if_pos rfl] at hf
  have HR : Hid (Lib.compact ((rawN l x).mergeSort fun x y => decide (x ≤ y)) = R) := Lib.hid ((nbr_sorted HVD.out).trans hf)
  obtain ⟨-, -, h256, -⟩ := validD_iff.1 HVD.out
  have hg1 : g0 < w2.heap.size := World.block_lt_of_cell? w2 _ c0
  have hgw : w.heap.size ≤ g0 := by rw [HG0.out]; exact Nat.le_refl _
  obtain ⟨B2, hB2⟩ : ∃ B2, w2.heap.size = B2 := ⟨_, rfl⟩
  have hsz0 : B2 ≤ w2.heap.size := by omega
  rw [hB2] at hg1
  clear hf HFE hB2
  go_wp2_with fail
  clear c0 c1
  go_loopw [5, 14] (fun jv iv wr => ∃ (k : Nat) (io : Option Addr) (ic : Nat) (D : List Int), iv = .int .i64 k ∧ jv = .slice io D.length ic ∧ k ≤ l.length ∧ rawN (l.take k) x = D ∧ Irow wr B2 (.slice io D.length ic) D ∧ Below w.heap.size w wr ∧ B2 ≤ wr.heap.size) (fun _ iv _ => l.length - (intOf iv).toNat)
  case atStart => exact ⟨0, none, 0, [], rfl, rfl, Nat.zero_le _, rfl, own_nil _ _ _ _, HB2.out, hsz0⟩
  case round =>
    obtain ⟨k, io, ic, D, rfl, rfl, hk, hD, hirow, hB, hsz⟩ := hrel
    rename World => wr
    have hDl : D.length ≤ 256 := by rw [← hD]; exact Nat.le_trans (raw_len x _) (by rw [List.length_take]; omega)
    have HIROW := Lib.hid hirow
    have HD := Lib.hid hD
    have HB := Lib.hid hB
    clear hirow hD hB HB2
    by_cases hlt : k < l.length
    case neg =>
      obtain rfl : k = l.length := by omega
      have HD3 : Hid (Lib.compact (D.mergeSort fun x y => decide (x ≤ y)) = R) := Lib.hid (by rw [← HR.out, ← HD.out, List.take_length])
      go_wp2_with fail
      obtain ⟨io', ic', eo, hc1, hc2⟩ := own_form HIROW.out
      cases eo
      by_cases h0 : D.length = 0
      case pos =>
        obtain rfl : D = [] := List.length_eq_zero_iff.1 h0
        have hR : R = [] := by rw [← HD3.out]; simp [Lib.compact, Lib.compactUpTo]
        subst hR
        refine (Try.slices_Sort_int_none io ic wr).mono ?_
        rintro e w4 ⟨rfl, rfl⟩
        go_wp2_with fail
        refine (Try.slices_Compact_int_empty io ic w4).mono ?_
        rintro e w5 ⟨rfl, rfl⟩
        go_wp2
        go_ret
        exact ⟨_, rfl, HIROW.out.ins, HB.out⟩
      obtain ⟨g, cap, arr, eg, hgB, -, -, -, -⟩ := own_blk HIROW.out (by omega)
      cases eg
      obtain ⟨hh, hgl, -⟩ := Irow.holds HIROW.out
      refine (Try.slices_Sort_int g 0 ic D wr hh hgl (by omega)).mono ?_
      rintro e w4 ⟨rfl, q4, os4, hw4⟩
      obtain ⟨S, hS⟩ : ∃ S, D.mergeSort (fun x y => decide (x ≤ y)) = S := ⟨_, rfl⟩
      rw [hS] at hw4
      have hlS : S.length = D.length := by rw [← hS, List.length_mergeSort]
      have hh4 : Sort.Holds (Value.int .i64) w4 g 0 S.toArray := by
        rw [hw4]
        exact Sort.holds_grow _ _ _ _ _ _ (by simpa using hgl) (Sort.holds_putRow _ _ _ _ _ _ (Sort.holds_ahead _ _ _ _ _ _ hh) (by simpa using hlS))
      have hb4 : Below w.heap.size w w4 := by
        rw [hw4]
        exact below_grow (below_put HB.out (by omega)) (by simp; omega)
      have HH4 := Lib.hid hh4
      have HB4 := Lib.hid hb4
      have HS := Lib.hid hS
      have HLS := Lib.hid hlS
      clear hw4 hh4 hb4 hS hh hlS
      go_wp2_with fail
      have hcs := Try.slices_Compact_int g 0 ic S w4 HH4.out (by rw [HLS.out]; omega) (by rw [HLS.out]; omega)
      rw [HLS.out] at hcs
      refine hcs.mono ?_
      rintro e w5 ⟨rfl, q5, hw5⟩
      have hcl : (Lib.compact S).length ≤ S.length := Lib.compact_length_le S
      have hR : Lib.compact S = R := by rw [← HD3.out, HS.out]
      have hls := HLS.out
      have HIN : Hid (Ins w5 (.slice (some ⟨g, 0, none⟩) (Lib.compact S).length ic) R) := Lib.hid (by
        rw [hw5, ← hR]
        exact ins_put HH4.out (by simp; omega) rfl (by omega) hc2)
      have HB5 : Hid (Below w.heap.size w w5) := Lib.hid (by rw [hw5]; exact below_put HB4.out (by omega))
      clear hw5 hcl hR hls hcs
      go_wp2
      go_ret
      exact ⟨_, rfl, HIN.out, HB5.out⟩
    obtain ⟨A, rfl, p0, p1⟩ := (HL.out.keep HB.out).at hlt
    have hst := raw_take hlt x
    obtain ⟨y, hy⟩ : ∃ y, l[k] = y := ⟨_, rfl⟩
    rw [hy] at p0 p1 hst
    rw [HD.out] at hst
    obtain ⟨y0, y1⟩ := y
    simp only at p0 p1
    unfold raw1 at hst
    simp only at hst
    have HST := Lib.hid hst
    have i0 : (0 : Int) ≤ (k : Int) := by omega
    have i1 : (k : Int) < (l.length : Int) := by omega
    have HBb := Lib.hid (below_keep (al1 wr (.cells #[.int .i64 y0, .int .i64 y1] 43)) HB.out)
    have HIROWb := Lib.hid (own_keep HIROW.out (al1 wr (.cells #[.int .i64 y0, .int .i64 y1] 43)))
    have HSB : Hid (B2 ≤ (wr.alloc (.cells #[.int .i64 y0, .int .i64 y1] 43)).heap.size) := Lib.hid (by simp; omega)
    clear hst hy
    cases e0 : (y0 == y1)
    case true =>
      have hq : y0 = y1 := by simpa using e0
      have HN : Hid (rawN (l.take (k + 1)) x = D) := Lib.hid (by rw [HST.out, if_pos hq, List.append_nil])
      clear hq
      go_wp2
      go_roundw
      case rel => exact ⟨k + 1, io, ic, D, by go_num, rfl, by omega, HN.out, HIROWb.out, HBb.out, HSB.out⟩
      case measure => simp [intOf]; omega
    have q0 : ¬ y0 = y1 := by simpa using e0
    cases e1 : (y0 == x)
    case true =>
      have hq : y0 = x := by simpa using e1
      have HN : Hid (rawN (l.take (k + 1)) x = D ++ [y1]) := Lib.hid (by rw [HST.out, if_neg q0, if_pos hq])
      clear hq q0
      go_wp2_with (at_builtin; refine app_in rfl (.tmp 29) (.tmp 32) rfl B2 _ D y1 (wr.heap.size + 1) (by simp) rfl rfl HIROWb (by omega) HSB.out ?_; intro io6 ic6 w6 hrow6 hgrow6; have hb6 := (Below.refl B2 (wr.alloc (.cells #[.int .i64 y0, .int .i64 y1] 43))).grown hgrow6 HSB.out (fun q hq => (World.ownsRow.lt HIROWb.out q hq).1); have HIROW6 := Lib.hid hrow6; have HB6 := Lib.hid (HBb.out.trans (hb6.mono (by omega))); have HS6 := Lib.hid (Nat.le_trans HSB.out hb6.size); clear hgrow6 hb6 hrow6)
      have hlD : (D ++ [y1]).length = D.length + 1 := by simp
      go_roundw
      case rel => exact ⟨k + 1, io6, ic6, D ++ [y1], by go_num, by rw [hlD], by omega, HN.out, by rw [hlD]; exact HIROW6.out, HB6.out, HS6.out⟩
      case measure => simp [intOf]; omega
    have q1 : ¬ y0 = x := by simpa using e1
    cases e2 : (y1 == x)
    case true =>
      have hq : y1 = x := by simpa using e2
      have HN : Hid (rawN (l.take (k + 1)) x = D ++ [y0]) := Lib.hid (by rw [HST.out, if_neg q0, if_neg q1, if_pos hq])
      clear hq q0 q1
      go_wp2_with (at_builtin; refine app_in rfl (.tmp 39) (.tmp 42) rfl B2 _ D y0 (wr.heap.size + 1) (by simp) rfl rfl HIROWb (by omega) HSB.out ?_; intro io6 ic6 w6 hrow6 hgrow6; have hb6 := (Below.refl B2 (wr.alloc (.cells #[.int .i64 y0, .int .i64 y1] 43))).grown hgrow6 HSB.out (fun q hq => (World.ownsRow.lt HIROWb.out q hq).1); have HIROW6 := Lib.hid hrow6; have HB6 := Lib.hid (HBb.out.trans (hb6.mono (by omega))); have HS6 := Lib.hid (Nat.le_trans HSB.out hb6.size); clear hgrow6 hb6 hrow6)
      have hlD : (D ++ [y0]).length = D.length + 1 := by simp
      go_roundw
      case rel => exact ⟨k + 1, io6, ic6, D ++ [y0], by go_num, by rw [hlD], by omega, HN.out, by rw [hlD]; exact HIROW6.out, HB6.out, HS6.out⟩
      case measure => simp [intOf]; omega
    have q2 : ¬ y1 = x := by simpa using e2
    have HN : Hid (rawN (l.take (k + 1)) x = D) := Lib.hid (by rw [HST.out, if_neg q0, if_neg q1, if_neg q2, List.append_nil])
    clear q0 q1 q2
    go_wp2
    go_roundw
    case rel => exact ⟨k + 1, io, ic, D, by go_num, rfl, by omega, HN.out, HIROWb.out, HBb.out, HSB.out⟩
    case measure => simp [intOf]; omega
end Go.Proofs.Ytkmamdlhpbobhaa.dig
