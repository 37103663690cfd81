/-
  What Rename of the landed tree returns: an error, or a renamed copy. Conditions: a tree in memory, of at most 600 statements with at most 40 refs and attributes each.
-/
import Derived.Test.YtgnhpjbkbefgpaaTreCq
import Derived.Shelf.SlicesE.Index
namespace Go.Proofs.Ytgnhpjbkbefgpaa.tre
open Go.RowKit Go.Shelf lex

theorem has_of (v : Value) (L : List (List UInt8)) (X : ByteArray) (r : Bool) (w : World) (h : Hid (Nl w v L)) (hr : Hid (L.contains X.data.toList = r)) :
    Calls Try.prog 43 #[v, .string X] w fun e w' => e = .returned (.bool r) ∧ w' = w := by
  obtain ⟨ao, cap, rfl, hc, hm, hA⟩ := h.out
  unfold maxLen at hm
  by_cases h0 : L.length = 0
  · obtain rfl : L = [] := List.length_eq_zero_iff.1 h0
    obtain rfl : false = r := by rw [← hr.out]; rfl
    exact Try.slices_Contains_string_empty ao cap X w
  · obtain ⟨A, rfl, hcl⟩ := hA (by omega)
    have hs := spot_none (hcl 0 (by omega))
    rw [show A.add 0 = A by unfold Addr.add; rw [if_pos rfl]] at hs
    obtain ⟨b, o, q⟩ := A
    simp only [Addr.mk.injEq, true_and] at hs
    subst hs
    have := Try.slices_Contains_string b o L.length cap (L.map bb) X w (by simp) (by omega) (fun j hj => by
      have hj' : j < L.length := by simpa using hj
      have := hcl j hj'
      rw [add_at] at this
      rw [this, List.getD_eq_getElem?_getD, List.getElem?_map, List.getElem?_eq_getElem hj']; rfl)
    have he : Lib.containsS ((L.map bb).take L.length) X = r := by
      rw [← hr.out, List.take_of_length_le (by simp)]
      rw [Bool.eq_iff_iff, Lib.containsS_iff, List.mem_map, List.contains_iff_mem]
      constructor
      · rintro ⟨y, hy, rfl⟩; exact hy
      · intro hy; exact ⟨_, hy, bb_list X⟩
    rw [he] at this
    exact this
/-- The boxes of Rename. -/
def RnB (W : World) (n0 : Nat) (X : ByteArray) (d : Bool) (bv : Value) (a b : ByteArray) : Prop := blk W n0 24 #[.string X, .bool d, bv] ∧ blk W (n0 + 1) 9 #[.string a] ∧ blk W (n0 + 1 + 1) 9 #[.string b] ∧ blk W (n0 + 1 + 1 + 1) 24 #[.string ⟨#[]⟩, .bool false, .slice none 0 0]
theorem RnB.keep {W w : World} {n0 : Nat} {X : ByteArray} {d : Bool} {bv : Value} {a b : ByteArray} (h : RnB W n0 X d bv a b) (hb : Below W.heap.size W w) : RnB w n0 X d bv a b := ⟨blk_below h.1 hb, blk_below h.2.1 hb, blk_below h.2.2.1 hb, blk_below h.2.2.2 hb⟩
theorem blk_new (w : World) (c : Array Value) (t : TypeId) : blk (w.alloc (.cells c t)) w.heap.size t c := heap_alloc_new w _
/-- Their cells. -/
def RnC (W : World) (n0 : Nat) (X : ByteArray) (d : Bool) (bv : Value) (a b : ByteArray) : Prop := at3 W n0 X d bv ∧ W.frozen? ⟨n0, 2, none⟩ = false ∧ W.cell? ⟨n0 + 1, 0, none⟩ = some (.string a) ∧ W.cell? ⟨n0 + 1 + 1, 0, none⟩ = some (.string b) ∧ at3 W (n0 + 1 + 1 + 1) ⟨#[]⟩ false (.slice none 0 0) ∧ W.frozen? ⟨n0 + 1 + 1 + 1, 0, none⟩ = false ∧ W.frozen? ⟨n0 + 1 + 1 + 1, 1, none⟩ = false ∧ W.frozen? ⟨n0 + 1 + 1 + 1, 2, none⟩ = false
theorem RnB.cells {W : World} {n0 : Nat} {X : ByteArray} {d : Bool} {bv : Value} {a b : ByteArray} (h : RnB W n0 X d bv a b) : RnC W n0 X d bv a b := by
  obtain ⟨h1, h2, h3, h4⟩ := h
  refine ⟨⟨?_, ?_, ?_⟩, blk_free h1, ?_, ?_, ⟨?_, ?_, ?_⟩, blk_free h4, blk_free h4, blk_free h4⟩
  · rw [blk_cell h1]; rfl
  · rw [blk_cell h1]; rfl
  · rw [blk_cell h1]; rfl
  · rw [blk_cell h2]; rfl
  · rw [blk_cell h3]; rfl
  · rw [blk_cell h4]; rfl
  · rw [blk_cell h4]; rfl
  · rw [blk_cell h4]; rfl
theorem rnb_start (w : World) (X : ByteArray) (d : Bool) (bv : Value) (a b : ByteArray) : RnB ((((w.alloc (.cells #[.string X, .bool d, bv] 24)).alloc (.cells #[.string a] 9)).alloc (.cells #[.string b] 9)).alloc (.cells #[.string ⟨#[]⟩, .bool false, .slice none 0 0] 24)) w.heap.size X d bv a b ∧
    Below w.heap.size w ((((w.alloc (.cells #[.string X, .bool d, bv] 24)).alloc (.cells #[.string a] 9)).alloc (.cells #[.string b] 9)).alloc (.cells #[.string ⟨#[]⟩, .bool false, .slice none 0 0] 24)) := by
  obtain ⟨A1, h1⟩ : ∃ A, w.alloc (.cells #[.string X, .bool d, bv] 24) = A := ⟨_, rfl⟩
  have s1 : A1.heap.size = w.heap.size + 1 := by rw [← h1]; simp
  have b1 : Below w.heap.size w A1 := by rw [← h1]; exact al1 _ _
  have f1 : blk A1 w.heap.size 24 #[.string X, .bool d, bv] := by rw [← h1]; exact blk_new _ _ _
  obtain ⟨A2, h2⟩ : ∃ A, A1.alloc (.cells #[.string a] 9) = A := ⟨_, rfl⟩
  have s2 : A2.heap.size = w.heap.size + 1 + 1 := by rw [← h2, ← s1]; simp
  have b2 : Below A1.heap.size A1 A2 := by rw [← h2]; exact al1 _ _
  have f2 : blk A2 (w.heap.size + 1) 9 #[.string a] := by rw [← h2, ← s1]; exact blk_new _ _ _
  obtain ⟨A3, h3⟩ : ∃ A, A2.alloc (.cells #[.string b] 9) = A := ⟨_, rfl⟩
  have s3 : A3.heap.size = w.heap.size + 1 + 1 + 1 := by rw [← h3, ← s2]; simp
  have b3 : Below A2.heap.size A2 A3 := by rw [← h3]; exact al1 _ _
  have f3 : blk A3 (w.heap.size + 1 + 1) 9 #[.string b] := by rw [← h3, ← s2]; exact blk_new _ _ _
  rw [h1, h2, h3]
  have b4 := al1 A3 (.cells #[.string ⟨#[]⟩, .bool false, .slice none 0 0] 24)
  have f4 := blk_new A3 #[.string ⟨#[]⟩, .bool false, .slice none 0 0] 24
  rw [s3] at f4
  exact ⟨⟨blk_below (blk_below (blk_below f1 b2) b3) b4, blk_below (blk_below f2 b3) b4, blk_below f3 b4, f4⟩, below_keep b4 (below_keep b3 (below_keep b2 b1))⟩
def RnOut (T : Tr) (a b : List UInt8) (E : Int) (w : World) (e : Ending) (w' : World) : Prop := ∃ rv, e = .returned (.tuple #[rv, .int .i64 E]) ∧ TrV w' rv (renO T a b) ∧ Below w.heap.size w w'
theorem below_keep' {n : Nat} {W w1 w2 : World} (h1 : Below n W w1) (h2 : Below n w1 w2) : Below n W w2 := h1.trans h2
theorem trv_none (w : World) : TrV w (.agg #[.string ⟨#[]⟩, .bool false, .slice none 0 0]) ⟨[], false, []⟩ := ⟨_, rfl, by decide, Sts.nil w⟩
theorem renO_bad {T : Tr} {a b : List UInt8} (h : renE T a b ≠ 0) : renO T a b = ⟨[], false, []⟩ := by unfold renO; rw [if_neg h]
set_option maxRecDepth 100000 in
set_option maxHeartbeats 16000000 in
theorem crename_of (v : Value) (T : Tr) (a b : ByteArray) (E : Int) (w : World) (h : Hid (TrV w v T)) (hn : cnt T.body ≤ 600) (hok : okL T.body) (ha : a.size ≤ maxLen) (hbz : b.size ≤ maxLen) (hE : Hid (renE T a.data.toList b.data.toList = E)) :
    Calls Try.prog 23 #[v, .string a, .string b] w (RnOut T a.data.toList b.data.toList E w) := by
  have hmx : Try.prog.follows .mixedOrders = true := by kernel_rfl
  obtain ⟨bv, rfl, hnm, hs⟩ := h.out
  have hr := hE.out
  unfold renE at hr
  obtain ⟨V, hV⟩ : ∃ V, validT T = V := ⟨_, rfl⟩
  obtain ⟨L, hL⟩ : ∃ L, namesT T = L := ⟨_, rfl⟩
  obtain ⟨C, hC⟩ : ∃ C, clustersT T = C := ⟨_, rfl⟩
  obtain ⟨na, hna⟩ : ∃ q, isNm a.data.toList = q := ⟨_, rfl⟩
  obtain ⟨nb, hnb⟩ : ∃ q, isNm b.data.toList = q := ⟨_, rfl⟩
  obtain ⟨qa, hqa⟩ : ∃ q, L.contains a.data.toList = q := ⟨_, rfl⟩
  obtain ⟨qb, hqb⟩ : ∃ q, L.contains b.data.toList = q := ⟨_, rfl⟩
  obtain ⟨qc, hqc⟩ : ∃ q, C.contains b.data.toList = q := ⟨_, rfl⟩
  have HV := Lib.hid hV
  have HL := Lib.hid hL
  have HC := Lib.hid hC
  have HNA := Lib.hid hna
  have HNB := Lib.hid hnb
  have HQA := Lib.hid hqa
  have HQB := Lib.hid hqb
  have HQC := Lib.hid hqc
  rw [hV, hL, hC, hna, hnb, hqa, hqb, hqc] at hr
  have HR := Lib.hid hr
  have HA := Lib.hid ha
  have HB := Lib.hid hbz
  have HOK := Lib.hid hok
  obtain ⟨X, hX⟩ : ∃ X, bb T.name = X := ⟨_, rfl⟩
  obtain ⟨d, hd⟩ : ∃ d, T.dir = d := ⟨_, rfl⟩
  have hT : TrV w (.agg #[.string X, .bool d, bv]) T := by rw [← hX, ← hd]; exact h.out
  have HXD := Lib.hid (show bb T.name = X ∧ T.dir = d ∧ T.name.length ≤ maxLen from ⟨hX, hd, hnm⟩)
  rw [hX, hd]
  obtain ⟨hst, hbel⟩ := rnb_start w X d bv a b
  have HST := Lib.hid hst
  have HBE := Lib.hid hbel
  have HT0 := Lib.hid (hT.keep hbel)
  obtain ⟨⟨c0, c1, c2⟩, cf, ca, cb, ⟨r0, r1, r2⟩, f0, f1, f2⟩ := hst.cells
  clear hV hL hC hna hnb hqa hqb hqc hr ha hbz hok hX hd hnm hs hT hst hbel h
  go_enter Try.func23, Try.ntmps23
  go_wp2_with fail
  refine (valid_of _ T V _ HT0 hn HV).mono ?_
  rintro e w1 ⟨rfl, hb1⟩
  have HB1 := Lib.hid (below_keep hb1 HBE.out)
  have HS1 := Lib.hid (HST.out.keep hb1)
  have HT1 := Lib.hid (HT0.out.keep hb1)
  clear c0 c1 c2 cf ca cb r0 r1 r2 f0 f1 f2 hb1
  obtain ⟨⟨c0, c1, c2⟩, cf, ca, cb, ⟨r0, r1, r2⟩, f0, f1, f2⟩ := HS1.out.cells
  by_cases hv : V = 0
  case neg =>
    have HN : Hid (1 = E) := Lib.hid (by have := HR.out; rw [if_pos hv] at this; exact this)
    have HO : Hid (renO T a.data.toList b.data.toList = ⟨[], false, []⟩) := Lib.hid (renO_bad (by rw [hE.out, ← HN.out]; decide))
    have b0 : (V != 0) = true := by rw [bne_iff_ne]; exact hv
    obtain rfl := HN.out
    clear hv
    go_wp2
    exact bodyPost_ret (v := .tuple #[.agg #[.string ⟨#[]⟩, .bool false, .slice none 0 0], .int .i64 1]) (by simp [results, Try.results23, go_sem, r0, r1, r2]) rfl ⟨_, rfl, by rw [HO.out]; exact trv_none _, ((HB1.out.setCell (by show w.heap.size ≤ w.heap.size + 1 + 1 + 1; omega) _).setCell (by show w.heap.size ≤ w.heap.size + 1 + 1 + 1; omega) _).setCell (by show w.heap.size ≤ w.heap.size + 1 + 1 + 1; omega) _⟩
  subst hv
  have HR1 : Hid ((if na = false ∨ nb = false then (5 : Int) else if qa = false then 15 else if qb = true ∨ qc = true then 6 else 0) = E) := Lib.hid (by have := HR.out; rw [if_neg (by simp)] at this; exact this)
  go_wp2_with fail
  refine (names_of _ T L _ HT1 hn HOK.out HL).mono ?_
  rintro e w2 ⟨nv, rfl, hnl, hb2⟩
  have HNL := Lib.hid hnl
  have HB2 := Lib.hid (below_keep hb2 HB1.out)
  have HS2 := Lib.hid (HS1.out.keep hb2)
  have HT2 := Lib.hid (HT1.out.keep hb2)
  clear c0 c1 c2 cf ca cb r0 r1 r2 f0 f1 f2 hb2 hnl
  obtain ⟨⟨c0, c1, c2⟩, cf, ca, cb, ⟨r0, r1, r2⟩, f0, f1, f2⟩ := HS2.out.cells
  go_wp2_with fail
  refine (isname_of _ _ _ HA.out HNA).mono ?_
  rintro e w3 ⟨rfl, hb3⟩
  have HB3 := Lib.hid (below_keep hb3 HB2.out)
  have HS3 := Lib.hid (HS2.out.keep hb3)
  have HT3 := Lib.hid (HT2.out.keep hb3)
  have HNL3 := Lib.hid (HNL.out.keep hb3)
  clear c0 c1 c2 cf ca cb r0 r1 r2 f0 f1 f2 hb3
  obtain ⟨⟨c0, c1, c2⟩, cf, ca, cb, ⟨r0, r1, r2⟩, f0, f1, f2⟩ := HS3.out.cells
  cases na
  case false =>
    have HN : Hid (5 = E) := Lib.hid (by have := HR1.out; rw [if_pos (Or.inl rfl)] at this; exact this)
    have HO : Hid (renO T a.data.toList b.data.toList = ⟨[], false, []⟩) := Lib.hid (renO_bad (by rw [hE.out, ← HN.out]; decide))
    obtain rfl := HN.out
    go_wp2
    exact bodyPost_ret (v := .tuple #[.agg #[.string ⟨#[]⟩, .bool false, .slice none 0 0], .int .i64 5]) (by simp [results, Try.results23, go_sem, r0, r1, r2]) rfl ⟨_, rfl, by rw [HO.out]; exact trv_none _, ((HB3.out.setCell (by show w.heap.size ≤ w.heap.size + 1 + 1 + 1; omega) _).setCell (by show w.heap.size ≤ w.heap.size + 1 + 1 + 1; omega) _).setCell (by show w.heap.size ≤ w.heap.size + 1 + 1 + 1; omega) _⟩
  go_wp2_with fail
  refine (isname_of _ _ _ HB.out HNB).mono ?_
  rintro e w4 ⟨rfl, hb4⟩
  have HB4 := Lib.hid (below_keep hb4 HB3.out)
  have HS4 := Lib.hid (HS3.out.keep hb4)
  have HT4 := Lib.hid (HT3.out.keep hb4)
  have HNL4 := Lib.hid (HNL3.out.keep hb4)
  clear c0 c1 c2 cf ca cb r0 r1 r2 f0 f1 f2 hb4
  obtain ⟨⟨c0, c1, c2⟩, cf, ca, cb, ⟨r0, r1, r2⟩, f0, f1, f2⟩ := HS4.out.cells
  cases nb
  case false =>
    have HN : Hid (5 = E) := Lib.hid (by have := HR1.out; rw [if_pos (Or.inr rfl)] at this; exact this)
    have HO : Hid (renO T a.data.toList b.data.toList = ⟨[], false, []⟩) := Lib.hid (renO_bad (by rw [hE.out, ← HN.out]; decide))
    obtain rfl := HN.out
    go_wp2
    exact bodyPost_ret (v := .tuple #[.agg #[.string ⟨#[]⟩, .bool false, .slice none 0 0], .int .i64 5]) (by simp [results, Try.results23, go_sem, r0, r1, r2]) rfl ⟨_, rfl, by rw [HO.out]; exact trv_none _, ((HB4.out.setCell (by show w.heap.size ≤ w.heap.size + 1 + 1 + 1; omega) _).setCell (by show w.heap.size ≤ w.heap.size + 1 + 1 + 1; omega) _).setCell (by show w.heap.size ≤ w.heap.size + 1 + 1 + 1; omega) _⟩
  have HR2 : Hid ((if qa = false then (15 : Int) else if qb = true ∨ qc = true then 6 else 0) = E) := Lib.hid (by have := HR1.out; rw [if_neg (by simp)] at this; exact this)
  go_wp2_with fail
  refine (has_of _ L a qa _ HNL4 HQA).mono ?_
  rintro e w5 ⟨rfl, rfl⟩
  cases qa
  case false =>
    have HN : Hid (15 = E) := Lib.hid (by have := HR2.out; rw [if_pos rfl] at this; exact this)
    have HO : Hid (renO T a.data.toList b.data.toList = ⟨[], false, []⟩) := Lib.hid (renO_bad (by rw [hE.out, ← HN.out]; decide))
    obtain rfl := HN.out
    go_wp2
    exact bodyPost_ret (v := .tuple #[.agg #[.string ⟨#[]⟩, .bool false, .slice none 0 0], .int .i64 15]) (by simp [results, Try.results23, go_sem, r0, r1, r2]) rfl ⟨_, rfl, by rw [HO.out]; exact trv_none _, ((HB4.out.setCell (by show w.heap.size ≤ w.heap.size + 1 + 1 + 1; omega) _).setCell (by show w.heap.size ≤ w.heap.size + 1 + 1 + 1; omega) _).setCell (by show w.heap.size ≤ w.heap.size + 1 + 1 + 1; omega) _⟩
  have HR3 : Hid ((if qb = true ∨ qc = true then (6 : Int) else 0) = E) := Lib.hid (by have := HR2.out; rw [if_neg (by simp)] at this; exact this)
  obtain ⟨dq, hdq⟩ : ∃ q, (qb || qc) = q := ⟨_, rfl⟩
  have HDQ := Lib.hid hdq
  clear hdq
  have HH : Hid (∀ W, Below w5.heap.size w5 W → Calls Try.prog 43 #[nv, .string b] W fun e w' => e = .returned (.bool qb) ∧ w' = W) := Lib.hid (fun W hW => has_of nv L b qb W (Lib.hid (HNL4.out.keep hW)) HQB)
  have HK : Hid (∀ W, Below w5.heap.size w5 W → Calls Try.prog 19 #[.agg #[.string X, .bool d, bv]] W (NlOut C W)) := Lib.hid (fun W hW => clusters_of _ T C W (Lib.hid (HT4.out.keep hW)) hn HC)
  go_wp2_with fail
  go_cut [31] (fun sv wx => sv = .bool dq ∧ Below w5.heap.size w5 wx)
  case first =>
    cases qb
    · obtain rfl : qc = dq := by rw [← HDQ.out]; rfl
      go_region_law (first
        | (go_simp; go_at_call 43; (with_reducible refine (HH.out _ (by repeat (first | (with_reducible exact Below.refl _ _) | (with_reducible refine b_drew ?_)))).mono ?_); rintro e w6 ⟨rfl, rfl⟩)
        | (go_simp; go_at_call 19; refine (HK.out _ (by repeat (first | (with_reducible exact Below.refl _ _) | (with_reducible refine b_drew ?_)))).mono ?_; rintro e w7 ⟨cv, rfl, hnl7, hb7⟩; have hB7 : Below w5.heap.size w5 w7 := below_keep hb7 (by repeat (first | (with_reducible exact Below.refl _ _) | (with_reducible refine b_drew ?_))); have cb := cell_keep hB7 cb)
        | (go_simp; go_at_call 43; refine (has_of cv C b qc _ (Lib.hid hnl7) HQC).mono ?_; rintro e w8 ⟨rfl, rfl⟩))
      all_goals
        go_wp2_with fail
        go_meet
        exact ⟨rfl, by assumption⟩
    · obtain rfl : true = dq := by rw [← HDQ.out]; rfl
      go_region_law ((go_simp; go_at_call 43; (with_reducible refine (HH.out _ (by repeat (first | (with_reducible exact Below.refl _ _) | (with_reducible refine b_drew ?_)))).mono ?_); rintro e w6 ⟨rfl, rfl⟩))
      all_goals
        go_wp2_with fail
        go_meet
        exact ⟨rfl, by repeat (first | (with_reducible exact Below.refl _ _) | (with_reducible refine b_drew ?_))⟩
  case rest =>
    obtain ⟨rfl, hb9⟩ := hcut
    rename World => w9
    have HB9 := Lib.hid (below_keep hb9 HB4.out)
    have HS9 := Lib.hid (HS4.out.keep hb9)
    have HT9 := Lib.hid (HT4.out.keep hb9)
    clear c0 c1 c2 cf ca cb r0 r1 r2 f0 f1 f2 hb9 HH HK
    obtain ⟨⟨c0, c1, c2⟩, cf, ca, cb, ⟨r0, r1, r2⟩, f0, f1, f2⟩ := HS9.out.cells
    cases dq
    case true =>
      have HN : Hid (6 = E) := Lib.hid (by
        have := HR3.out
        have hq := HDQ.out
        rw [if_pos (by simpa using hq)] at this; exact this)
      have HO : Hid (renO T a.data.toList b.data.toList = ⟨[], false, []⟩) := Lib.hid (renO_bad (by rw [hE.out, ← HN.out]; decide))
      obtain rfl := HN.out
      go_wp2
      exact bodyPost_ret (v := .tuple #[.agg #[.string ⟨#[]⟩, .bool false, .slice none 0 0], .int .i64 6]) (by simp [results, Try.results23, go_sem, r0, r1, r2]) rfl ⟨_, rfl, by rw [HO.out]; exact trv_none _, ((HB9.out.setCell (by show w.heap.size ≤ w.heap.size + 1 + 1 + 1; omega) _).setCell (by show w.heap.size ≤ w.heap.size + 1 + 1 + 1; omega) _).setCell (by show w.heap.size ≤ w.heap.size + 1 + 1 + 1; omega) _⟩
    have HN : Hid (0 = E) := Lib.hid (by
      have := HR3.out
      have hq := HDQ.out
      rw [if_neg (by simpa using hq)] at this; exact this)
    have HO : Hid (renO T a.data.toList b.data.toList = renT a.data.toList b.data.toList T) := Lib.hid (by unfold renO; rw [if_pos (by rw [hE.out, ← HN.out])])
    obtain rfl := HN.out
    have HSt : Hid (Sts w9 bv T.body) := Lib.hid (by obtain ⟨_, e, _, hs⟩ := HT9.out; cases e; exact hs)
    go_wp2_with fail
    refine (cp_ok T.body w9 bv HSt hn HOK.out).mono ?_
    rintro e w10 ⟨v10, rfl, hown, hb10⟩
    obtain ⟨hle, ao, cap, rfl, -, -, -⟩ := id hown
    have hsz9 : w.heap.size + 1 + 1 + 1 < w9.heap.size := blk_lt HS9.out.2.2.2
    have HB10 := Lib.hid (below_keep hb10 HB9.out)
    have hs10 := HS9.out.keep hb10
    clear c0 c1 c2 cf ca cb r0 r1 r2 f0 f1 f2 hb10
    obtain ⟨⟨c0, c1, c2⟩, cf, ca, cb, ⟨r0, r1, r2⟩, f0, f1, f2⟩ := hs10.cells
    have hk11 : RnB (w10.setCell ⟨w.heap.size, 2, none⟩ (.slice ao T.body.length cap)) w.heap.size X d (.slice ao T.body.length cap) a b := by
      obtain ⟨k1, k2, k3, k4⟩ := hs10
      exact ⟨blk_set (o := 2) k1 _, blk_far k2 (by omega) _, blk_far k3 (by omega) _, blk_far k4 (by omega) _⟩
    have HK11 := Lib.hid hk11
    have HOwn : Hid (own (w10.setCell ⟨w.heap.size, 2, none⟩ (.slice ao T.body.length cap)) T.body w9.heap.size w10.heap.size (.slice ao T.body.length cap)) := Lib.hid (own_move hown (fun q h1 h2 => Below.heap_setCell _ _ _ _ (by show q ≠ w.heap.size; omega)))
    have HFa : Hid ((w10.setCell ⟨w.heap.size, 2, none⟩ (.slice ao T.body.length cap)).cell? ⟨w.heap.size + 1, 0, none⟩ = some (.string (bb a.data.toList))) := Lib.hid (by rw [bb_list]; exact hk11.cells.2.2.1)
    have HFb : Hid ((w10.setCell ⟨w.heap.size, 2, none⟩ (.slice ao T.body.length cap)).cell? ⟨w.heap.size + 1 + 1, 0, none⟩ = some (.string (bb b.data.toList))) := Lib.hid (by rw [bb_list]; exact hk11.cells.2.2.2.1)
    have HW := Lib.hid (RwOk.use (Lib.hid (rw_ok (w.heap.size + 1) (w.heap.size + 1 + 1) a.data.toList b.data.toList (by rw [b_size]; exact HB.out) T.body)) (lv := 0) HOwn (by decide) (by omega) (by omega) (by omega) HFa HFb)
    have HB11 : Hid (Below w.heap.size w (w10.setCell ⟨w.heap.size, 2, none⟩ (.slice ao T.body.length cap))) := Lib.hid (HB10.out.setCell (Nat.le_refl _) _)
    clear hk11 hs10 hown hle
    go_wp2_with fail
    refine HW.out.mono ?_
    rintro e w12 ⟨rfl, ho12, hc12⟩
    have HO12 := Lib.hid ho12
    have HB12 := Lib.hid (below_keep' HB11.out (hc12.below (n := w.heap.size) (fun q hq => by have := hq.1; omega)))
    have hs12 : RnB w12 w.heap.size X d (.slice ao T.body.length cap) a b := by
      obtain ⟨k1, k2, k3, k4⟩ := HK11.out
      exact ⟨hc12.blk (fun e => by have := e.1; omega) k1, hc12.blk (fun e => by have := e.1; omega) k2, hc12.blk (fun e => by have := e.1; omega) k3, hc12.blk (fun e => by have := e.1; omega) k4⟩
    clear c0 c1 c2 cf ca cb r0 r1 r2 f0 f1 f2 ho12 hc12
    obtain ⟨⟨c0, c1, c2⟩, cf, ca, cb, ⟨r0, r1, r2⟩, f0, f1, f2⟩ := hs12.cells
    clear hs12
    go_wp2
    have hfin : TrV (((w12.setCell ⟨w.heap.size + 1 + 1 + 1, 0, none⟩ (.string X)).setCell ⟨w.heap.size + 1 + 1 + 1, 1, none⟩ (.bool d)).setCell ⟨w.heap.size + 1 + 1 + 1, 2, none⟩ (.slice ao T.body.length cap)) (.agg #[.string X, .bool d, .slice ao T.body.length cap]) (renO T a.data.toList b.data.toList) := by
      rw [HO.out]
      refine ⟨.slice ao T.body.length cap, by rw [← HXD.out.1, ← HXD.out.2.1]; rfl, HXD.out.2.2, ?_⟩
      exact own_sts (own_move HO12.out (fun q h1 h2 => by
        rw [Below.heap_setCell _ _ _ _ (by show q ≠ w.heap.size + 1 + 1 + 1; omega), Below.heap_setCell _ _ _ _ (by show q ≠ w.heap.size + 1 + 1 + 1; omega), Below.heap_setCell _ _ _ _ (by show q ≠ w.heap.size + 1 + 1 + 1; omega)]))
    exact bodyPost_ret (v := .tuple #[.agg #[.string X, .bool d, .slice ao T.body.length cap], .int .i64 0]) (by simp [results, Try.results23, go_sem, r0, r1, r2]) rfl ⟨_, rfl, hfin, ((HB12.out.setCell (by show w.heap.size ≤ w.heap.size + 1 + 1 + 1; omega) _).setCell (by show w.heap.size ≤ w.heap.size + 1 + 1 + 1; omega) _).setCell (by show w.heap.size ≤ w.heap.size + 1 + 1 + 1; omega) _⟩
end Go.Proofs.Ytgnhpjbkbefgpaa.tre
