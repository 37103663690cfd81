/-
  What the reference's Rename returns: an error, or a renamed copy. Conditions: a tree in memory, of at most 600 statements with at most 40 refs and attributes each.
-/
import Derived.Test.YtgnhpjbkbefgpaaTreRs
namespace Go.Proofs.Ytgnhpjbkbefgpaa.tre
open Go.RowKit lex

theorem rhas2 (v : Value) (X : ByteArray) (l : List (List UInt8)) (r : Bool) (w : World) (h : Hid (Nl w v l)) (hr : Hid (l.contains X.data.toList = r)) :
    Calls Try.prog 38 #[v, .string X] w fun e w' => e = .returned (.bool r) ∧ w = w' := by
  have := rhas_of v X.data.toList l r w h hr
  rwa [bb_list] at this
def RrB (W : World) (n0 : Nat) (X : ByteArray) (d : Bool) (bv : Value) : Prop := blk W n0 24 #[.string X, .bool d, bv] ∧ blk W (n0 + 1) 24 #[.string ⟨#[]⟩, .bool false, .slice none 0 0]
theorem RrB.keep {W w : World} {n0 : Nat} {X : ByteArray} {d : Bool} {bv : Value} (h : RrB W n0 X d bv) (hb : Below W.heap.size W w) : RrB w n0 X d bv := ⟨blk_below h.1 hb, blk_below h.2 hb⟩
def RrC (W : World) (n0 : Nat) (X : ByteArray) (d : Bool) (bv : Value) : Prop := at3 W n0 X d bv ∧ at3 W (n0 + 1) ⟨#[]⟩ false (.slice none 0 0) ∧ W.frozen? ⟨n0 + 1, 0, none⟩ = false ∧ W.frozen? ⟨n0 + 1, 1, none⟩ = false ∧ W.frozen? ⟨n0 + 1, 2, none⟩ = false
theorem RrB.cells {W : World} {n0 : Nat} {X : ByteArray} {d : Bool} {bv : Value} (h : RrB W n0 X d bv) : RrC W n0 X d bv := by
  obtain ⟨h1, h4⟩ := h
  refine ⟨⟨?_, ?_, ?_⟩, ⟨?_, ?_, ?_⟩, blk_free h4, blk_free h4, blk_free h4⟩
  · rw [blk_cell h1]; rfl
  · rw [blk_cell h1]; rfl
  · rw [blk_cell h1]; rfl
  · rw [blk_cell h4]; rfl
  · rw [blk_cell h4]; rfl
  · rw [blk_cell h4]; rfl
theorem rrb_start (w : World) (X : ByteArray) (d : Bool) (bv : Value) : RrB ((w.alloc (.cells #[.string X, .bool d, bv] 24)).alloc (.cells #[.string ⟨#[]⟩, .bool false, .slice none 0 0] 24)) w.heap.size X d bv ∧
    Below w.heap.size w ((w.alloc (.cells #[.string X, .bool d, bv] 24)).alloc (.cells #[.string ⟨#[]⟩, .bool false, .slice none 0 0] 24)) := by
  obtain ⟨A1, h1⟩ : ∃ A, w.alloc (.cells #[.string X, .bool d, bv] 24) = A := ⟨_, rfl⟩
  have s1 : A1.heap.size = w.heap.size + 1 := by rw [← h1]; simp
  have b1 : Below w.heap.size w A1 := by rw [← h1]; exact al1 _ _
  have f1 : blk A1 w.heap.size 24 #[.string X, .bool d, bv] := by rw [← h1]; exact blk_new _ _ _
  rw [h1]
  have b4 := al1 A1 (.cells #[.string ⟨#[]⟩, .bool false, .slice none 0 0] 24)
  have f4 := blk_new A1 #[.string ⟨#[]⟩, .bool false, .slice none 0 0] 24
  rw [s1] at f4
  exact ⟨⟨blk_below f1 b4, f4⟩, below_keep b4 b1⟩
set_option maxRecDepth 100000 in
set_option maxHeartbeats 16000000 in
theorem rrename_of (v : Value) (T : Tr) (a b : ByteArray) (E : Int) (w : World) (h : Hid (TrV w v T)) (hn : cnt T.body ≤ 600) (hok : okL T.body) (ha : a.size ≤ maxLen) (hbz : b.size ≤ maxLen) (hE : Hid (renE T a.data.toList b.data.toList = E)) :
    Calls Try.prog 24 #[v, .string a, .string b] w (RnOut T a.data.toList b.data.toList E w) := by
  have hmx : Try.prog.follows .mixedOrders = true := by kernel_rfl
  obtain ⟨bv, rfl, hnm, hs⟩ := h.out
  have hr := hE.out
  unfold renE at hr
  obtain ⟨V, hV⟩ : ∃ V, validT T = V := ⟨_, rfl⟩
  obtain ⟨L, hL⟩ : ∃ L, namesT T = L := ⟨_, rfl⟩
  obtain ⟨C, hC⟩ : ∃ C, clustersT T = C := ⟨_, rfl⟩
  obtain ⟨na, hna⟩ : ∃ q, isNm a.data.toList = q := ⟨_, rfl⟩
  obtain ⟨nb, hnb⟩ : ∃ q, isNm b.data.toList = q := ⟨_, rfl⟩
  obtain ⟨qa, hqa⟩ : ∃ q, L.contains a.data.toList = q := ⟨_, rfl⟩
  obtain ⟨qb, hqb⟩ : ∃ q, L.contains b.data.toList = q := ⟨_, rfl⟩
  obtain ⟨qc, hqc⟩ : ∃ q, C.contains b.data.toList = q := ⟨_, rfl⟩
  have HV := Lib.hid hV
  have HL := Lib.hid hL
  have HC := Lib.hid hC
  have HNA := Lib.hid hna
  have HNB := Lib.hid hnb
  have HQA := Lib.hid hqa
  have HQB := Lib.hid hqb
  have HQC := Lib.hid hqc
  rw [hV, hL, hC, hna, hnb, hqa, hqb, hqc] at hr
  have HR := Lib.hid hr
  have HA := Lib.hid ha
  have HB := Lib.hid hbz
  have HOK := Lib.hid hok
  obtain ⟨X, hX⟩ : ∃ X, bb T.name = X := ⟨_, rfl⟩
  obtain ⟨d, hd⟩ : ∃ d, T.dir = d := ⟨_, rfl⟩
  have hT : TrV w (.agg #[.string X, .bool d, bv]) T := by rw [← hX, ← hd]; exact h.out
  have HXD := Lib.hid (show bb T.name = X ∧ T.dir = d ∧ T.name.length ≤ maxLen from ⟨hX, hd, hnm⟩)
  rw [hX, hd]
  obtain ⟨hst, hbel⟩ := rrb_start w X d bv
  have HS0 := Lib.hid hst
  have HB0 := Lib.hid hbel
  have HT0 := Lib.hid (hT.keep hbel)
  obtain ⟨⟨c0, c1, c2⟩, ⟨r0, r1, r2⟩, f0, f1, f2⟩ := hst.cells
  clear hV hL hC hna hnb hqa hqb hqc hr ha hbz hok hX hd hnm hs hT hst hbel h
  go_enter Try.func24, Try.ntmps24
  go_wp2_with fail
  refine (rvalid_of _ T V _ HT0 hn HV).mono ?_
  rintro e w1 ⟨rfl, hb1⟩
  have HB1 := Lib.hid (below_keep hb1 HB0.out)
  have HS1 := Lib.hid (HS0.out.keep hb1)
  have HT1 := Lib.hid (HT0.out.keep hb1)
  clear c0 c1 c2 r0 r1 r2 f0 f1 f2 hb1
  obtain ⟨⟨c0, c1, c2⟩, ⟨r0, r1, r2⟩, f0, f1, f2⟩ := HS1.out.cells
  by_cases hv : V = 0
  case neg =>
    have HN : Hid (1 = E) := Lib.hid (by have := HR.out; rw [if_pos hv] at this; exact this)
    have HO : Hid (renO T a.data.toList b.data.toList = ⟨[], false, []⟩) := Lib.hid (renO_bad (by rw [hE.out, ← HN.out]; decide))
    have b0 : (V != 0) = true := by rw [bne_iff_ne]; exact hv
    obtain rfl := HN.out
    clear hv
    go_wp2
    exact bodyPost_ret (v := .tuple #[.agg #[.string ⟨#[]⟩, .bool false, .slice none 0 0], .int .i64 1]) (by simp [results, Try.results24, go_sem, r0, r1, r2]) rfl ⟨_, rfl, by rw [HO.out]; exact trv_none _, ((HB1.out.setCell (by show w.heap.size ≤ w.heap.size + 1; omega) _).setCell (by show w.heap.size ≤ w.heap.size + 1; omega) _).setCell (by show w.heap.size ≤ w.heap.size + 1; omega) _⟩
  subst hv
  have HR1 : Hid ((if na = false ∨ nb = false then (5 : Int) else if qa = false then 15 else if qb = true ∨ qc = true then 6 else 0) = E) := Lib.hid (by have := HR.out; rw [if_neg (by simp)] at this; exact this)
  go_wp2_with fail
  refine (rnm_of _ _ _ HA.out HNA).mono ?_
  rintro e w2 ⟨rfl, rfl⟩
  cases na
  case false =>
    have HN : Hid (5 = E) := Lib.hid (by have := HR1.out; rw [if_pos (Or.inl rfl)] at this; exact this)
    have HO : Hid (renO T a.data.toList b.data.toList = ⟨[], false, []⟩) := Lib.hid (renO_bad (by rw [hE.out, ← HN.out]; decide))
    obtain rfl := HN.out
    go_wp2
    exact bodyPost_ret (v := .tuple #[.agg #[.string ⟨#[]⟩, .bool false, .slice none 0 0], .int .i64 5]) (by simp [results, Try.results24, go_sem, r0, r1, r2]) rfl ⟨_, rfl, by rw [HO.out]; exact trv_none _, ((HB1.out.setCell (by show w.heap.size ≤ w.heap.size + 1; omega) _).setCell (by show w.heap.size ≤ w.heap.size + 1; omega) _).setCell (by show w.heap.size ≤ w.heap.size + 1; omega) _⟩
  go_wp2_with fail
  refine (rnm_of _ _ _ HB.out HNB).mono ?_
  rintro e w2 ⟨rfl, rfl⟩
  cases nb
  case false =>
    have HN : Hid (5 = E) := Lib.hid (by have := HR1.out; rw [if_pos (Or.inr rfl)] at this; exact this)
    have HO : Hid (renO T a.data.toList b.data.toList = ⟨[], false, []⟩) := Lib.hid (renO_bad (by rw [hE.out, ← HN.out]; decide))
    obtain rfl := HN.out
    go_wp2
    exact bodyPost_ret (v := .tuple #[.agg #[.string ⟨#[]⟩, .bool false, .slice none 0 0], .int .i64 5]) (by simp [results, Try.results24, go_sem, r0, r1, r2]) rfl ⟨_, rfl, by rw [HO.out]; exact trv_none _, ((HB1.out.setCell (by show w.heap.size ≤ w.heap.size + 1; omega) _).setCell (by show w.heap.size ≤ w.heap.size + 1; omega) _).setCell (by show w.heap.size ≤ w.heap.size + 1; omega) _⟩
  have HR2 : Hid ((if qa = false then (15 : Int) else if qb = true ∨ qc = true then 6 else 0) = E) := Lib.hid (by have := HR1.out; rw [if_neg (by simp)] at this; exact this)
  go_wp2_with fail
  refine (rnms_of _ T L _ HT1 hn HOK.out HL).mono ?_
  rintro e w3 ⟨nv, rfl, hnl, hb3⟩
  have HNL := Lib.hid hnl
  have HB3 := Lib.hid (below_keep hb3 HB1.out)
  have HS3 := Lib.hid (HS1.out.keep hb3)
  have HT3 := Lib.hid (HT1.out.keep hb3)
  clear c0 c1 c2 r0 r1 r2 f0 f1 f2 hb3
  obtain ⟨⟨c0, c1, c2⟩, ⟨r0, r1, r2⟩, f0, f1, f2⟩ := HS3.out.cells
  clear hnl
  go_wp2_with fail
  refine (rhas2 nv _ L qa _ HNL HQA).mono ?_
  rintro e w4 ⟨rfl, rfl⟩
  cases qa
  case false =>
    have HN : Hid (15 = E) := Lib.hid (by have := HR2.out; rw [if_pos rfl] at this; exact this)
    have HO : Hid (renO T a.data.toList b.data.toList = ⟨[], false, []⟩) := Lib.hid (renO_bad (by rw [hE.out, ← HN.out]; decide))
    obtain rfl := HN.out
    go_wp2
    exact bodyPost_ret (v := .tuple #[.agg #[.string ⟨#[]⟩, .bool false, .slice none 0 0], .int .i64 15]) (by simp [results, Try.results24, go_sem, r0, r1, r2]) rfl ⟨_, rfl, by rw [HO.out]; exact trv_none _, ((HB3.out.setCell (by show w.heap.size ≤ w.heap.size + 1; omega) _).setCell (by show w.heap.size ≤ w.heap.size + 1; omega) _).setCell (by show w.heap.size ≤ w.heap.size + 1; omega) _⟩
  have HR3 : Hid ((if qb = true ∨ qc = true then (6 : Int) else 0) = E) := Lib.hid (by have := HR2.out; rw [if_neg (by simp)] at this; exact this)
  go_wp2_with fail
  refine (rhas2 nv _ L qb _ HNL HQB).mono ?_
  rintro e w5 ⟨rfl, rfl⟩
  cases qb
  case true =>
    have HN : Hid (6 = E) := Lib.hid (by have := HR3.out; rw [if_pos (Or.inl rfl)] at this; exact this)
    have HO : Hid (renO T a.data.toList b.data.toList = ⟨[], false, []⟩) := Lib.hid (renO_bad (by rw [hE.out, ← HN.out]; decide))
    obtain rfl := HN.out
    go_wp2
    exact bodyPost_ret (v := .tuple #[.agg #[.string ⟨#[]⟩, .bool false, .slice none 0 0], .int .i64 6]) (by simp [results, Try.results24, go_sem, r0, r1, r2]) rfl ⟨_, rfl, by rw [HO.out]; exact trv_none _, ((HB3.out.setCell (by show w.heap.size ≤ w.heap.size + 1; omega) _).setCell (by show w.heap.size ≤ w.heap.size + 1; omega) _).setCell (by show w.heap.size ≤ w.heap.size + 1; omega) _⟩
  go_wp2_with fail
  refine (rclu_of _ T C _ HT3 hn HC).mono ?_
  rintro e w6 ⟨cv, rfl, hnc, hb6⟩
  have HNC := Lib.hid hnc
  have HB6 := Lib.hid (below_keep hb6 HB3.out)
  have HS6 := Lib.hid (HS3.out.keep hb6)
  have HT6 := Lib.hid (HT3.out.keep hb6)
  clear c0 c1 c2 r0 r1 r2 f0 f1 f2 hb6
  obtain ⟨⟨c0, c1, c2⟩, ⟨r0, r1, r2⟩, f0, f1, f2⟩ := HS6.out.cells
  clear hnc
  go_wp2_with fail
  refine (rhas2 cv _ C qc _ HNC HQC).mono ?_
  rintro e w7 ⟨rfl, rfl⟩
  cases qc
  case true =>
    have HN : Hid (6 = E) := Lib.hid (by have := HR3.out; rw [if_pos (Or.inr rfl)] at this; exact this)
    have HO : Hid (renO T a.data.toList b.data.toList = ⟨[], false, []⟩) := Lib.hid (renO_bad (by rw [hE.out, ← HN.out]; decide))
    obtain rfl := HN.out
    go_wp2
    exact bodyPost_ret (v := .tuple #[.agg #[.string ⟨#[]⟩, .bool false, .slice none 0 0], .int .i64 6]) (by simp [results, Try.results24, go_sem, r0, r1, r2]) rfl ⟨_, rfl, by rw [HO.out]; exact trv_none _, ((HB6.out.setCell (by show w.heap.size ≤ w.heap.size + 1; omega) _).setCell (by show w.heap.size ≤ w.heap.size + 1; omega) _).setCell (by show w.heap.size ≤ w.heap.size + 1; omega) _⟩
  have HN : Hid (0 = E) := Lib.hid (by have := HR3.out; rw [if_neg (by simp)] at this; exact this)
  have HO : Hid (renO T a.data.toList b.data.toList = renT a.data.toList b.data.toList T) := Lib.hid (by unfold renO; rw [if_pos (by rw [hE.out, ← HN.out])])
  obtain rfl := HN.out
  have HSt : Hid (Sts w6 bv T.body) := Lib.hid (by obtain ⟨_, e, _, hs⟩ := HT6.out; cases e; exact hs)
  have HRR : Hid (∀ W, Below w6.heap.size w6 W → Calls Try.prog 46 #[bv, .string a, .string b] W (RrOut (renL a.data.toList b.data.toList T.body) W)) := Lib.hid (fun W hW => by
    have := rr_ok a.data.toList b.data.toList (by rw [b_size]; exact HB.out) T.body W bv (Lib.hid (HSt.out.keep hW)) hn HOK.out
    rw [bb_list, bb_list] at this
    exact this)
  go_wp2_with fail
  go_region_law ((go_simp; go_at_call 46; refine (HRR.out _ (by repeat (first | (with_reducible exact Below.refl _ _) | (with_reducible refine b_drew ?_)))).mono ?_; rintro e w8 ⟨v8, rfl, hself, ⟨o8, p8, rfl⟩, hb8⟩; have hB8 : Below w6.heap.size w6 w8 := below_keep hb8 (by repeat (first | (with_reducible exact Below.refl _ _) | (with_reducible refine b_drew ?_))); have c0 := cell_keep hB8 c0; have c1 := cell_keep hB8 c1; have r0 := cell_keep hB8 r0; have r1 := cell_keep hB8 r1; have r2 := cell_keep hB8 r2; have f0 := blk_free (o := 0) (blk_below HS6.out.2 hB8); have f1 := blk_free (o := 1) (blk_below HS6.out.2 hB8); have f2 := blk_free (o := 2) (blk_below HS6.out.2 hB8)))
  all_goals
    have hlt6 : w.heap.size + 1 < w6.heap.size := blk_lt HS6.out.2
    have HB8 := Lib.hid (below_keep hB8 HB6.out)
    have hfin : TrV (((w8.setCell ⟨w.heap.size + 1, 0, none⟩ (.string X)).setCell ⟨w.heap.size + 1, 1, none⟩ (.bool d)).setCell ⟨w.heap.size + 1, 2, none⟩ (.slice o8 (renL a.data.toList b.data.toList T.body).length p8)) (.agg #[.string X, .bool d, .slice o8 (renL a.data.toList b.data.toList T.body).length p8]) (renO T a.data.toList b.data.toList) := by
      rw [HO.out]
      refine ⟨.slice o8 (renL a.data.toList b.data.toList T.body).length p8, by rw [← HXD.out.1, ← HXD.out.2.1]; rfl, HXD.out.2.2, ?_⟩
      refine hself _ (fun q h1 h2 => ?_)
      have h1 : w6.heap.size ≤ q := h1
      rw [Below.heap_setCell _ _ _ _ (by show q ≠ w.heap.size + 1; omega), Below.heap_setCell _ _ _ _ (by show q ≠ w.heap.size + 1; omega), Below.heap_setCell _ _ _ _ (by show q ≠ w.heap.size + 1; omega)]
    have HFIN := Lib.hid hfin
    clear hfin hself hB8 hlt6
    go_wp2
    exact bodyPost_ret (v := .tuple #[.agg #[.string X, .bool d, .slice o8 (renL a.data.toList b.data.toList T.body).length p8], .int .i64 0]) (by simp [results, Try.results24, go_sem, r0, r1, r2]) rfl ⟨_, rfl, HFIN.out, ((HB8.out.setCell (by show w.heap.size ≤ w.heap.size + 1; omega) _).setCell (by show w.heap.size ≤ w.heap.size + 1; omega) _).setCell (by show w.heap.size ≤ w.heap.size + 1; omega) _⟩
theorem refRen : RefRen := fun v T a b E w h hf ha hb hE => rrename_of v T a b E w h (few_spec hf).1 (few_spec hf).2 ha hb hE
end Go.Proofs.Ytgnhpjbkbefgpaa.tre
