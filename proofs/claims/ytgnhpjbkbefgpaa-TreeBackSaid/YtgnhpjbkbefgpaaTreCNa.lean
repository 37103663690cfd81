/-
  What Names of the landed tree returns, the function as a whole. Condition: a tree in memory, of at most 600 statements with at most 40 refs each.
-/
import Derived.Test.YtgnhpjbkbefgpaaTreCNm
import Derived.Laws.EntriesVeiled
namespace Go.Proofs.Ytgnhpjbkbefgpaa.tre
open Go.RowKit Go.Shelf lex

theorem run_nam (l : List (Sa × Int)) (C : List (List UInt8)) : runL namX l C = ((nmsL (l.map fun x => (x.1.s, x.2))).foldl addN C, true) := by
  induction l generalizing C with
  | nil => simp [runL, nmsL]
  | cons x t ih =>
    rw [runL_cons]
    show (if true = true then runL namX t ((nmsS x.1.s).foldl addN C) else _) = _
    rw [if_pos rfl, ih]
    unfold nmsL
    rw [List.map_cons, List.flatMap_cons, List.foldl_append]
theorem wnms_of (W0 : World) (b : NB) (hb : b.ok W0) (L : List Sa) (l : List St) (v : Value) (w : World) (hl : Hid (L.map Sa.s = l)) (hS : Hid (SlX v L)) (hM : Hid (memXL W0 L)) (hn : cnt l ≤ 600) (hok : okL l) (hI : Hid (NSt W0 b [] w)) :
    Calls Try.prog 28 #[v, .int .i64 0, .func (.func 37) #[] #[.pointer (some ⟨b.a, 0, none⟩)]] w fun e w' => e = .returned (.bool true) ∧ NSt W0 b (uniq (nmsL (preL l 0))) w' := by
  refine walk_of _ (vnms_ok W0 b hb) L v 0 [] w (uniq (nmsL (preL l 0))) true hS (Lib.hid fun x hx => ⟨(memXL_iff _ _).1 hM.out x hx, hS.out.ok x hx, okL_mem hok x.s (by rw [← hl.out]; exact List.mem_map.2 ⟨x, hx, rfl⟩)⟩) (Int.le_refl _) (by rw [hl.out]; omega) (by rw [hl.out]; exact hn) (Lib.hid ?_) hI (Lib.hid ?_)
  · show ([] : List (List UInt8)).length + 41 * cnt (L.map Sa.s) ≤ 25000
    rw [hl.out, List.length_nil]; omega
  · refine (run_nam (preXL L 0) []).trans ?_
    rw [hS.out.pre, hl.out]
    rfl
theorem cell_new1 (w : World) (v : Value) (t : TypeId) : (w.alloc (.cells #[v] t)).cell? ⟨w.heap.size, 0, none⟩ = some v := (bx_new w v t).1
set_option maxRecDepth 100000 in
set_option maxHeartbeats 8000000 in
theorem nst_start (w : World) (t1 t2 t3 : TypeId) : NSt w ⟨w.heap.size, w.heap.size + 1, w.heap.size + 1 + 1, w.heap.size + 1 + 1 + 1, w.heap.size + 1 + 1 + 1 + 1⟩ [] ((((w.alloc (.cells #[.slice none 0 0] t1)).alloc (.map #[] 0)).alloc (.cells #[.map (some (w.heap.size + 1))] t2)).alloc (.cells #[.func (.func 36) #[] #[.pointer (some ⟨w.heap.size + 1 + 1, 0, none⟩), .pointer (some ⟨w.heap.size, 0, none⟩)]] t3)) := by
  obtain ⟨A1, h1⟩ : ∃ A, w.alloc (.cells #[.slice none 0 0] t1) = A := ⟨_, rfl⟩
  have s1 : A1.heap.size = w.heap.size + 1 := by rw [← h1]; simp
  have b1 : Below w.heap.size w A1 := by rw [← h1]; exact al1 _ _
  have f1 : bx A1 w.heap.size (.slice none 0 0) := by rw [← h1]; exact bx_new _ _ _
  obtain ⟨A2, h2⟩ : ∃ A, A1.alloc (.map #[] 0) = A := ⟨_, rfl⟩
  have s2 : A2.heap.size = w.heap.size + 1 + 1 := by rw [← h2, ← s1]; simp
  have b2 : Below A1.heap.size A1 A2 := by rw [← h2]; exact al1 _ _
  have f2 : mSet A2 (w.heap.size + 1) [] := by rw [← h2, ← s1]; exact mSet_made _
  obtain ⟨A3, h3⟩ : ∃ A, A2.alloc (.cells #[.map (some (w.heap.size + 1))] t2) = A := ⟨_, rfl⟩
  have s3 : A3.heap.size = w.heap.size + 1 + 1 + 1 := by rw [← h3, ← s2]; simp
  have b3 : Below A2.heap.size A2 A3 := by rw [← h3]; exact al1 _ _
  have f3 : A3.cell? ⟨w.heap.size + 1 + 1, 0, none⟩ = some (.map (some (w.heap.size + 1))) := by rw [← h3, ← s2]; exact cell_new1 _ _ _
  rw [h1, h2, h3]
  have b4 : Below A3.heap.size A3 (A3.alloc (.cells #[.func (.func 36) #[] #[.pointer (some ⟨w.heap.size + 1 + 1, 0, none⟩), .pointer (some ⟨w.heap.size, 0, none⟩)]] t3)) := al1 _ _
  have f4 := cell_new1 A3 (.func (.func 36) #[] #[.pointer (some ⟨w.heap.size + 1 + 1, 0, none⟩), .pointer (some ⟨w.heap.size, 0, none⟩)]) t3
  rw [s3] at f4
  refine ⟨below_keep b4 (below_keep b3 (below_keep b2 b1)), ⟨.slice none 0 0, bx_keep (bx_keep (bx_keep f1 b2) b3) b4, ⟨by simp [nmC], Or.inl ⟨rfl, rfl⟩⟩⟩, cell_keep b4 f3, mSet_keep (mSet_keep f2 b3) b4, f4, ?_⟩
  show w.heap.size + 1 + 1 + 1 + 1 ≤ _
  rw [World.size_alloc, s3]; exact Nat.le_refl _
set_option maxRecDepth 100000 in
set_option maxHeartbeats 8000000 in
theorem names_of (v : Value) (T : Tr) (L : List (List UInt8)) (w : World) (h : Hid (TrV w v T)) (hn : cnt T.body ≤ 600) (hok : okL T.body) (hL : Hid (namesT T = L)) :
    Calls Try.prog 17 #[v] w (NlOut L w) := by
  obtain ⟨bv, rfl, _, hs⟩ := h.out
  have hr := hL.out
  unfold namesT at hr
  obtain ⟨E, hE⟩ : ∃ E, validT T = E := ⟨_, rfl⟩
  have HE := Lib.hid hE
  rw [hE] at hr
  obtain ⟨X, hX⟩ : ∃ X, bb T.name = X := ⟨_, rfl⟩
  obtain ⟨d, hd⟩ : ∃ d, T.dir = d := ⟨_, rfl⟩
  have hT : Hid (TrV w (.agg #[.string X, .bool d, bv]) T) := Lib.hid (by rw [← hX, ← hd]; exact h.out)
  rw [hX, hd]
  have hB := al1 w (.cells #[.string X, .bool d, bv] 24)
  have h3 := at3_new w X d bv 24
  have HS := Lib.hid (hs.keep hB)
  have HT1 := Lib.hid (hT.out.keep hB)
  have HB0 := Lib.hid hB
  have HOK := Lib.hid hok
  obtain ⟨c0, c1, c2⟩ := id h3
  have HR := Lib.hid hr
  clear hL hr hX hE hd hs h hT hB hok
  go_enter Try.func17, Try.ntmps17
  go_wp2_with fail
  refine (valid_of _ T E _ HT1 hn HE).mono ?_
  rintro e w2 ⟨rfl, hb2⟩
  have hB2 := below_keep hb2 HB0.out
  have h3 := at3_keep h3 hb2
  clear c0 c1 c2
  obtain ⟨c0, c1, c2⟩ := id h3
  have hs2 := HS.out.keep hb2
  by_cases hE0 : E = 0
  case neg =>
    have HN : Hid ([] = L) := Lib.hid (by have := HR.out; rw [if_neg hE0] at this; exact this)
    obtain rfl := HN.out
    have b0 : (E != 0) = true := by rw [bne_iff_ne]; exact hE0
    clear hE0 hs2
    go_wp2
    go_ret
    exact ⟨_, rfl, nl_nil _, hB2⟩
  subst hE0
  have HN : Hid (uniq (nmsL (preL T.body 0)) = L) := Lib.hid (by have := HR.out; rw [if_pos rfl] at this; exact this)
  obtain ⟨K, e1, e2, e3⟩ := sts_sa _ _ _ hs2
  have hz3 := World.block_lt_of_cell? w2 _ c0
  change w.heap.size < w2.heap.size at hz3
  have hn3 : w.heap.size ≠ w2.heap.size := by omega
  have C := Lib.hid (wnms_of w2 ⟨w2.heap.size, w2.heap.size + 1, w2.heap.size + 1 + 1, w2.heap.size + 1 + 1 + 1, w2.heap.size + 1 + 1 + 1 + 1⟩
    ⟨Nat.le_refl _, by show w2.heap.size ≤ w2.heap.size + 1; omega, by show w2.heap.size < w2.heap.size + 1 + 1 + 1 + 1; omega, by show w2.heap.size + 1 < w2.heap.size + 1 + 1 + 1 + 1; omega, by show w2.heap.size + 1 + 1 < w2.heap.size + 1 + 1 + 1 + 1; omega, by show w2.heap.size + 1 + 1 + 1 < w2.heap.size + 1 + 1 + 1 + 1; omega,
      by show w2.heap.size ≠ w2.heap.size + 1; omega, by show w2.heap.size ≠ w2.heap.size + 1 + 1; omega, by show w2.heap.size ≠ w2.heap.size + 1 + 1 + 1; omega, by show w2.heap.size + 1 ≠ w2.heap.size + 1 + 1; omega, by show w2.heap.size + 1 ≠ w2.heap.size + 1 + 1 + 1; omega⟩
    K T.body bv _ (Lib.hid e1) (Lib.hid e2) (Lib.hid e3) hn HOK.out (Lib.hid (nst_start w2 31 55 56)))
  have c2w := cell_keep (nst_start w2 31 55 56).1 c2
  have n1 : w.heap.size ≠ w2.heap.size + 1 := by omega
  have n2 : w.heap.size ≠ w2.heap.size + 1 + 1 := by omega
  have n3 : w.heap.size ≠ w2.heap.size + 1 + 1 + 1 := by omega
  have hmm := @run_makeMap Try.prog
  clear hs2 e1 e2 e3
  go_wp2_with fail
  refine C.out.mono ?_
  rintro e w4 ⟨rfl, hN4⟩
  rw [HN.out] at hN4
  obtain ⟨v4, g0, hnl⟩ := bxN_nl hN4.2.1
  have HNL := Lib.hid hnl
  have HB4 := Lib.hid hN4.1
  clear hN4 hnl
  go_wp2
  go_ret
  exact ⟨_, rfl, HNL.out, below_keep HB4.out hB2⟩
end Go.Proofs.Ytgnhpjbkbefgpaa.tre
