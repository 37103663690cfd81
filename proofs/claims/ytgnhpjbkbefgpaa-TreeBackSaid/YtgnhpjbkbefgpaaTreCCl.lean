/-
  What Clusters of the landed tree returns. Condition: a tree in memory, of at most 600 statements.
-/
import Derived.Test.YtgnhpjbkbefgpaaTreVld
import Derived.Test.YtgnhpjbkbefgpaaTreClu
import Derived.Deep.AppendLies
namespace Go.Proofs.Ytgnhpjbkbefgpaa.tre
open Go.RowKit Go.Shelf lex

/-- A list of names in a box: the row lies in a block of its own, from B on. -/
def bxN (W : World) (c B : Nat) (C : List (List UInt8)) : Prop := ∃ v, bx W c v ∧ Nrow W B v C
theorem nrow_blk {w : World} {B : Nat} {v : Value} {C : List (List UInt8)} (h : Nrow w B v C) {g : Nat} (hg : v.ownBlock = some g) : B ≤ g ∧ g < w.heap.size := by
  rcases h.2 with ⟨rfl, _⟩ | ⟨g', cap, cur, rfl, hb, hc, _⟩
  · cases hg
  · obtain rfl : g' = g := Option.some.inj hg
    refine ⟨hb, ?_⟩
    rcases Nat.lt_or_ge g' w.heap.size with h | h
    · exact h
    · rw [Array.getElem?_eq_none (by omega)] at hc; cases hc
theorem nrow_drew {w : World} {B : Nat} {v : Value} {C : List (List UInt8)} (h : Nrow w B v C) : Nrow w.drew B v C := own_keep h (Below.refl _ _).drew
theorem nrow_alloc {w : World} {B : Nat} {v : Value} {C : List (List UInt8)} (o : Obj) (h : Nrow w B v C) : Nrow (w.alloc o) B v C := World.ownsRow.alloc h o
def cluX (x : Sa × Int) (C : List (List UInt8)) : List (List UInt8) × Bool := (C ++ (if x.1.s.kind = 5 then [x.1.s.name] else []), true)
/-- A visitor that keeps a list of names. -/
def VNam (W0 : World) (c B : Nat) (g : Nat) (lb : Array Value) (f : Sa × Int → List (List UInt8) → List (List UInt8) × Bool) (more : World → List (List UInt8) → Prop) (m : Nat) : Visit (List (List UInt8)) where
  f := f
  I := fun C W => Below W0.heap.size W0 W ∧ bxN W c B C ∧ more W C
  In := fun x => memX W0 x
  g := g
  lb := lb
  Bd := fun C n => C.length + m * n ≤ 25000
set_option maxRecDepth 100000 in
set_option maxHeartbeats 8000000 in
theorem vclu_ok (W0 : World) (c B : Nat) (hc : W0.heap.size ≤ c) (hB0 : c < B) : (VNam W0 c B 39 #[.pointer (some ⟨c, 0, none⟩)] cluX (fun W _ => B ≤ W.heap.size) 1).Ok where
  eg := enters_of Try.func39 (by kernel_rfl) rfl
  kids := fun _ h => memX_kids h
  skel := fun _ _ h _ hx => memX_skel h.1 hx
  mono := fun C m n h hb => by show C.length + 1 * m ≤ 25000; have : C.length + 1 * n ≤ 25000 := hb; omega
  less := fun x l C n _ hb => by
    show (C ++ (if x.s.kind = 5 then [x.s.name] else [])).length + 1 * n ≤ 25000
    have : C.length + 1 * (n + 1) ≤ 25000 := hb
    rw [List.length_append]
    split <;> simp <;> omega
  run := by
    intro x l C W hx h0 h1 hbd hI
    obtain ⟨hB, ⟨v, hb, hrow⟩, hbs⟩ := hI
    have hCl : C.length + 1 * 1 ≤ 25000 := hbd
    have HB := Lib.hid hB
    have HX := Lib.hid hb
    have HR := Lib.hid hrow
    obtain ⟨k0, k1, -⟩ := (stAt_eq _ _ _).1 (memX_at hB hx)
    show Calls Try.prog 39 #[.pointer (some x.A), .int .i64 l, .pointer (some ⟨c, 0, none⟩)] W fun e w' => e = .returned (.bool true) ∧ Below W0.heap.size W0 w' ∧ bxN w' c B (C ++ (if x.s.kind = 5 then [x.s.name] else [])) ∧ B ≤ w'.heap.size
    obtain ⟨k, hk⟩ : ∃ k, x.s.kind = k := ⟨_, rfl⟩
    obtain ⟨X, hX⟩ : ∃ X, bb x.s.name = X := ⟨_, rfl⟩
    rw [hk] at k0 ⊢
    rw [hX] at k1
    have HXE := Lib.hid hX
    obtain ⟨c0, c1⟩ := hb
    have hAl := World.block_lt_of_cell? W _ k0
    clear hx hB hk hX hrow hbd
    by_cases h5 : k = 5
    · subst h5
      rw [if_pos rfl]
      obtain ⟨i0, hi0, hz0, hz1, hz2⟩ := info_str1
      have hcl : c < W.heap.size := World.block_lt_of_cell? W _ c0
      have hfa : v.ownBlock ≠ some c := fun e => by have := (nrow_blk HR.out e).1; omega
      go_enter Try.func39, Try.ntmps39
      go_wp2_with fail
      go_region_law ((refine step_append_lies _ (by rfl) _ _ _ (by rfl) B 9 i0 _ 1 16 Try.underlying31 hi0 hz0 hz1 hz2 rfl (by omega) v C.length (nmC C) (by rfl) (by repeat (first | exact HR.out | refine nrow_drew ?_ | refine nrow_alloc _ ?_)) ⟨W.heap.size, 0, none⟩ 1 1 [.string X] (by rfl) (by rfl) (by exact World.news_of_block (cs := #[.string X]) (t := 9) (fr := (0, 0)) (heap_alloc_new _ _)) (by simp [Value.oneCell']) (by omega) (by unfold maxLen; omega) (by omega) (by simp; omega) (W.heap.size + 1) (by simp) ?_; intro gg cap w1 hown1 hgrow hat hlt; have d0 : w1.cell? ⟨c, 0, none⟩ = some v := (by rw [hgrow.cell_far _ (by simp; omega) (Ne.symm hfa)]; exact cell_keep (by repeat (first | (with_reducible exact Below.refl _ _) | (with_reducible refine b_drew ?_) | (with_reducible refine b_alloc ?_))) c0); have d1 : w1.frozen? ⟨c, 0, none⟩ = false := (by rw [hgrow.frozen_far _ (by simp; omega) (Ne.symm hfa)]; exact fr_keep (by repeat (first | (with_reducible exact Below.refl _ _) | (with_reducible refine b_drew ?_) | (with_reducible refine b_alloc ?_))) c0 c1)))
      all_goals
        have hW1 := (show Below W0.heap.size W0 _ from by repeat (first | exact HB.out | (with_reducible refine b_drew ?_) | (with_reducible refine b_alloc ?_))).grown hgrow (by have := HB.out.size; simp; omega) (fun q hq => by have := (nrow_blk HR.out hq).1; omega)
        have hsz := hgrow.size
        have hrow1 : Nrow w1 B (.slice (some ⟨gg, 0, none⟩) (C.length + 1) cap) (C ++ [x.s.name]) := by
          unfold Nrow; rw [nmC_snoc, List.length_append, HXE.out]; exact hown1
        simp at hsz
        clear hgrow hat hlt hown1
        go_wp2
        go_ret
        exact ⟨rfl, hW1.setCell hc _, ⟨_, bx_set ⟨d0, d1⟩, ownsRow_setCell_below hrow1 hB0 _⟩, by simp; omega⟩
    · rw [if_neg h5, List.append_nil]
      have b5 : (k == 5) = false := by rw [beq_eq_false_iff_ne]; exact h5
      go_enter Try.func39, Try.ntmps39
      go_wp2
      go_ret
      exact ⟨rfl, HB.out, ⟨v, HX.out, HR.out⟩, hbs⟩
theorem run_clu (l : List (Sa × Int)) (C : List (List UInt8)) : runL cluX l C = (C ++ cluL (l.map fun x => (x.1.s, x.2)), true) := by
  induction l generalizing C with
  | nil => simp [runL, cluL]
  | cons x t ih =>
    rw [runL_cons]
    show (if true = true then runL cluX t (C ++ (if x.1.s.kind = 5 then [x.1.s.name] else [])) else _) = _
    rw [if_pos rfl, ih, List.append_assoc]
    rfl
theorem wclu_of (W0 : World) (c B : Nat) (hc : W0.heap.size ≤ c) (hB0 : c < B) (L : List Sa) (l : List St) (v : Value) (w : World) (hl : Hid (L.map Sa.s = l)) (hS : Hid (SlX v L)) (hM : Hid (memXL W0 L)) (hn : cnt l ≤ 600) (hB : Hid (Below W0.heap.size W0 w)) (hb : Hid (bx w c (.slice none 0 0))) (hz : B ≤ w.heap.size) :
    Calls Try.prog 28 #[v, .int .i64 0, .func (.func 39) #[] #[.pointer (some ⟨c, 0, none⟩)]] w fun e w' => e = .returned (.bool true) ∧ Below W0.heap.size W0 w' ∧ bxN w' c B (cluL (preL l 0)) ∧ B ≤ w'.heap.size := by
  refine walk_of _ (vclu_ok W0 c B hc hB0) L v 0 [] w (cluL (preL l 0)) true hS (Lib.hid ((memXL_iff _ _).1 hM.out)) (Int.le_refl _) (by rw [hl.out]; omega) (by rw [hl.out]; exact hn) (Lib.hid ?_) (Lib.hid ⟨hB.out, ⟨_, hb.out, ?_⟩, hz⟩) (Lib.hid ?_)
  · show ([] : List (List UInt8)).length + 1 * cnt (L.map Sa.s) ≤ 25000
    rw [hl.out, List.length_nil]; omega
  · exact ⟨by simp [nmC], Or.inl ⟨rfl, rfl⟩⟩
  · refine (run_clu (preXL L 0) []).trans ?_
    rw [hS.out.pre, hl.out, List.nil_append]
theorem bxN_nl {W : World} {c B : Nat} {C : List (List UInt8)} (h : bxN W c B C) : ∃ v, W.cell? ⟨c, 0, none⟩ = some v ∧ Nl W v C := by
  obtain ⟨v, h1, h2⟩ := h; exact ⟨v, h1.1, Nrow.nl h2⟩
theorem nl_nil (w : World) : Nl w (.slice none 0 0) [] := ⟨none, 0, rfl, Nat.le_refl _, by decide, fun h => absurd h (by simp)⟩
set_option maxRecDepth 100000 in
set_option maxHeartbeats 8000000 in
theorem clusters_of (v : Value) (T : Tr) (L : List (List UInt8)) (w : World) (h : Hid (TrV w v T)) (hn : cnt T.body ≤ 600) (hL : Hid (clustersT T = L)) :
    Calls Try.prog 19 #[v] w (NlOut L w) := by
  obtain ⟨bv, rfl, _, hs⟩ := h.out
  have hr := hL.out
  unfold clustersT at hr
  obtain ⟨E, hE⟩ : ∃ E, validT T = E := ⟨_, rfl⟩
  have HE := Lib.hid hE
  rw [hE] at hr
  obtain ⟨X, hX⟩ : ∃ X, bb T.name = X := ⟨_, rfl⟩
  obtain ⟨d, hd⟩ : ∃ d, T.dir = d := ⟨_, rfl⟩
  have hT : Hid (TrV w (.agg #[.string X, .bool d, bv]) T) := Lib.hid (by rw [← hX, ← hd]; exact h.out)
  rw [hX, hd]
  have hB := al1 w (.cells #[.string X, .bool d, bv] 24)
  have h3 := at3_new w X d bv 24
  have HS := Lib.hid (hs.keep hB)
  have HT1 := Lib.hid (hT.out.keep hB)
  have HB0 := Lib.hid hB
  obtain ⟨c0, c1, c2⟩ := id h3
  have HR := Lib.hid hr
  clear hL hr hX hE hd hs h hT hB
  go_enter Try.func19, Try.ntmps19
  go_wp2_with fail
  refine (valid_of _ T E _ HT1 hn HE).mono ?_
  rintro e w2 ⟨rfl, hb2⟩
  have hB2 := below_keep hb2 HB0.out
  have h3 := at3_keep h3 hb2
  clear c0 c1 c2
  obtain ⟨c0, c1, c2⟩ := id h3
  have hs2 := HS.out.keep hb2
  by_cases hE0 : E = 0
  case neg =>
    have HN : Hid ([] = L) := Lib.hid (by have := HR.out; rw [if_neg hE0] at this; exact this)
    obtain rfl := HN.out
    have b0 : (E != 0) = true := by rw [bne_iff_ne]; exact hE0
    clear hE0 hs2
    go_wp2
    go_ret
    exact ⟨_, rfl, nl_nil _, hB2⟩
  subst hE0
  have HN : Hid (cluL (preL T.body 0) = L) := Lib.hid (by have := HR.out; rw [if_pos rfl] at this; exact this)
  obtain ⟨K, e1, e2, e3⟩ := sts_sa _ _ _ hs2
  have HB1 := al1 w2 (.cells #[.slice none 0 0] 31)
  have hbx := bx_new w2 (.slice none 0 0) 31
  have hz3 := World.block_lt_of_cell? w2 _ c0
  change w.heap.size < w2.heap.size at hz3
  have hn3 : w.heap.size ≠ w2.heap.size := by omega
  have C := Lib.hid (wclu_of w2 w2.heap.size (w2.heap.size + 1) (Nat.le_refl _) (by omega) K T.body bv _ (Lib.hid e1) (Lib.hid e2) (Lib.hid e3) hn (Lib.hid HB1) (Lib.hid hbx) (by simp))
  clear hs2 e1 e2 e3 HB1 hbx
  go_wp2_with fail
  refine C.out.mono ?_
  rintro e w4 ⟨rfl, hb4, hx4, _⟩
  rw [HN.out] at hx4
  obtain ⟨v4, g0, hnl⟩ := bxN_nl hx4
  have HNL := Lib.hid hnl
  clear hx4 hnl
  go_wp2
  go_ret
  exact ⟨_, rfl, HNL.out, below_keep hb4 hB2⟩
end Go.Proofs.Ytgnhpjbkbefgpaa.tre
