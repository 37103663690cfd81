/-
  BoxUnions: for every list of boxes, a box and a number, Union and Inflate answer as the reference does, as the statement says. No condition.
-/
import Derived.Test.YtifliljlacmmlaaBoxSlice
import Derived.Test.YtifliljlacmmlaaBoxMake2
import Derived.Test.YtifliljlacmmlaaBoxAwake
import Derived.Deep.RegionHeld3
import Derived.Deep.DeepCutAuto
import Derived.Deep.CutBlock
namespace Go.Proofs.Ytifliljlacmmlaa.lunions
open Go.ChangeShapes Go.WideShapes Go.ChangeAt Go.RowKit

theorem far (ao : Option Addr) (n cap : Nat) (x y z u t : Int) (w : World) (h : (40 : Int) < n) :
    Calls Try.prog 6 #[.slice ao n cap, .agg #[.int .i64 x, .int .i64 y, .int .i64 z, .int .i64 u], .int .i64 t] w fun e w' => e = .returned (.bool true) ∧ Below w.heap.size w w' := by
  go_enter Try.func6, Try.ntmps6
  go_wp2_with fail
  refine (awake_any _).mono ?_
  rintro e w1 ⟨rfl, hb1⟩
  have hq1 := below_keep hb1 (al1 ..)
  go_wp2
  go_ret
  exact ⟨rfl, hq1⟩

/-- An operation whose guard says no, where its slot holds an earlier value. -/
theorem take_off1 {P : Program} {ops : Array Oper} {Q : Exit → Act → World → Prop} {md : Region.Mode} {S : World → Prop} {fuel : Nat} {listed : Array Bool} {a : Act} {w : World} (i k : Nat) (hd : (ops[i]?).map (·.dst) = some (some k))
    (hs : Region.noSelect ops = true) (hf : Region.free md ops listed i = true) (hr : (Region.ready md ops listed).contains i = true)
    (hQ : ∀ c (d : Tmp) v a w, Q (.panic c) (a.put (some d) v) w → Q (.panic c) a w) (hn : ∀ oi, ops[i]? = some oi → Region.wanted oi (yielded ops a.tmps) = false) (hS : S w)
    (h : wpAnyH P md ops Q S fuel (listed.setIfInBounds i true) ⟨a.tmps.setIfInBounds k undef, a.defers⟩ w) : wpAnyH P md ops Q S (fuel + 1) listed a w := by
  obtain ⟨oi, hi⟩ : ∃ oi, ops[i]? = some oi := by
    cases h : ops[i]? with
    | none => rw [h] at hd; cases hd
    | some o => exact ⟨o, rfl⟩
  have e : oi.dst = some k := by rw [hi] at hd; simpa using hd
  refine wpAnyH_take (v := undef) hi hs hf hr (fun c a w => by rw [e]; exact hQ c _ _ a w) (Or.inr ⟨hn oi hi, rfl⟩) hS ?_
  rw [e]
  exact h

theorem cell4_new (w : World) (a b c d : Value) (t : TypeId) : ∀ j u, [a, b, c, d][j]? = some u → (w.alloc (.cells #[a, b, c, d] t)).cell? ((⟨w.heap.size, 0, none⟩ : Addr).add j) = some u := by
  intro j u hj
  match j, hj with
  | 0, hj => simp at hj; subst hj; simp [Addr.add]
  | 1, hj => simp at hj; subst hj; simp [Addr.add]
  | 2, hj => simp at hj; subst hj; simp [Addr.add]
  | 3, hj => simp at hj; subst hj; simp [Addr.add]
  | (j + 4), hj => simp at hj

set_option maxRecDepth 100000 in
set_option maxHeartbeats 8000000 in
theorem near (ao : Option Addr) (n cap : Nat) (X Y Z U : Nat → Int) (x y z u t : Int) (w : World) (hn : n ≤ 40) (hs : Sl w (.slice ao n cap) n X Y Z U) (h0 : Hid (-9223372036854775808 ≤ t)) (h1 : Hid (t ≤ 9223372036854775807)) :
    Calls Try.prog 6 #[.slice ao n cap, .agg #[.int .i64 x, .int .i64 y, .int .i64 z, .int .i64 u], .int .i64 t] w fun e w' => e = .returned (.bool true) ∧ Below w.heap.size w w' := by
  obtain ⟨i0, hi, hz0, hz1, hz2⟩ := info_parts info_box
  obtain ⟨⟨f, a, b, c, d⟩, hu⟩ : ∃ s, uni X Y Z U n = s := ⟨_, rfl⟩
  obtain ⟨⟨i1, i2, i3, i4⟩, hin⟩ : ∃ s, infl x y z u t = s := ⟨_, rfl⟩
  have HU := Lib.hid hu
  have HU' : Hid (uni (fun i => X (n - 1 - i)) (fun i => Y (n - 1 - i)) (fun i => Z (n - 1 - i)) (fun i => U (n - 1 - i)) n = (f, (a, b, c, d))) := Lib.hid (by rw [uni_back, hu])
  have HIN := Lib.hid hin
  have HA : Hid (0 < n → ∃ A, ao = some A ∧ ∀ i, i < n → w.cell? (A.add (i * 4)) = some (.int .i64 (X i)) ∧ w.cell? ⟨(A.add (i * 4)).block, (A.add (i * 4)).off + 1, none⟩ = some (.int .i64 (Y i)) ∧
      w.cell? ⟨(A.add (i * 4)).block, (A.add (i * 4)).off + 2, none⟩ = some (.int .i64 (Z i)) ∧ w.cell? ⟨(A.add (i * 4)).block, (A.add (i * 4)).off + 3, none⟩ = some (.int .i64 (U i))) := by
    obtain ⟨ao', cap', he, _, hA⟩ := hs
    simp only [Value.slice.injEq] at he
    obtain ⟨rfl, _, rfl⟩ := he
    exact Lib.hid hA
  clear hu hin
  have hG := guard_box
  have hn' : (n : Int) ≤ 40 := by omega
  go_enter Try.func6, Try.ntmps6
  go_wp2_with fail
  have gB : Below w.heap.size w (w.alloc (.cells #[.int .i64 x, .int .i64 y, .int .i64 z, .int .i64 u] 23)) := al1 ..
  have g4 : at4 (w.alloc (.cells #[.int .i64 x, .int .i64 y, .int .i64 z, .int .i64 u] 23)) w.heap.size x y z u := at4_new w x y z u 23
  have gS : Sl (w.alloc (.cells #[.int .i64 x, .int .i64 y, .int .i64 z, .int .i64 u] 23)) (.slice ao n cap) n X Y Z U := Sl.keep (al1 ..) hs
  clear hs
  generalize w.alloc (.cells #[.int .i64 x, .int .i64 y, .int .i64 z, .int .i64 u] 23) = W1 at *
  go_loopw [7, 8] (fun s i wr => ∃ (k : Nat) (m : Int), k ≤ n ∧ m = (n : Int) - 1 - k ∧ i = .int .i64 m ∧ wr.ownsRow W1.heap.size 23 4 s k (flat (fun i => X (n - 1 - i)) (fun i => Y (n - 1 - i)) (fun i => Z (n - 1 - i)) (fun i => U (n - 1 - i)) k) ∧ Below W1.heap.size W1 wr) (fun _ i _ => (intOf i + 1).toNat)
  case atStart => exact ⟨0, (n : Int) - 1, Nat.zero_le _, by omega, rfl, World.ownsRow_nil _ _ _ _, Below.refl _ _⟩
  case round =>
    obtain ⟨k, m, hk, hm, rfl, hown, hB⟩ := hrel
    by_cases hlt : k < n
    · obtain ⟨j, rfl⟩ : ∃ j : Nat, m = j := ⟨n - 1 - k, by omega⟩
      have HJ : Hid (j = n - 1 - k) := Lib.hid (by omega)
      have hjn : (j : Int) < (n : Int) := by omega
      have hjk : j < n := by omega
      obtain ⟨A, rfl, hc⟩ := HA.out (by omega)
      obtain ⟨c0, c1, c2, c3⟩ := hc j hjk
      have hBw : Below w.heap.size w wr := below_keep hB gB
      have d0 := cell_later' hBw c0
      have d1 := cell_later' hBw c1
      have d2 := cell_later' hBw c2
      have d3 := cell_later' hBw c3
      clear hc c0 c1 c2 c3 hm
      have HO := Lib.hid hown
      clear hown
      go_wp2_with (at_builtin; refine wpList_append_own _ rfl (.tmp 22) (.tmp 27) 36 rfl W1.heap.size 23 i0 (.agg #[.int .i64 0, .int .i64 0, .int .i64 0, .int .i64 0]) 4 32 Try.underlying36 hi hz0 hz1 hz2 rfl (by decide) _ _ _ rfl (HO.out.alloc _) ⟨wr.heap.size, 0, none⟩ 1 1 [.int .i64 (X j), .int .i64 (Y j), .int .i64 (Z j), .int .i64 (U j)] rfl rfl (cell4_new _ _ _ _ _ _) (by intro v hv; simp at hv; rcases hv with rfl | rfl | rfl | rfl <;> rfl) (by unfold maxLen; omega) (by omega) (by have := hB.size; simp; omega) ?_; intro v3 w3 hown3 hgrow3 hnil3)
      go_roundw
      case rel =>
        refine ⟨k + 1, (j : Int) - 1, by omega, by have := HJ.out; omega, rfl, ?_, (hB.alloc (hB.size) _).grown hgrow3 (by have := hB.size; simp; omega) fun q hq => (HO.out.lt q hq).1⟩
        rw [flat_succ]
        have hj := HJ.out
        subst hj
        exact hown3
      case measure => simp [intOf]
    · obtain rfl : n = k := by omega
      obtain rfl : m = -1 := by omega
      have gSb := own_sl hown
      have hBw : Below w.heap.size w wr := below_keep hB gB
      have gSl := Sl.keep hB gS
      have g4r := at4_keep hB g4
      clear hown hm gS g4 gB hB
      go_wp2_with fail
      refine (union_of _ n X Y Z U f a b c d _ (by omega) gSl HU).mono ?_
      rintro e w2 ⟨rfl, hb2⟩
      have hz2' : w.heap.size < w2.heap.size := World.block_lt_of_cell? w2 _ (at4_keep hb2 g4r).1
      have q4 := at4_new w2 a b c d 23
      have q4r := at4_keep (al1 w2 (.cells #[.int .i64 a, .int .i64 b, .int .i64 c, .int .i64 d] 23)) (at4_keep hb2 g4r)
      have qSl := Sl.keep (al1 w2 (.cells #[.int .i64 a, .int .i64 b, .int .i64 c, .int .i64 d] 23)) (Sl.keep hb2 gSl)
      have qSb := Sl.keep (al1 w2 (.cells #[.int .i64 a, .int .i64 b, .int .i64 c, .int .i64 d] 23)) (Sl.keep hb2 gSb)
      have qB : Below w.heap.size w (w2.alloc (.cells #[.int .i64 a, .int .i64 b, .int .i64 c, .int .i64 d] 23)) := below_keep (al1 ..) (below_keep hb2 hBw)
      clear hb2 g4r gSl gSb hBw
      go_wp2_with fail
      generalize w2.alloc (.cells #[.int .i64 a, .int .i64 b, .int .i64 c, .int .i64 d] 23) = W3 at *
      obtain ⟨a0, a1, a2, a3⟩ := id q4
      obtain ⟨b0, b1, b2, b3⟩ := id q4r
      have hne1 := neq_box (Lib.hid ((eq4_iff a b c d a b c d).2 ⟨rfl, rfl, rfl, rfl⟩))
      have hne2 := neq_box (Lib.hid ((eq4_iff i1 i2 i3 i4 i1 i2 i3 i4).2 ⟨rfl, rfl, rfl, rfl⟩))
      go_region_held3 (fun w' => Below W3.heap.size W3 w' ∧ w'.cell? ⟨w2.heap.size, 0, none⟩ = some (.int .i64 a) ∧ w'.cell? ⟨w2.heap.size, 1, none⟩ = some (.int .i64 b) ∧ w'.cell? ⟨w2.heap.size, 2, none⟩ = some (.int .i64 c) ∧ w'.cell? ⟨w2.heap.size, 3, none⟩ = some (.int .i64 d) ∧ w'.cell? ⟨w.heap.size, 0, none⟩ = some (.int .i64 x) ∧ w'.cell? ⟨w.heap.size, 1, none⟩ = some (.int .i64 y) ∧ w'.cell? ⟨w.heap.size, 2, none⟩ = some (.int .i64 z) ∧ w'.cell? ⟨w.heap.size, 3, none⟩ = some (.int .i64 u) ∧ Sl w' (.slice ao n cap) n X Y Z U ∧ Sl w' u7 n (fun i => X (n - 1 - i)) (fun i => Y (n - 1 - i)) (fun i => Z (n - 1 - i)) (fun i => U (n - 1 - i)))
        (first
          | exact ⟨(Below.refl _ _).drew, a0, a1, a2, a3, b0, b1, b2, b3, qSl, qSb⟩
          | (go_split_ands
             exact ⟨below_keep (by assumption) (by assumption), cell_keep (by assumption) (by assumption), cell_keep (by assumption) (by assumption), cell_keep (by assumption) (by assumption), cell_keep (by assumption) (by assumption), cell_keep (by assumption) (by assumption), cell_keep (by assumption) (by assumption), cell_keep (by assumption) (by assumption), cell_keep (by assumption) (by assumption), Sl.keep (by assumption) (by assumption), Sl.keep (by assumption) (by assumption)⟩))
        (first
          | (go_at_call 25; go_split_ands; (with_reducible refine (runion_of _ n X Y Z U f a b c d _ (by omega) (by assumption) HU).mono ?_); rintro e w1 ⟨rfl, hb1⟩)
          | (go_at_call 24; go_split_ands; (with_reducible refine (union_of _ n (fun i => X (n - 1 - i)) (fun i => Y (n - 1 - i)) (fun i => Z (n - 1 - i)) (fun i => U (n - 1 - i)) f a b c d _ (by omega) (by assumption) HU').mono ?_); rintro e w1 ⟨rfl, hb1⟩)
          | (go_at_call 26; (with_reducible refine (infl_of _ _ _ _ _ _ _ _ _ _ HIN h0.out h1.out).mono ?_); rintro e w1 ⟨rfl, hb1⟩)
          | (go_at_call 27; (with_reducible refine (rinfl_of _ _ _ _ _ _ _ _ _ _ HIN).mono ?_); rintro e w1 ⟨rfl, hb1⟩))
      go_split_ands
      go_wp2_with fail
      go_loopw [10] (fun i wr => ∃ k : Nat, k ≤ n ∧ i = .int .i64 k ∧ Below W3.heap.size W3 wr) (fun i _ => n - (intOf i).toNat)
      case atStart => exact ⟨0, Nat.zero_le _, rfl, by assumption⟩
      case round =>
        obtain ⟨k, hk, rfl, hB3⟩ := hrel
        have hBw : Below w.heap.size w wr := below_keep hB3 qB
        have r4 := at4_keep hB3 q4
        clear q4 q4r qSl qSb a0 a1 a2 a3 b0 b1 b2 b3 hne1 hne2
        by_cases hlt : k < n
        · obtain ⟨A, rfl, hc⟩ := HA.out (by omega)
          obtain ⟨c0, c1, c2, c3⟩ := hc k hlt
          have d0 := cell_later' hBw c0
          have d1 := cell_later' hBw c1
          have d2 := cell_later' hBw c2
          have d3 := cell_later' hBw c3
          have hkn : (k : Int) < (n : Int) := by omega
          obtain ⟨e0, e1, e2, e3⟩ := id r4
          clear hc c0 c1 c2 c3 r4
          obtain ⟨p, hp⟩ : ∃ v, bvld (X k) (Y k) (Z k) (U k) = v := ⟨_, rfl⟩
          have HP := Lib.hid hp
          cases p
          case true =>
            have HI : Hid (insd (X k) (Y k) (Z k) (U k) a b c d = true) := Lib.hid (uni_holds HU.out hlt hp)
            clear hp
            go_wp2_with fail
            go_region_held3 (fun w' => Below wr.heap.size wr w' ∧ w'.cell? (A.add (k * 4)) = some (.int .i64 (X k)) ∧ w'.cell? ⟨(A.add (k * 4)).block, (A.add (k * 4)).off + 1, none⟩ = some (.int .i64 (Y k)) ∧ w'.cell? ⟨(A.add (k * 4)).block, (A.add (k * 4)).off + 2, none⟩ = some (.int .i64 (Z k)) ∧ w'.cell? ⟨(A.add (k * 4)).block, (A.add (k * 4)).off + 3, none⟩ = some (.int .i64 (U k)) ∧ w'.cell? ⟨w2.heap.size, 0, none⟩ = some (.int .i64 a) ∧ w'.cell? ⟨w2.heap.size, 1, none⟩ = some (.int .i64 b) ∧ w'.cell? ⟨w2.heap.size, 2, none⟩ = some (.int .i64 c) ∧ w'.cell? ⟨w2.heap.size, 3, none⟩ = some (.int .i64 d))
              (first
                | exact ⟨(Below.refl _ _).drew, d0, d1, d2, d3, e0, e1, e2, e3⟩
                | (go_split_ands
                   exact ⟨below_keep (by assumption) (by assumption), cell_later' (by assumption) (by assumption), cell_later' (by assumption) (by assumption), cell_later' (by assumption) (by assumption), cell_later' (by assumption) (by assumption), cell_later' (by assumption) (by assumption), cell_later' (by assumption) (by assumption), cell_later' (by assumption) (by assumption), cell_later' (by assumption) (by assumption)⟩))
              (first
                | (go_at_call 9; (with_reducible refine (bvalid_of _ _ _ _ _ _ HP).mono ?_); rintro e w1 ⟨rfl, hb1⟩)
                | (go_at_call 18; (with_reducible refine (insd_of _ _ _ _ _ _ _ _ _ _ HI).mono ?_); rintro e w1 ⟨rfl, hb1⟩))
            go_split_ands
            go_wp2
            go_roundw
            case rel => exact ⟨k + 1, by omega, by go_num, below_keep (w1 := wr) (by assumption) hB3⟩
            case measure => simp [intOf]; omega
          case false =>
            clear hp
            go_wp2_with fail
            refine wp_region_held_drew (S := (fun w' => Below wr.heap.size wr w' ∧ w'.cell? (A.add (k * 4)) = some (.int .i64 (X k)) ∧ w'.cell? ⟨(A.add (k * 4)).block, (A.add (k * 4)).off + 1, none⟩ = some (.int .i64 (Y k)) ∧ w'.cell? ⟨(A.add (k * 4)).block, (A.add (k * 4)).off + 2, none⟩ = some (.int .i64 (Z k)) ∧ w'.cell? ⟨(A.add (k * 4)).block, (A.add (k * 4)).off + 3, none⟩ = some (.int .i64 (U k)) ∧ w'.cell? ⟨w2.heap.size, 0, none⟩ = some (.int .i64 a) ∧ w'.cell? ⟨w2.heap.size, 1, none⟩ = some (.int .i64 b) ∧ w'.cell? ⟨w2.heap.size, 2, none⟩ = some (.int .i64 c) ∧ w'.cell? ⟨w2.heap.size, 3, none⟩ = some (.int .i64 d))) (by kernel_rfl) ⟨(Below.refl _ _).drew, d0, d1, d2, d3, e0, e1, e2, e3⟩ (fun hHeld => ?_)
            refine take_on 0 56 (.slice (some A) n cap) rfl (by kernel_rfl) (by kernel_rfl) (by kernel_rfl) (fun _ _ _ _ _ h => h) ?_ (by assumption) ?_
            · (rintro oi h; cases h; refine ⟨by rfl, ?_⟩; intro W hSw; try dsimp only at hSw
               go_simp)
            simp only [List.setIfInBounds_toArray, List.set_cons_zero, List.set_cons_succ]
            refine take_on 1 57 (.int .i64 (k)) rfl (by kernel_rfl) (by kernel_rfl) (by kernel_rfl) (fun _ _ _ _ _ h => h) ?_ (by assumption) ?_
            · (rintro oi h; cases h; refine ⟨by rfl, ?_⟩; intro W hSw; try dsimp only at hSw
               go_simp)
            simp only [List.setIfInBounds_toArray, List.set_cons_zero, List.set_cons_succ]
            refine take_on 2 58 (.pointer (some (A.add (k * 4)))) rfl (by kernel_rfl) (by kernel_rfl) (by kernel_rfl) (fun _ _ _ _ _ h => h) ?_ (by assumption) ?_
            · (rintro oi h; cases h; refine ⟨by rfl, ?_⟩; intro W hSw; try dsimp only at hSw
               go_simp)
            simp only [List.setIfInBounds_toArray, List.set_cons_zero, List.set_cons_succ]
            refine take_on 3 59 (.agg #[.int .i64 (X k), .int .i64 (Y k), .int .i64 (Z k), .int .i64 (U k)]) rfl (by kernel_rfl) (by kernel_rfl) (by kernel_rfl) (fun _ _ _ _ _ h => h) ?_ (by assumption) ?_
            · (rintro oi h; cases h; refine ⟨by rfl, ?_⟩; intro W hSw; try dsimp only at hSw
               go_simp)
            simp only [List.setIfInBounds_toArray, List.set_cons_zero, List.set_cons_succ]
            refine wpAnyH_ready (rs := [4]) (by kernel_rfl) (by simp) ?_
            refine AllReadyH.cons rfl (fun K hK => ?_) AllReadyH.nil
            go_simp
            go_at_call 9
            refine (bvalid_of _ _ _ _ _ _ HP).mono ?_
            rintro e w1 ⟨rfl, hb1⟩
            go_wp2_with fail
            refine hK.out _ _ ?_ (fun hHeld => ?_)
            · (go_split_ands
               exact ⟨below_keep (by assumption) (by assumption), cell_later' (by assumption) (by assumption), cell_later' (by assumption) (by assumption), cell_later' (by assumption) (by assumption), cell_later' (by assumption) (by assumption), cell_later' (by assumption) (by assumption), cell_later' (by assumption) (by assumption), cell_later' (by assumption) (by assumption), cell_later' (by assumption) (by assumption)⟩)
            clear hK K
            try simp only [List.setIfInBounds_toArray, List.set_cons_zero, List.set_cons_succ]
            refine take_on 5 61 (.bool false) rfl (by kernel_rfl) (by kernel_rfl) (by kernel_rfl) (fun _ _ _ _ _ h => h) ?_ (by assumption) ?_
            · (rintro oi h; cases h; refine ⟨by rfl, ?_⟩; intro W hSw; try dsimp only at hSw
               go_simp)
            simp only [List.setIfInBounds_toArray, List.set_cons_zero, List.set_cons_succ]
            refine take_off1 6 62 rfl (by kernel_rfl) (by kernel_rfl) (by kernel_rfl) (fun _ _ _ _ _ h => h) (by rintro oi h; cases h; rfl) (by assumption) ?_
            simp only [List.setIfInBounds_toArray, List.set_cons_zero, List.set_cons_succ]
            refine take_off1 7 63 rfl (by kernel_rfl) (by kernel_rfl) (by kernel_rfl) (fun _ _ _ _ _ h => h) (by rintro oi h; cases h; rfl) (by assumption) ?_
            simp only [List.setIfInBounds_toArray, List.set_cons_zero, List.set_cons_succ]
            refine take_off1 8 64 rfl (by kernel_rfl) (by kernel_rfl) (by kernel_rfl) (fun _ _ _ _ _ h => h) (by rintro oi h; cases h; rfl) (by assumption) ?_
            simp only [List.setIfInBounds_toArray, List.set_cons_zero, List.set_cons_succ]
            refine take_off1 9 65 rfl (by kernel_rfl) (by kernel_rfl) (by kernel_rfl) (fun _ _ _ _ _ h => h) (by rintro oi h; cases h; rfl) (by assumption) ?_
            simp only [List.setIfInBounds_toArray, List.set_cons_zero, List.set_cons_succ]
            refine take_off1 10 66 rfl (by kernel_rfl) (by kernel_rfl) (by kernel_rfl) (fun _ _ _ _ _ h => h) (by rintro oi h; cases h; rfl) (by assumption) ?_
            simp only [List.setIfInBounds_toArray, List.set_cons_zero, List.set_cons_succ]
            refine take_off1 11 67 rfl (by kernel_rfl) (by kernel_rfl) (by kernel_rfl) (fun _ _ _ _ _ h => h) (by rintro oi h; cases h; rfl) (by assumption) ?_
            simp only [List.setIfInBounds_toArray, List.set_cons_zero, List.set_cons_succ]
            refine take_off1 12 68 rfl (by kernel_rfl) (by kernel_rfl) (by kernel_rfl) (fun _ _ _ _ _ h => h) (by rintro oi h; cases h; rfl) (by assumption) ?_
            simp only [List.setIfInBounds_toArray, List.set_cons_zero, List.set_cons_succ]
            refine take_on 13 69 (.bool false) rfl (by kernel_rfl) (by kernel_rfl) (by kernel_rfl) (fun _ _ _ _ _ h => h) ?_ (by assumption) ?_
            · (rintro oi h; cases h; refine ⟨by rfl, ?_⟩; intro W hSw; try dsimp only at hSw
               go_simp)
            simp only [List.setIfInBounds_toArray, List.set_cons_zero, List.set_cons_succ]
            refine wpAnyH_done (by kernel_rfl) ?_ _
            go_split_ands
            go_wp2
            go_roundw
            case rel => exact ⟨k + 1, by omega, by go_num, below_keep (w1 := wr) (by assumption) hB3⟩
            case measure => simp [intOf]; omega
        · obtain rfl : n = k := by omega
          have hSn : Sl wr (.slice none 0 0) 0 (fun _ => 0) (fun _ => 0) (fun _ => 0) (fun _ => 0) := ⟨none, 0, rfl, Nat.le_refl _, fun h => absurd h (by omega)⟩
          have hzz := eql_box (Lib.hid ((eq4_iff 0 0 0 0 0 0 0 0).2 ⟨rfl, rfl, rfl, rfl⟩))
          clear r4
          go_wp2_with fail
          refine (union_of _ 0 (fun _ => 0) (fun _ => 0) (fun _ => 0) (fun _ => 0) false 0 0 0 0 _ (by omega) hSn (Lib.hid rfl)).mono ?_
          rintro e w8 ⟨rfl, hb8⟩
          go_wp2_with fail
          refine (awake_any _).mono ?_
          rintro e w9 ⟨rfl, hb9⟩
          go_wp2
          go_ret
          exact ⟨rfl, below_keep hb9 (below_keep hb8 hBw)⟩
theorem top (v : Value) (n : Nat) (X Y Z U : Nat → Int) (x y z u t : Int) (w : World) (hs : Sl w v n X Y Z U) (_hn : n ≤ maxLen) (h0 : -9223372036854775808 ≤ t) (h1 : t ≤ 9223372036854775807) :
    Calls Try.prog 6 #[v, .agg #[.int .i64 x, .int .i64 y, .int .i64 z, .int .i64 u], .int .i64 t] w fun e w' => e = .returned (.bool true) ∧ Below w.heap.size w w' := by
  obtain ⟨ao, cap, rfl, hc, hA⟩ := id hs
  by_cases h : n ≤ 40
  · exact near ao n cap X Y Z U x y z u t w h hs (Lib.hid h0) (Lib.hid h1)
  · exact far ao n cap x y z u t w (by omega)

set_option maxRecDepth 100000 in
theorem lifted (os : Os) (started : os.Started) (H : Type) (enc : TypeId × Value → H) :
    ReturnsInHanded {} Try.checked os 6 .any (Rows.boxUnionsSpec.pre6 enc Try.prog Try.f6 Rows.boxUnionsRow.domain false) (Rows.boxUnionsSpec.post enc Try.prog Try.f6 false true false false) := by
  refine returnsInHanded_of_change (C := Try.checked) own started (by kernel_rfl) Try.func6
    (ChangeSpec.witness6 (enc := enc) (C := Try.checked) false ⟨#[], #[.slice none 0 0, .agg #[.int .i64 0, .int .i64 0, .int .i64 0, .int .i64 0], .int .i64 0], []⟩ 8 (by kernel_rfl) (by kernel_rfl) (by kernel_rfl) (by kernel_rfl)) ?_
  intro W base args ds gs before hval0 hW _ _
  have hval : ∀ (j : Nat) t v, Try.f6.params[j]? = some t → args[j]? = some v → Value.okWide Try.prog W .any base t v := hval0
  have hW' := hW
  obtain ⟨p, q, hA0, hV, rfl, hfz, hnd⟩ := hW
  have hA : DataW.TrodAll enc Try.prog W 0 (fun _ => true) true Try.f6.params.toList args.toList ds p := hA0
  rw [Try.params6] at hA hval
  obtain ⟨v0, v1, v2, d0, d1, d2, p0, p1, p2, rfl, rfl, rfl, h0, h1, h2⟩ := trodAll_three hA
  obtain ⟨rfl, rfl⟩ := trodVars_none hV
  obtain ⟨n0, X0, Y0, Z0, U0, s0, m0⟩ := open_boxes (hval 0 36 v0 rfl rfl) h0
  obtain ⟨x1, y1, z1, u1, rfl, rfl, rfl, wx1, wy1, wz1, wu1⟩ := open_box (hval 1 23 v1 rfl rfl) h1
  obtain ⟨x2, rfl, rfl, rfl, wx2⟩ := open_int Try.underlying3 (hval 2 3 v2 rfl rfl) h2
  have bx2 := bounds_i64 wx2
  clear hA0 hval0
  simp only [List.append_nil] at hW'
  have hlt0 : ∀ x ∈ p0, x.block < W.heap.size := fun x hx => by simpa using hW'.lt x (by simp [hx])
  refine (top v0 n0 X0 Y0 Z0 U0 x1 y1 z1 u1 x2 W s0 m0 bx2.1 bx2.2).mono fun e W' ⟨he, hb⟩ => ?_
  subst he
  exact ⟨_, rfl, _, _, _, [], p0, [], hW', trodAll_mk1 (shut_bool Try.underlying4 _), (by have h := trodAll_mk3 (Below.trod laidOut (by kernel_rfl) (of_decide_eq_true (by kernel_rfl)) h0 hb hlt0) (shut_box wx1 wy1 wz1 wu1) (shut_int Try.underlying3 wx2); simp only [List.append_nil] at h; exact h), rfl, hb.frame _, fun h => by cases h⟩

/-- The statement. -/
theorem holds : Rows.BoxUnionsSaid :=
  OpenClaim.holds_of_wide 6 Try.f6 rfl rfl rfl rfl rfl rfl rfl ⟨rfl, rfl, rfl, rfl, rfl⟩ rfl rfl rfl rfl rfl (by kernel_rfl) Try.func6 (by kernel_rfl)
    (of_decide_eq_true (by kernel_rfl)) (by unfold Func.isWrapper; first | (rw [if_pos (by decide +kernel)]; kernel_rfl) | (rw [if_neg (by decide +kernel)]; exact ⟨rfl, rfl⟩))
    (fun os started H enc _ => lifted os started H enc)
#print axioms holds

end Go.Proofs.Ytifliljlacmmlaa.lunions
