/-
  The library's iterator over the parts of a text between its separators, at the separator of ports: its contract. Condition: a text's length; that the library's variable MaxLen holds a number.
  The library's slices.ContainsFunc at ports and at attributes, with the closures of the landed code that compare a name or a key. Condition: a list's length.
  What Ports of the landed code answers. Condition: a text's length; that the library's variable MaxLen holds a number.
-/
import Derived.Test.YthcglcnhdgeaeaaDoorAttSq
import Derived.Test.YthcglcnhdgeaeaaDoorMAf
import Derived.Test.YthcglcnhdgeaeaaDoorShelf
import Derived.Test.YthcglcnhdgeaeaaDoorMLa
import Derived.Lib.QuietBelow
import Derived.Test.YthcglcnhdgeaeaaDoorMAx
namespace Go.Proofs.YthcglcnhdgeaeaaDoor.att
open Go.RowKit lex tre
attribute [local go_sem] Oper.semAt_some

theorem index_range (s p : List UInt8) : -1 ≤ Lib.index s p ∧ Lib.index s p ≤ s.length := by
  induction s with
  | nil => unfold Lib.index; split <;> simp
  | cons b t ih =>
    unfold Lib.index
    split
    · simp only [List.length_cons]; omega
    · split
      · simp only [List.length_cons]; omega
      · rename_i h; simp at h; simp only [List.length_cons]; omega
theorem index_room (s : List UInt8) (h : 0 ≤ Lib.index s [44, 32]) : (Lib.index s [44, 32]).toNat + 2 ≤ s.length := by
  induction s with
  | nil => simp [Lib.index] at h
  | cons b t ih =>
    unfold Lib.index at h ⊢
    by_cases hp : [44, 32].isPrefixOf (b :: t) = true
    · rw [if_pos hp]
      cases t with
      | nil => simp [List.isPrefixOf] at hp
      | cons y t => simp
    · rw [if_neg hp] at h ⊢
      by_cases h1 : (Lib.index t [44, 32] == -1) = true
      · rw [if_pos h1] at h; omega
      · rw [if_neg h1] at h ⊢
        have hr := (index_range t [44, 32]).1
        simp at h1
        have := ih (by omega)
        simp only [List.length_cons]
        omega
theorem split_any : ∀ (s c : List UInt8), splitA c s = if Lib.index s [44, 32] < 0 then [c ++ s] else (c ++ s.take (Lib.index s [44, 32]).toNat) :: splitL (s.drop ((Lib.index s [44, 32]).toNat + 2))
  | [], c => by unfold splitA; rw [if_pos (by decide)]; simp
  | [x], c => by
    unfold splitA
    rw [if_pos (by simp [Lib.index, List.isPrefixOf])]
  | x :: y :: t, c => by
    have ih := split_any (y :: t) (c ++ [x])
    have hr := (index_range (y :: t) [44, 32]).1
    unfold splitA Lib.index
    by_cases h : x = 44 ∧ y = 32
    · obtain ⟨rfl, rfl⟩ := h
      rw [if_pos (⟨rfl, rfl⟩ : (44 : UInt8) = 44 ∧ (32 : UInt8) = 32), show ([44, 32] : List UInt8).isPrefixOf (44 :: 32 :: t) = true by simp [List.isPrefixOf]]
      simp [splitL]
    · have hp : [44, 32].isPrefixOf (x :: y :: t) = false := by
        simp only [List.isPrefixOf, Bool.and_true, Bool.and_eq_false_iff, beq_eq_false_iff_ne]
        by_cases h1 : x = 44
        · exact Or.inr (fun e => h ⟨h1, e.symm⟩)
        · exact Or.inl (fun e => h1 e.symm)
      rw [if_neg h, hp, ih]
      by_cases h1 : Lib.index (y :: t) [44, 32] < 0
      · have e1 : Lib.index (y :: t) [44, 32] = -1 := by omega
        rw [if_pos h1, e1]; simp
      · rw [if_neg h1]
        have h2 : (Lib.index (y :: t) [44, 32] == -1) = false := by rw [beq_eq_false_iff_ne]; omega
        rw [h2]
        obtain ⟨n, hn⟩ : ∃ n : Nat, Lib.index (y :: t) [44, 32] = n := ⟨_, (Int.toNat_of_nonneg (by omega)).symm⟩
        rw [hn]
        have e3 : ((n : Int) + 1).toNat = n + 1 := by omega
        simp only [Bool.false_eq_true, if_false]
        rw [if_neg (by omega), e3, Int.toNat_natCast]
        simp
termination_by s => s.length
theorem split_step (s : List UInt8) : splitL s = if Lib.index s [44, 32] < 0 then [s] else s.take (Lib.index s [44, 32]).toNat :: splitL (s.drop ((Lib.index s [44, 32]).toNat + 2)) := by
  have := split_any s []
  simpa [splitL] using this
def sepB : ByteArray := ⟨#[44, 32]⟩
def szAt (c : Nat) (w : World) : Nat := match w.cell? ⟨c, 0, none⟩ with | some (.string s) => s.size | _ => 0
theorem szAt_of {c : Nat} {w : World} {s : ByteArray} (h : w.cell? ⟨c, 0, none⟩ = some (.string s)) : szAt c w = s.size := by unfold szAt; rw [h]
/-- The iterator's three boxes: the text that is left, the separator, a number. -/
def Box3 (W : World) (c : Nat) (S : ByteArray) : Prop := W.heap[c]? = some (.cells #[.string S] 9 (0, 0)) ∧ W.heap[c + 1]? = some (.cells #[.string ⟨#[44, 32]⟩] 9 (0, 0)) ∧ W.heap[c + 2]? = some (.cells #[.int .i64 0] 3 (0, 0))
theorem Box3.keep {X Y : World} {m c : Nat} {S : ByteArray} (h : Box3 X c S) (k : KpC m c X Y) : Box3 Y c S :=
  ⟨(k.2 c (by omega) (by omega)).trans h.1, (k.2 (c + 1) (by omega) (by omega)).trans h.2.1, (k.2 (c + 2) (by omega) (by omega)).trans h.2.2⟩
theorem Box3.cells {X : World} {c : Nat} {S : ByteArray} (h : Box3 X c S) : X.cell? ⟨c, 0, none⟩ = some (.string S) ∧ X.frozen? ⟨c, 0, none⟩ = false ∧ X.cell? ⟨c + 1, 0, none⟩ = some (.string ⟨#[44, 32]⟩) ∧ X.cell? ⟨c + 2, 0, none⟩ = some (.int .i64 0) := by
  obtain ⟨h0, h1, h2⟩ := h
  refine ⟨?_, ?_, ?_, ?_⟩ <;> simp [World.cell?, World.frozen?, h0, h1, h2]
theorem Box3.set {X : World} {c : Nat} {S : ByteArray} (h : Box3 X c S) (S' : ByteArray) : Box3 (X.setCell ⟨c, 0, none⟩ (.string S')) c S' := by
  obtain ⟨h0, h1, h2⟩ := h
  refine ⟨?_, (Below.heap_setCell _ _ _ _ (by simp)).trans h1, (Below.heap_setCell _ _ _ _ (by simp)).trans h2⟩
  obtain ⟨hlt, hk⟩ := Array.getElem?_eq_some_iff.1 h0
  show (X.heap.modify c _)[c]? = _
  rw [Array.getElem?_eq_getElem (by rw [Array.size_modify]; exact hlt), Array.getElem_modify_self, hk]
  rfl
theorem grown_set (W : World) (b o : Nat) (v : Value) : W.grownBy (W.setCell ⟨b, o, none⟩ v) (some b) :=
  ⟨rfl, rfl, rfl, (KeepsWalks.setCell W _ v).size, fun k _ hk => Below.heap_setCell _ _ _ k (fun e => hk (by rw [e]))⟩

set_option maxRecDepth 100000 in
set_option maxHeartbeats 4000000 in
theorem spl1_in (n l c m : Nat) (S : ByteArray) (hS : S.size ≤ 1000) (hM : 2 < m) (hmc : m ≤ c) (J Jx : List ByteArray → World → Prop) (xs : List ByteArray)
    (hxs : xs.map (·.data.toList) = splitL S.data.toList)
    (hJ : ∀ pre X Y row, J pre X → X.grownBy Y row → (∀ r, row = some r → r = c) → J pre Y)
    (hY : ∀ k pre x X, J pre X → pre ++ [x] <+: xs → YieldAt Fence.wide k Tryd.prog l #[.string x] X fun e Y =>
      (e = .returned (.bool true) ∧ J (pre ++ [x]) Y ∧ KpC m c X Y) ∨ (e = .returned (.bool false) ∧ Jx (pre ++ [x]) Y))
    (W : World) (hB : Box3 W c S) (hX : Mx W) (h0 : J [] W) :
    CallsIn Fence.wide n Tryd.prog 72 #[.func (.yield l) #[] #[], .pointer (some ⟨c + 1, 0, none⟩), .pointer (some ⟨c, 0, none⟩), .pointer (some ⟨c + 2, 0, none⟩)] W fun e W' => (∃ v, e = .returned v) ∧
      (J xs W' ∨ ∃ pre, pre <+: xs ∧ Jx pre W') := by
  obtain ⟨c0, f0, c1, c2⟩ := hB.cells
  refine callsIn_of_wp Tryd.func72 rfl trivial ?_ rfl
  simp only [Tryd.ntmps72, List.size_toArray, List.length_cons, List.length_nil, Nat.reduceAdd, Nat.reduceSub, Array.replicate_succ, Array.replicate_zero, List.push_toArray, List.append_toArray, List.nil_append, List.cons_append]
  gi_wp2
  clear c0 f0 c1 c2
  gi_loopw [] (fun wr => ∃ (pre rest : List ByteArray) (T : ByteArray), xs = pre ++ rest ∧ rest.map (·.data.toList) = splitL T.data.toList ∧ T.size ≤ 1000 ∧ J pre wr ∧ Box3 wr c T ∧ Mx wr) (fun wr => szAt c wr)
  case atStart => exact ⟨[], xs, S, rfl, hxs, hS, h0, hB, hX⟩
  case round =>
    obtain ⟨pre, rest, T, hpr, hrs, hT, hJs, hb3, hmx⟩ := hrel
    rename World => wr
    have hss := split_step T.data.toList
    have hix := index_range T.data.toList [44, 32]
    have hrm := index_room T.data.toList
    obtain ⟨ix, hi⟩ : ∃ i, Lib.index T.data.toList [44, 32] = i := ⟨_, rfl⟩
    have CI : Hid (∀ W : World, Mx W → Calls Tryd.prog 74 #[.string T, .string ⟨#[44, 32]⟩] W fun e w' => e = .returned (.int .i64 ix) ∧ W = w') := Lib.hid (fun W ⟨q, hq⟩ => by
      have cc := Tryd.strings_Index T ⟨#[44, 32]⟩ q W (by omega) hq
      rw [show (ByteArray.mk #[44, 32]).data.toList = [44, 32] from rfl, hi] at cc
      exact cc.mono fun _ _ h => ⟨h.1, h.2.symm⟩)
    rw [hi] at hss hix hrm
    have hTz : T.data.toList.length = T.size := by simp
    rw [hTz] at hix hrm
    clear hi
    obtain ⟨c0, f0, c1, c2⟩ := hb3.cells
    by_cases hneg : ix < 0
    · rw [if_pos hneg] at hss
      rw [hss] at hrs
      obtain ⟨x, rfl⟩ : ∃ x, rest = [x] := by
        cases rest with
        | nil => simp at hrs
        | cons x r => cases r with
          | nil => exact ⟨x, rfl⟩
          | cons y r => simp at hrs
      obtain rfl : x = T := ba_ext (List.cons.inj hrs).1
      have HPR := Lib.hid hpr
      clear hrs hss hpr hxs
      obtain ⟨fn, tmps, assign, body, hy, hR⟩ := hY (n - 1) pre x wr hJs (by rw [HPR.out]; exact List.prefix_refl _)
      gi_wp2
      refine ⟨trivial, fun h => (by cases h), ?_⟩
      refine (callsIn_wide.2 (CI.out _ hmx)).mono ?_
      rintro e w' ⟨rfl, rfl⟩
      gi_wp2
      refine ⟨fun h => (by cases h), ?_⟩
      refine hR.mono ?_
      rintro e W3 (⟨rfl, hJ3, hk3⟩ | ⟨rfl, hJx3⟩)
      · gi_wp2
        go_end0
        exact ⟨⟨_, rfl⟩, Or.inl (by rw [HPR.out]; exact hJ3)⟩
      · gi_wp2
        go_end0
        exact ⟨⟨_, rfl⟩, Or.inr ⟨_, by rw [HPR.out]; exact List.prefix_refl _, hJx3⟩⟩
    · rw [if_neg hneg] at hss
      obtain ⟨k, rfl⟩ : ∃ k : Nat, ix = k := ⟨ix.toNat, (Int.toNat_of_nonneg (by omega)).symm⟩
      rw [Int.toNat_natCast] at hss hrm
      have hrm' := hrm (by omega)
      rw [hss] at hrs
      obtain ⟨x, rest, rfl⟩ : ∃ x r, rest = x :: r := by
        cases rest with
        | nil => cases hrs
        | cons x r => exact ⟨x, r, rfl⟩
      obtain ⟨hx, hrs2⟩ := List.cons.inj hrs
      obtain rfl : x = T.extract 0 k := ba_ext (Eq.trans hx (ext_take T k).symm)
      have HPR := Lib.hid hpr
      have HRS : Hid (rest.map (·.data.toList) = splitL (T.extract (k + 2) T.size).data.toList) := Lib.hid (by rw [drop_extract]; exact hrs2)
      clear hrs hrs2 hss hpr hx hrm hxs hneg
      obtain ⟨fn, tmps, assign, body, hy, hR⟩ := hY (n - 1) pre (T.extract 0 k) wr hJs (by rw [HPR.out]; exact ⟨rest, by simp⟩)
      gi_wp2
      refine ⟨trivial, fun h => (by cases h), ?_⟩
      refine (callsIn_wide.2 (CI.out _ hmx)).mono ?_
      rintro e w' ⟨rfl, rfl⟩
      gi_wp2
      refine ⟨fun h => (by cases h), ?_⟩
      refine hR.mono ?_
      rintro e W3 (⟨rfl, hJ3, hk3⟩ | ⟨rfl, hJx3⟩)
      · have hb4 := hb3.keep hk3
        have hmx3 : Mx W3 := by
          obtain ⟨q, hq⟩ := hmx
          exact ⟨q, by rw [hk3.1.cell (p := ⟨2, 0, none⟩) hM]; exact hq⟩
        have hb5 := hb4.set (T.extract (k + 2) T.size)
        have hz5 := Lib.hid (szAt_of hb5.cells.1)
        have hz0 := Lib.hid (szAt_of c0)
        have hze : (T.extract (k + 2) T.size).size = T.size - (k + 2) := by simp [ByteArray.size_extract]
        have hJ5 := hJ _ _ _ _ hJ3 (grown_set W3 c 0 (.string (T.extract (k + 2) T.size))) (fun r e => by cases e; rfl)
        have hmx5 : Mx (W3.setCell ⟨c, 0, none⟩ (.string (T.extract (k + 2) T.size))) := by
          obtain ⟨q, hq⟩ := hmx3
          exact ⟨q, (World.cell?_of_block (Below.heap_setCell _ _ _ _ (by simp; omega))).trans hq⟩
        have HB5 := Lib.hid hb5
        have HZE := Lib.hid hze
        have HJ5 := Lib.hid hJ5
        have HM5 := Lib.hid hmx5
        obtain ⟨d0, e0, d1, d2⟩ := hb4.cells
        clear hb5 hze hJ5 hmx5 hb4 hmx3 hb3 c0 f0 c1 c2
        gi_wp2
        go_roundw
        case rel => exact ⟨pre ++ [T.extract 0 k], rest, T.extract (k + 2) T.size, by rw [HPR.out]; simp, HRS.out, by rw [HZE.out]; omega, HJ5.out, HB5.out, HM5.out⟩
        case measure => rw [hz5.out, hz0.out, HZE.out]; omega
      · gi_wp2
        refine bodyPost_ret (results_none rfl _ _ _) rfl ?_
        exact ⟨⟨_, rfl⟩, Or.inr ⟨_, by rw [HPR.out]; exact ⟨rest, by simp⟩, hJx3⟩⟩
end Go.Proofs.YthcglcnhdgeaeaaDoor.att
namespace Go.Proofs.YthcglcnhdgeaeaaDoor.att
open Go.RowKit lex tre

theorem any_take {X : Type} (f : X → Bool) (l : List X) (k : Nat) (h : k < l.length) : (l.take (k + 1)).any f = ((l.take k).any f || f l[k]) := by
  rw [List.take_succ_eq_append_getElem h, List.any_append]; simp
set_option maxHeartbeats 1000000 in
theorem poclo_of (p : Pt) (g : Nat) (nm : List UInt8) (b : Bool) (w : World) (hc : Hid (w.cell? ⟨g, 0, none⟩ = some (.string (bb nm)))) (h : Hid (decide (nm = p.1) = b)) :
    Calls Tryd.prog 41 #[.agg #[.string (bb p.1), .int .i64 p.2], .pointer (some ⟨g, 0, none⟩)] w fun e w' => e = .returned (.bool b) ∧ Below w.heap.size w w' := by
  have e1 : (nm == p.1) = b := by rw [← h.out, Bool.eq_iff_iff]; simp
  have c1 := cell_keep (al1 w (.cells #[.string (bb p.1), .int .i64 p.2] 49)) hc.out
  have hb := al1 w (.cells #[.string (bb p.1), .int .i64 p.2] 49)
  clear h hc
  go_enter Tryd.func41, Tryd.ntmps41
  go_wp2
  go_ret
  exact ⟨rfl, hb⟩
set_option maxHeartbeats 2000000 in
theorem poidx_of (v : Value) (l : List Pt) (g : Nat) (nm : List UInt8) (w : World) (hl : l.length ≤ 1000000) (h : Hid (Pos w v l)) (hc : Hid (w.cell? ⟨g, 0, none⟩ = some (.string (bb nm)))) :
    Calls Tryd.prog 63 #[v, .func (.func 41) #[] #[.pointer (some ⟨g, 0, none⟩)]] w fun e W' => (∃ i : Int, e = .returned (.int .i64 i) ∧ decide (0 ≤ i) = l.any (fun p => decide (nm = p.1))) ∧ Below w.heap.size w W' := by
  obtain ⟨ao, cap, rfl, _, _, _⟩ := id h.out
  go_enter Tryd.func63, Tryd.ntmps63
  go_wp2_with fail
  go_loopw [8] (fun i wr => ∃ k : Nat, k ≤ l.length ∧ i = .int .i64 k ∧ Below w.heap.size w wr ∧ (l.take k).any (fun p => decide (nm = p.1)) = false) (fun i _ => l.length - (intOf i).toNat)
  case atStart => exact ⟨0, Nat.zero_le _, rfl, Below.refl _ _, by simp⟩
  case round =>
    obtain ⟨k, hk, rfl, hB, hal⟩ := hrel
    rename World => wr
    have HAL := Lib.hid hal
    have HB := Lib.hid hB
    clear hal hB
    by_cases hlt : k < l.length
    · obtain ⟨A, rfl, c0, c1⟩ := (h.out.keep HB.out).get hlt
      have hcr := Lib.hid (cell_keep HB.out hc.out)
      have hat := any_take (fun p : Pt => decide (nm = p.1)) l k hlt
      obtain ⟨b, hb⟩ : ∃ b, decide (nm = l[k].1) = b := ⟨_, rfl⟩
      have HV := Lib.hid hb
      rw [HAL.out, hb] at hat
      have HAT := Lib.hid hat
      have i0 : (0 : Int) ≤ (k : Int) := by omega
      have i1 : (k : Int) < (l.length : Int) := by omega
      clear hb hat
      cases b
      · go_wp2_with fail
        refine (poclo_of l[k] g nm false wr hcr HV).mono ?_
        rintro e w1 ⟨rfl, hb1⟩
        have HB1 := Lib.hid (below_keep hb1 HB.out)
        clear hb1
        go_wp2
        go_roundw
        case rel => exact ⟨k + 1, by omega, by go_num, HB1.out, HAT.out⟩
        case measure => simp [intOf]; omega
      · go_wp2_with fail
        refine (poclo_of l[k] g nm true wr hcr HV).mono ?_
        rintro e w1 ⟨rfl, hb1⟩
        have HB1 := Lib.hid (below_keep hb1 HB.out)
        clear hb1
        have hany : l.any (fun p => decide (nm = p.1)) = true := by
          rw [List.any_eq_true]; exact ⟨l[k], List.getElem_mem hlt, HV.out⟩
        have HANY := Lib.hid hany
        clear hany
        go_wp2
        go_ret
        exact ⟨⟨k, rfl, by rw [HANY.out]; simp⟩, HB1.out⟩
    · obtain rfl : k = l.length := by omega
      have HAN : Hid (l.any (fun p => decide (nm = p.1)) = false) := Lib.hid (by have := HAL.out; rwa [List.take_length] at this)
      go_wp2
      go_ret
      exact ⟨⟨-1, rfl, by rw [HAN.out]; rfl⟩, HB.out⟩
set_option maxHeartbeats 1000000 in
theorem pocon_of (v : Value) (l : List Pt) (g : Nat) (nm : List UInt8) (b : Bool) (w : World) (hl : l.length ≤ 1000000) (h : Hid (Pos w v l)) (hc : Hid (w.cell? ⟨g, 0, none⟩ = some (.string (bb nm)))) (hb : Hid (l.any (fun p => decide (nm = p.1)) = b)) :
    Calls Tryd.prog 42 #[v, .func (.func 41) #[] #[.pointer (some ⟨g, 0, none⟩)]] w fun e W' => e = .returned (.bool b) ∧ Below w.heap.size w W' := by
  have hq := poidx_of v l g nm w hl h hc
  rw [hb.out] at hq
  go_enter Tryd.func42, Tryd.ntmps42
  go_wp2_with fail
  refine hq.mono ?_
  rintro e w1 ⟨⟨i, rfl, hi⟩, hb1⟩
  have HI := Lib.hid hi
  clear hi
  go_wp2
  go_ret
  exact ⟨ret_bool HI.out, hb1⟩
set_option maxHeartbeats 1000000 in
theorem atclo_of (p : Pr) (g : Nat) (nm : List UInt8) (b : Bool) (w : World) (hc : Hid (w.cell? ⟨g, 0, none⟩ = some (.string (bb nm)))) (h : Hid (decide (nm = p.1) = b)) :
    Calls Tryd.prog 31 #[.agg #[.string (bb p.1), .string (bb p.2)], .pointer (some ⟨g, 0, none⟩)] w fun e w' => e = .returned (.bool b) ∧ Below w.heap.size w w' := by
  have e1 : (nm == p.1) = b := by rw [← h.out, Bool.eq_iff_iff]; simp
  have c1 := cell_keep (al1 w (.cells #[.string (bb p.1), .string (bb p.2)] 28)) hc.out
  have hb := al1 w (.cells #[.string (bb p.1), .string (bb p.2)] 28)
  clear h hc
  go_enter Tryd.func31, Tryd.ntmps31
  go_wp2
  go_ret
  exact ⟨rfl, hb⟩
set_option maxHeartbeats 2000000 in
theorem atidx_of (v : Value) (l : List Pr) (g : Nat) (nm : List UInt8) (w : World) (hl : l.length ≤ 1000000) (h : Hid (Prs w v l)) (hc : Hid (w.cell? ⟨g, 0, none⟩ = some (.string (bb nm)))) :
    Calls Tryd.prog 52 #[v, .func (.func 31) #[] #[.pointer (some ⟨g, 0, none⟩)]] w fun e W' => (∃ i : Int, e = .returned (.int .i64 i) ∧ decide (0 ≤ i) = l.any (fun p => decide (nm = p.1))) ∧ Below w.heap.size w W' := by
  obtain ⟨ao, cap, rfl, _, _, _⟩ := id h.out
  go_enter Tryd.func52, Tryd.ntmps52
  go_wp2_with fail
  go_loopw [8] (fun i wr => ∃ k : Nat, k ≤ l.length ∧ i = .int .i64 k ∧ Below w.heap.size w wr ∧ (l.take k).any (fun p => decide (nm = p.1)) = false) (fun i _ => l.length - (intOf i).toNat)
  case atStart => exact ⟨0, Nat.zero_le _, rfl, Below.refl _ _, by simp⟩
  case round =>
    obtain ⟨k, hk, rfl, hB, hal⟩ := hrel
    rename World => wr
    have HAL := Lib.hid hal
    have HB := Lib.hid hB
    clear hal hB
    by_cases hlt : k < l.length
    · obtain ⟨A, rfl, c0, c1, -, -⟩ := (h.out.keep HB.out).get hlt
      have hcr := Lib.hid (cell_keep HB.out hc.out)
      have hat := any_take (fun p : Pr => decide (nm = p.1)) l k hlt
      obtain ⟨b, hb⟩ : ∃ b, decide (nm = l[k].1) = b := ⟨_, rfl⟩
      have HV := Lib.hid hb
      rw [HAL.out, hb] at hat
      have HAT := Lib.hid hat
      have i0 : (0 : Int) ≤ (k : Int) := by omega
      have i1 : (k : Int) < (l.length : Int) := by omega
      clear hb hat
      cases b
      · go_wp2_with fail
        refine (atclo_of l[k] g nm false wr hcr HV).mono ?_
        rintro e w1 ⟨rfl, hb1⟩
        have HB1 := Lib.hid (below_keep hb1 HB.out)
        clear hb1
        go_wp2
        go_roundw
        case rel => exact ⟨k + 1, by omega, by go_num, HB1.out, HAT.out⟩
        case measure => simp [intOf]; omega
      · go_wp2_with fail
        refine (atclo_of l[k] g nm true wr hcr HV).mono ?_
        rintro e w1 ⟨rfl, hb1⟩
        have HB1 := Lib.hid (below_keep hb1 HB.out)
        clear hb1
        have hany : l.any (fun p => decide (nm = p.1)) = true := by
          rw [List.any_eq_true]; exact ⟨l[k], List.getElem_mem hlt, HV.out⟩
        have HANY := Lib.hid hany
        clear hany
        go_wp2
        go_ret
        exact ⟨⟨k, rfl, by rw [HANY.out]; simp⟩, HB1.out⟩
    · obtain rfl : k = l.length := by omega
      have HAN : Hid (l.any (fun p => decide (nm = p.1)) = false) := Lib.hid (by have := HAL.out; rwa [List.take_length] at this)
      go_wp2
      go_ret
      exact ⟨⟨-1, rfl, by rw [HAN.out]; rfl⟩, HB.out⟩
set_option maxHeartbeats 1000000 in
theorem atcon_of (v : Value) (l : List Pr) (g : Nat) (nm : List UInt8) (b : Bool) (w : World) (hl : l.length ≤ 1000000) (h : Hid (Prs w v l)) (hc : Hid (w.cell? ⟨g, 0, none⟩ = some (.string (bb nm)))) (hb : Hid (l.any (fun p => decide (nm = p.1)) = b)) :
    Calls Tryd.prog 32 #[v, .func (.func 31) #[] #[.pointer (some ⟨g, 0, none⟩)]] w fun e W' => e = .returned (.bool b) ∧ Below w.heap.size w W' := by
  have hq := atidx_of v l g nm w hl h hc
  rw [hb.out] at hq
  go_enter Tryd.func32, Tryd.ntmps32
  go_wp2_with fail
  refine hq.mono ?_
  rintro e w1 ⟨⟨i, rfl, hi⟩, hb1⟩
  have HI := Lib.hid hi
  clear hi
  go_wp2
  go_ret
  exact ⟨ret_bool HI.out, hb1⟩
end Go.Proofs.YthcglcnhdgeaeaaDoor.att
namespace Go.Proofs.YthcglcnhdgeaeaaDoor.att
open Go.RowKit lex tre
attribute [local go_sem] Oper.semAt_some

set_option maxHeartbeats 1000000 in
theorem spl_of (S : ByteArray) (w : World) : Calls Tryd.prog 39 #[.string S, .string ⟨#[44, 32]⟩] w fun e w' =>
    e = .returned (.func (.func 72) #[] #[.pointer (some ⟨w.heap.size + 1, 0, none⟩), .pointer (some ⟨w.heap.size, 0, none⟩), .pointer (some ⟨w.heap.size + 2, 0, none⟩)]) ∧
      (Below w.heap.size w w' ∧ Box3 w' w.heap.size S ∧ w'.heap.size = w.heap.size + 3) := by
  have b3 : Box3 (((w.alloc (.cells #[.string S] 9)).alloc (.cells #[.string ⟨#[44, 32]⟩] 9)).alloc (.cells #[.int .i64 0] 3)) w.heap.size S := by
    refine ⟨?_, ?_, ?_⟩
    · rw [heap_alloc_old _ _ (by simp; omega), heap_alloc_old _ _ (by simp)]; exact heap_alloc_new w _
    · rw [heap_alloc_old _ _ (by simp)]
      have := heap_alloc_new (w.alloc (.cells #[.string S] 9)) (.cells #[.string ⟨#[44, 32]⟩] 9)
      rwa [show (w.alloc (.cells #[.string S] 9)).heap.size = w.heap.size + 1 by simp] at this
    · have := heap_alloc_new ((w.alloc (.cells #[.string S] 9)).alloc (.cells #[.string ⟨#[44, 32]⟩] 9)) (.cells #[.int .i64 0] 3)
      rwa [show ((w.alloc (.cells #[.string S] 9)).alloc (.cells #[.string ⟨#[44, 32]⟩] 9)).heap.size = w.heap.size + 2 by simp] at this
  have hz : (((w.alloc (.cells #[.string S] 9)).alloc (.cells #[.string ⟨#[44, 32]⟩] 9)).alloc (.cells #[.int .i64 0] 3)).heap.size = w.heap.size + 3 := by simp
  have hb := al3 w (.cells #[.string S] 9) (.cells #[.string ⟨#[44, 32]⟩] 9) (.cells #[.int .i64 0] 3)
  have HH := Lib.hid (And.intro hb (And.intro b3 hz))
  clear b3 hz hb
  go_enter Tryd.func39, Tryd.ntmps39
  go_wp2
  go_ret
  exact ⟨rfl, HH.out⟩
/-- The parts of a text. -/
def partB (S : ByteArray) : List ByteArray := (splitL S.data.toList).map bb
theorem partB_list (S : ByteArray) : (partB S).map (·.data.toList) = splitL S.data.toList := by
  unfold partB
  rw [List.map_map]
  exact (List.map_congr_left (fun x _ => by simp)).trans (List.map_id _)
theorem partB_len {S : ByteArray} {pre : List ByteArray} {x : ByteArray} (h : pre ++ [x] <+: partB S) : x.size ≤ S.size := by
  have hm : x ∈ partB S := h.subset (by simp)
  unfold partB at hm
  obtain ⟨y, hy, rfl⟩ := List.mem_map.1 hm
  have := split_len _ S.data.toList [] (Nat.le_refl _) y hy
  rw [bb_len]
  simpa using this
theorem spl_seq (S : ByteArray) (hS : S.size ≤ 1000) (c m : Nat) (hM : 2 < m) (hmc : m ≤ c) (w : World) (hc3 : c + 3 ≤ w.heap.size) (hB : Box3 w c S) (hX : Mx w) :
    SeqC Tryd.prog 72 #[.pointer (some ⟨c + 1, 0, none⟩), .pointer (some ⟨c, 0, none⟩), .pointer (some ⟨c + 2, 0, none⟩)] (fun x : ByteArray => #[.string x]) m c (some c) (partB S) w := fun n l J Jx W hW hJ hY h0 =>
  spl1_in n l c m S hS hM hmc J Jx (partB S) (partB_list S) (fun pre X Y row h hg hr => hJ pre X Y row h hg (fun r e => by rw [hr r e])) hY W (hB.keep (m := m) ⟨hW.mono (by omega), fun k _ hk => hW.block k (by omega)⟩) (hX.keep hW) h0
theorem parts_app : ∀ (a b : List (List UInt8)) (o : List Pt), partsL (a ++ b) o = if (partsL a o).2 ≠ 0 then partsL a o else partsL b (partsL a o).1
  | [], b, o => by rw [parts_nil, if_neg (by simp)]; rfl
  | s :: t, b, o => by
    have ih := parts_app t b
    rw [List.cons_append, parts_cons, parts_cons]
    split
    · rename_i h
      first | rfl | exact (if_pos h).symm
    · split
      · first | rfl | exact (if_pos (by simp)).symm
      · split
        · first | rfl | exact (if_pos (by simp)).symm
        · exact ih _
/-- What reading a part of the parts gives. -/
def prtA (pre : List ByteArray) : List Pt × Int := partsL (pre.map (·.data.toList)) []
theorem prtA_snoc {pre : List ByteArray} {out : List Pt} (x : ByteArray) (h : prtA pre = (out, 0)) : prtA (pre ++ [x]) = partsL [x.data.toList] out := by
  unfold prtA at *
  rw [List.map_append, parts_app, h, if_neg (by simp)]; rfl
theorem prtA_err {pre xs : List ByteArray} {e0 : Int} (hp : pre <+: xs) (h : prtA pre = ([], e0)) (h0 : e0 ≠ 0) : prtA xs = ([], e0) := by
  obtain ⟨t, rfl⟩ := hp
  unfold prtA at *
  rw [List.map_append, parts_app, h, if_pos h0]
theorem prtA_all (S : ByteArray) (h : S.data.toList ≠ []) : prtA (partB S) = portsL S.data.toList := by
  unfold prtA portsL
  rw [partB_list, if_neg h]

/-- One port more in a row, inside a fence. -/
theorem app_poIn {F : Fence} {nF : Nat} {w : World} {ops : Array Oper} {rest : List Oper} {o : Oper} {a : Act} {Q : Exit → Act → World → Prop} (hg : o.guard = none) (p y : Operand) (ho : o.op = .call { callee := .builtin .append, args := #[p, y], argTypes := #[38, 38] })
    (B : Nat) (v : Value) (l : List Pt) (x : ByteArray) (d : Int) (H : Nat) (hH : w.heap.size = H) (hs : a.eval p = v) (hx : a.eval y = .slice (some ⟨H, 0, none⟩) 1 1) (h : Hid (Prow w B v l)) (hl : l.length ≤ 1000000) (hB : B ≤ w.heap.size)
    (hK : ∀ ao cap w', Prow w' B (.slice ao (l.length + 1) cap) (l ++ [(x.data.toList, d)]) → w.grownBy w' v.ownBlock → wpListIn F nF Tryd.prog ops Q rest (a.put o.dst (.slice ao (l.length + 1) cap)) w') : wpListIn F nF Tryd.prog ops Q (o :: rest) a (w.alloc (.cells #[.string x, .int .i64 d] 49)) := by
  subst hH
  obtain ⟨i0, hi, hz0, hz1, hz2⟩ := info_of_cpo
  refine wpListIn_append_own _ hg p y 38 ho B 49 i0 _ 2 24 Tryd.underlying38 hi hz0 hz1 hz2 rfl (by decide) v l.length _ hs (World.ownsRow.alloc h.out _) ⟨w.heap.size, 0, none⟩ 1 1 [.string x, .int .i64 d] hx rfl ?_ (by simp [Value.oneCell']) (by unfold maxLen; omega) (by omega) (by simp; omega) ?_
  · intro j u hj
    rw [add_at, Nat.zero_add, blk_cell (blk_new w #[.string x, .int .i64 d] 49), ← hj]
    simp
  · intro v' w' hown hgrow _
    obtain ⟨ao, cap, rfl, _, _⟩ := own_form hown
    refine hK ao cap w' ?_ ?_
    · unfold Prow
      rw [List.length_append, List.flatMap_append]
      have hx : bb x.data.toList = x := by simp [bb]
      show World.ownsRow _ _ _ _ _ _ (_ ++ (poC (x.data.toList, d) ++ []))
      unfold poC
      simp only [hx, List.append_nil]
      exact hown
    · refine ⟨hgrow.os, hgrow.tape, hgrow.output, Nat.le_trans (by simp) hgrow.size, fun k hk hne => ?_⟩
      rw [hgrow.block k (by simp; omega) hne, heap_alloc_old w _ hk]
theorem boxed_keep2 {w1 w2 : World} {B : Nat} {t : TypeId} {v : Value} (h2 : Below w1.heap.size w1 w2) (h : Boxed w1 B t v) : Boxed w2 B t v := (h2.block B h.lt).trans h
theorem bx_keep {n : Nat} {w1 w2 : World} {B : Nat} {t : TypeId} {v : Value} (h2 : Below n w1 w2) (hn : B < n) (h : Boxed w1 B t v) : Boxed w2 B t v := (h2.block B hn).trans h
theorem prow_at {W : World} {B : Nat} {v : Value} {l : List Pt} (h : Prow W B v l) {q : Nat} (hq : v.ownBlock = some q) : B ≤ q := by
  rcases h.2 with ⟨rfl, _⟩ | ⟨b, cap, cur, rfl, hb, _⟩
  · cases hq
  · have : b = q := Option.some.inj hq
    omega
theorem prow_kept {W Y : World} {B q : Nat} {v : Value} {l : List Pt} (h : Prow W B v l) (hg : W.grownBy Y (some q)) (hq : q < B) : Prow Y B v l := by
  refine World.ownsRow.kept h hg ?_
  cases hv : v.ownBlock with
  | none => exact Or.inl rfl
  | some b => exact Or.inr (fun e => by have := prow_at h hv; cases e; omega)
/-- What holds between two rounds. -/
def PoI (w : World) (g : Nat) (pre : List ByteArray) (W : World) : Prop :=
  ∃ out v, prtA pre = (out, 0) ∧ out.length ≤ 8 ∧ Boxed W (g + 1 + 1) 38 v ∧ Prow W (g + 8) v out ∧ Boxed W g 38 (.slice none 0 0) ∧ Boxed W (g + 1) 25 (.int .i64 0) ∧ Below g w W
/-- What holds where a round has ended the loop. -/
def PoX (w : World) (g : Nat) (pre : List ByteArray) (W : World) : Prop :=
  ∃ e0, prtA pre = ([], e0) ∧ e0 ≠ 0 ∧ Boxed W g 38 (.slice none 0 0) ∧ Boxed W (g + 1) 25 (.int .i64 e0) ∧ Below g w W
theorem PoI.step {w : World} {g : Nat} {pre : List ByteArray} {X Y : World} {row : Option Nat} (h : PoI w g pre X) (hg : X.grownBy Y row) (hr : ∀ r, row = some r → r = g + 3 ∨ r = g + 7) : PoI w g pre Y := by
  obtain ⟨out, v, h1, h2, h3, h4, h5, h6, h7⟩ := h
  have hz : g ≤ X.heap.size := Nat.le_of_lt h5.lt
  refine ⟨out, v, h1, h2, h3.kept hg (fun e => by have := hr _ e.symm; omega), ?_, h5.kept hg (fun e => by have := hr _ e.symm; omega), h6.kept hg (fun e => by have := hr _ e.symm; omega), h7.grown hg hz (fun k e => by have := hr k e; omega)⟩
  refine World.ownsRow.kept h4 hg ?_
  cases hq : v.ownBlock with
  | none => exact Or.inl rfl
  | some q =>
    refine Or.inr (fun e => ?_)
    have h8 := hr q e.symm
    rcases h4.2 with ⟨rfl, _⟩ | ⟨b, cap, cur, rfl, hb, _⟩
    · cases hq
    · have : b = q := Option.some.inj hq
      omega
theorem PoX.step {w : World} {g : Nat} {pre : List ByteArray} {X Y : World} {row : Option Nat} (h : PoX w g pre X) (hg : X.grownBy Y row) (hr : ∀ r, row = some r → r = g + 7) : PoX w g pre Y := by
  obtain ⟨e0, h1, h2, h5, h6, h7⟩ := h
  have hz : g ≤ X.heap.size := Nat.le_of_lt h5.lt
  exact ⟨e0, h1, h2, h5.kept hg (fun e => by have := hr _ e.symm; omega), h6.kept hg (fun e => by have := hr _ e.symm; omega), h7.grown hg hz (fun k e => by have := hr k e; omega)⟩

set_option maxRecDepth 100000 in
set_option maxHeartbeats 4000000 in
theorem ports_loop (S : ByteArray) (l : List Pt) (e0 : Int) (w : World) (hM : Hid (Mx w)) (hs : S.size ≤ 1000) (hne : S.data.toList ≠ []) (h : Hid (portsL S.data.toList = (l, e0))) :
    Calls Tryd.prog 22 #[.string S] w fun e w' => (∃ v, e = .returned (.tuple #[v, .int .i64 e0]) ∧ Pos w' v l) ∧ Below w.heap.size w w' := by
  have bS := str_no (c := []) hne
  obtain ⟨g, hg⟩ : ∃ g, w.heap.size = g := ⟨_, rfl⟩
  have hMg : 2 < g := by
    obtain ⟨q, hq⟩ := hM.out
    rw [← hg]
    exact World.block_lt_of_cell? w _ hq
  refine (callsIn_wide (n := 9)).1 ?_
  refine callsIn_of_wp_marks Tryd.func22 rfl trivial ?_ rfl
  simp only [Tryd.ntmps22, List.size_toArray, List.length_cons, List.length_nil, Nat.reduceAdd, Nat.reduceSub, Array.replicate_succ, Array.replicate_zero, List.push_toArray, List.append_toArray, List.nil_append, List.cons_append]
  gi_wp2
  have bA := ((Boxed.new w 38 (.slice none 0 0)).alloc (.cells #[.int .i64 0] 25)).alloc (.cells #[.slice none 0 0] 38)
  have bE := (Boxed.new (w.alloc (.cells #[.slice none 0 0] 38)) 25 (.int .i64 0)).alloc (.cells #[.slice none 0 0] 38)
  have bL := Boxed.new ((w.alloc (.cells #[.slice none 0 0] 38)).alloc (.cells #[.int .i64 0] 25)) 38 (.slice none 0 0)
  have hB0 := al3 w (.cells #[.slice none 0 0] 38) (.cells #[.int .i64 0] 25) (.cells #[.slice none 0 0] 38)
  simp only [World.size_alloc] at bE bL
  have hsz : (((w.alloc (.cells #[.slice none 0 0] 38)).alloc (.cells #[.int .i64 0] 25)).alloc (.cells #[.slice none 0 0] 38)).heap.size = w.heap.size + 3 := by simp
  generalize ((w.alloc (.cells #[.slice none 0 0] 38)).alloc (.cells #[.int .i64 0] 25)).alloc (.cells #[.slice none 0 0] 38) = w0 at bA bE bL hB0 hsz ⊢
  rw [hg] at bA bE bL hB0 hsz
  have hX0 := hM.out.keep (by rw [hg]; exact hB0)
  refine ⟨trivial, ?_⟩
  refine (callsIn_wide.2 (spl_of S w0)).mono ?_
  rintro e W0 ⟨rfl, hb1, hb3, hz1⟩
  rw [hsz] at hb1 hb3 hz1
  simp only [hsz]
  have hX1 := hX0.keep (by rw [hsz]; exact hb1)
  have bA1 := bx_keep hb1 (by omega) bA
  have bE1 := bx_keep hb1 (by omega) bE
  have bL1 := bx_keep hb1 (by omega) bL
  have hB1 : Below g w W0 := hB0.trans (hb1.mono (by omega))
  have HP : Hid (prtA (partB S) = (l, e0)) := Lib.hid ((prtA_all S hne).trans h.out)
  gi_wp2
  refine range_c rfl (enters_of Tryd.func72 (by kernel_rfl) rfl) (spl_seq S hs (g + 3) g hMg (by omega) W0 (by omega) hb3 hX1) (fun r e => by cases e; omega) (by omega) (by omega) (fun _ => rfl)
    (PoI w g) (PoX w g) (fun pre X Y row h hg hr => h.step hg (fun r e => by rcases hr r e with e | e; exact Or.inl (Option.some.inj e).symm; exact Or.inr (by omega))) (fun pre X Y row h hg hr => h.step hg (fun r e => by have := hr r e; omega))
    ⟨[], .slice none 0 0, rfl, by decide, bL1, World.ownsRow_nil _ _ _ _, bA1, bE1, hB1⟩
    (fun x a' _ => a' = { tmps := #[.string S, undef, .pointer (some ⟨g, 0, none⟩), .pointer (some ⟨g + 1, 0, none⟩), .pointer (some ⟨g + 1 + 1, 0, none⟩), .string x, undef, undef, undef, .string S, .bool false, .string S, .func (.func 72) #[] #[.pointer (some ⟨g + 3 + 1, 0, none⟩), .pointer (some ⟨g + 3, 0, none⟩), .pointer (some ⟨g + 3 + 2, 0, none⟩)], .string x, undef, undef, undef, undef, undef, undef, undef, undef, undef, undef, undef, undef, undef, undef, undef, undef, undef, undef, undef, undef, undef, undef, undef], defers := [] }) (fun _ _ _ _ h _ => h) ?assign ?body ?done ?stop
  case assign =>
    intro k l pre x W K hI hz hK
    gi_wp2
    exact hK _ _ ⟨Below.refl _ _, fun _ _ _ => rfl, rfl, rfl⟩ hI rfl
  case body =>
    rintro k l pre x a' W ⟨out, v, hpa, hol, bL, hrow, bA, bE, hB⟩ hz rfl hpre
    obtain ⟨ao, cap, rfl, hc1, hc2⟩ := own_form hrow
    have hxs := partB_len hpre
    have hMW : Mx W := by
      obtain ⟨q, hq⟩ := hM.out
      exact ⟨q, (hB.cell (p := ⟨2, 0, none⟩) hMg).trans hq⟩
    obtain ⟨pe, pn, pd, hp⟩ : ∃ a b c, partL x.data.toList = (a, b, c) := ⟨_, _, _, rfl⟩
    have hst := prtA_snoc x hpa
    rw [parts_cons, hp] at hst
    simp only [parts_nil] at hst
    have HST := Lib.hid hst
    have HPL := Lib.hid hp
    have HMW := Lib.hid hMW
    clear hst hp hMW hpa
    have hg1 := bA.lt
    gi_wp2
    refine ⟨trivial, fun h => (by cases h), ?_⟩
    refine (CallsIn.inRound l (callsIn_wide.2 (port_of x pe pn pd W HMW (by omega) HPL))).mono ?_
    rintro e w1 ⟨rfl, hb1⟩
    have hq1 := hb1.size
    have bL2 := (boxed_keep2 hb1 bL).alloc (.cells #[.string (bb pn), .int .i64 pd] 49)
    have bA2 := (boxed_keep2 hb1 bA).alloc (.cells #[.string (bb pn), .int .i64 pd] 49)
    have bE2 := (boxed_keep2 hb1 bE).alloc (.cells #[.string (bb pn), .int .i64 pd] 49)
    have hrow2 : Prow (w1.alloc (.cells #[.string (bb pn), .int .i64 pd] 49)) (g + 8) (.slice ao out.length cap) out := World.ownsRow.alloc (own_keep hrow hb1) _
    have o2 := own2_new w1 (.string (bb pn)) (.int .i64 pd) 49
    have hb2 := below_keep (al1 w1 (.cells #[.string (bb pn), .int .i64 pd] 49)) hb1
    have hq2 : (w1.alloc (.cells #[.string (bb pn), .int .i64 pd] 49)).heap.size = w1.heap.size + 1 := by simp
    have k2 : Kp3 g (g + 3) W0.heap.size W (w1.alloc (.cells #[.string (bb pn), .int .i64 pd] 49)) := Kp3.of (by omega) (by omega) (by omega) hb2
    obtain ⟨o20, o21, o2f, o2g⟩ := id o2
    have K2 := Lib.hid k2
    have HR2 := Lib.hid hrow2
    clear k2 hrow2 hrow hb2 hb1 bL bA bE
    by_cases hpe : pe = 0
    case neg =>
      have b0 : (pe != 0) = true := by rw [bne_iff_ne]; exact hpe
      have HX : Hid (prtA (pre ++ [x]) = ([], pe)) := Lib.hid (HST.out.trans (if_pos hpe))
      have HPE := Lib.hid hpe
      clear hpe
      have cA := bA2.cell
      have fA := bA2.frozen
      have cE := (bE2.other (B' := g) (by omega) (.slice none 0 0)).cell
      have fE := (bE2.other (B' := g) (by omega) (.slice none 0 0)).frozen
      gi_wp2
      have k3 := (K2.out.t (Kp3.set (b := g) (o := 0) (v := .slice none 0 0) (Nat.le_refl _) (by omega) (by omega) (by omega))).t (Kp3.set (b := g + 1) (o := 0) (v := .int .i64 pe) (by omega) (by omega) (by omega) (by omega))
      exact ⟨k3.2.2.1, k3.2.2.2, pe, HX.out, HPE.out, (bA2.set _).other (by omega) _, (bE2.other (by omega) _).set _, hB.trans k3.1⟩
    case pos =>
      subst hpe
      obtain ⟨ba, hba⟩ : ∃ b, out.any (fun p => decide (pn = p.1)) = b := ⟨_, rfl⟩
      have hany : out.any (fun p => decide (p.1 = pn)) = ba := by
        rw [← hba]
        congr 1
        funext p
        rw [Bool.eq_iff_iff]; simp [eq_comm]
      have hst := HST.out
      rw [if_neg (by simp), hany] at hst
      have HBA := Lib.hid hba
      have HST := Lib.hid hst
      clear hba hany hst
      have cL2 := bL2.cell
      gi_wp2
      clear cL2
      generalize w1.alloc (.cells #[.string (bb pn), .int .i64 pd] 49) = w2 at bL2 bA2 bE2 HR2 o2 hq2 K2 o20 o21 o2f o2g ⊢
      refine ⟨trivial, fun h => (by cases h), ?_⟩
      refine (CallsIn.inRound l (callsIn_wide.2 (pocon_of _ out w1.heap.size pn ba w2 (by omega) (Lib.hid HR2.out.pos) (Lib.hid o20) HBA))).mono ?_
      rintro e w3 ⟨rfl, hb3⟩
      have hq3 := hb3.size
      have bL3 := boxed_keep2 hb3 bL2
      have b3A := boxed_keep2 hb3 bA2
      have b3E := boxed_keep2 hb3 bE2
      have hrow3 : Prow w3 (g + 8) (.slice ao out.length cap) out := own_keep HR2.out hb3
      have o3 := o2.keep hb3
      have K3 := Lib.hid (K2.out.t (Kp3.of (by omega) (by omega) (by omega) hb3))
      have HR3 := Lib.hid hrow3
      clear hb3 bL2 bA2 bE2 o2 o20 o21 o2f o2g HR2 K2 hrow3
      obtain ⟨o30, o31, o3f, o3g⟩ := o3
      cases ba
      case true =>
        have HS : Hid (prtA (pre ++ [x]) = ([], 6)) := Lib.hid (HST.out.trans (if_pos rfl))
        clear HST
        have cA := b3A.cell
        have fA := b3A.frozen
        have cE := (b3E.other (B' := g) (by omega) (.slice none 0 0)).cell
        have fE := (b3E.other (B' := g) (by omega) (.slice none 0 0)).frozen
        gi_wp2
        have k5 := (K3.out.t (Kp3.set (b := g) (o := 0) (v := .slice none 0 0) (Nat.le_refl _) (by omega) (by omega) (by omega))).t (Kp3.set (b := g + 1) (o := 0) (v := .int .i64 6) (by omega) (by omega) (by omega) (by omega))
        exact ⟨k5.2.2.1, k5.2.2.2, 6, HS.out, by decide, (b3A.set _).other (by omega) _, (b3E.other (by omega) _).set _, hB.trans k5.1⟩
      case false =>
        have hst := HST.out
        rw [if_neg (by simp)] at hst
        have cL := bL3.cell
        by_cases h8 : out.length = 8
        · have HS : Hid (prtA (pre ++ [x]) = ([], 2)) := Lib.hid (hst.trans (if_pos h8))
          have i8 : decide ((8 : Int) ≤ (out.length : Int)) = true := by simp; omega
          clear HST hst h8
          have cA := b3A.cell
          have fA := b3A.frozen
          have cE := (b3E.other (B' := g) (by omega) (.slice none 0 0)).cell
          have fE := (b3E.other (B' := g) (by omega) (.slice none 0 0)).frozen
          gi_wp2
          have k5 := (K3.out.t (Kp3.set (b := g) (o := 0) (v := .slice none 0 0) (Nat.le_refl _) (by omega) (by omega) (by omega))).t (Kp3.set (b := g + 1) (o := 0) (v := .int .i64 2) (by omega) (by omega) (by omega) (by omega))
          exact ⟨k5.2.2.1, k5.2.2.2, 2, HS.out, by decide, (b3A.set _).other (by omega) _, (b3E.other (by omega) _).set _, hB.trans k5.1⟩
        · have HS : Hid (prtA (pre ++ [x]) = (out ++ [(pn, pd)], 0)) := Lib.hid (hst.trans (if_neg h8))
          have i8 : decide ((8 : Int) ≤ (out.length : Int)) = false := by simp; omega
          have hol' : out.length + 1 ≤ 8 := by omega
          clear HST hst h8 hol
          gi_wp2_with (gi_at_builtin; refine app_poIn rfl (.tmp 32) (.tmp 34) rfl (g + 8) _ out (bb pn) pd _ rfl rfl rfl HR3 (by omega) (by omega) ?_; intro ao4 cap4 w4 hrow4 hgr4; have bL4 := bL3.kept hgr4 (bL3.not_row (by decide) HR3.out); have cL4 := bL4.cell; have fL4 := bL4.frozen)
          have b4A := b3A.kept hgr4 (b3A.not_row (by decide) HR3.out)
          have b4E := b3E.kept hgr4 (b3E.not_row (by decide) HR3.out)
          have k4 := K3.out.t ((Kp3.grown hgr4 (by omega) (by omega) (by omega) (fun r e => by have := prow_at HR3.out e; omega)).t (Kp3.set (b := g + 1 + 1) (o := 0) (v := .slice ao4 (out.length + 1) cap4) (by omega) (by omega) (by omega) (by omega)))
          rw [hz1] at k4
          exact ⟨k4, out ++ [(pn, pd)], .slice ao4 (out.length + 1) cap4, HS.out, by simp; omega, bL4.set _, prow_kept hrow4 (grownBy_setCell' _ _ _) (by omega), b4A.other (by omega) _, b4E.other (by omega) _, hB.trans k4.1⟩
  case done =>
    rintro W ⟨out, v, hpa, hol, bL, hrow, bA, bE, hB⟩ hK
    obtain ⟨ao, cap, rfl, hc1, hc2⟩ := own_form hrow
    have hall := hpa.symm.trans HP.out
    obtain ⟨rfl, rfl⟩ := Prod.mk.inj hall
    have cL := bL.cell
    have cA := bA.cell
    have fA := bA.frozen
    have cE := (bE.other (B' := g) (by omega) (.slice ao out.length cap)).cell
    have fE := (bE.other (B' := g) (by omega) (.slice ao out.length cap)).frozen
    have hK1 := ((KeepsOthers.setCell W ⟨g, 0, none⟩ (.slice ao out.length cap)).trans (KeepsOthers.setCell _ ⟨g + 1, 0, none⟩ (.int .i64 0))).same W0.heap.size _ hK rfl
    have bA2 := (((bA.set (.slice ao out.length cap)).other (B' := g + 1) (by omega) (.int .i64 0)).kept (grownBy_putObj' _ W0.heap.size (.deferred none)) (by simp; omega))
    have bE2 := (((bE.other (B' := g) (by omega) (.slice ao out.length cap)).set (.int .i64 0)).kept (grownBy_putObj' _ W0.heap.size (.deferred none)) (by simp; omega))
    have hr2 := prow_kept (prow_kept (prow_kept hrow (grownBy_setCell' W g (.slice ao out.length cap)) (by omega)) (grownBy_setCell' _ (g + 1) (.int .i64 0)) (by omega)) (grownBy_putObj' _ W0.heap.size (.deferred none)) (by omega)
    have hB2 := (((hB.setCell (p := ⟨g, 0, none⟩) (Nat.le_refl _) (.slice ao out.length cap)).setCell (p := ⟨g + 1, 0, none⟩) (by simp) (.int .i64 0)).grown (grownBy_putObj' _ W0.heap.size (.deferred none)) (by have := bE2.lt; simp at this ⊢; omega) (fun k e => by cases e; omega))
    have cA2 := bA2.cell
    have cE2 := bE2.cell
    have HR2 := Lib.hid hr2
    have HB2 := Lib.hid hB2
    clear hr2 hB2 hpa hall hrow hB
    gi_wp2
    refine ⟨by simp, .inl ⟨_, _, rfl, run_takeDeferred hK1, ?_⟩⟩
    exact ⟨.tuple #[.slice ao out.length cap, .int .i64 0], by simp [results, Tryd.results22, go_sem, cA2, cE2], ⟨_, rfl, HR2.out.pos⟩, by rw [hg]; exact HB2.out⟩
  case stop =>
    rintro pre W hpre ⟨e1, hpa, he, bA, bE, hB⟩ hK
    have hall := (prtA_err hpre hpa he).symm.trans HP.out
    obtain ⟨rfl, rfl⟩ := Prod.mk.inj hall
    have bA2 := bA.kept (grownBy_putObj' _ W0.heap.size (.deferred none)) (by simp; omega)
    have bE2 := bE.kept (grownBy_putObj' _ W0.heap.size (.deferred none)) (by simp; omega)
    have hB2 := hB.grown (grownBy_putObj' _ W0.heap.size (.deferred none)) (Nat.le_of_lt bA.lt) (fun k e => by cases e; omega)
    have cA2 := bA2.cell
    have cE2 := bE2.cell
    have HB2 := Lib.hid hB2
    clear hB2 hpa hall hB he
    gi_wp2
    refine ⟨by simp, .inl ⟨_, _, rfl, run_takeDeferred hK, ?_⟩⟩
    exact ⟨.tuple #[.slice none 0 0, .int .i64 e1], by simp [results, Tryd.results22, go_sem, cA2, cE2], ⟨_, rfl, Pos.nil _⟩, by rw [hg]; exact HB2.out⟩
set_option maxHeartbeats 2000000 in
theorem ports_of (S : ByteArray) (l : List Pt) (e0 : Int) (w : World) (hM : Hid (Mx w)) (hs : S.size ≤ 1000) (h : Hid (portsL S.data.toList = (l, e0))) :
    Calls Tryd.prog 22 #[.string S] w fun e w' => ∃ v, e = .returned (.tuple #[v, .int .i64 e0]) ∧ Pos w' v l ∧ Below w.heap.size w w' := by
  by_cases hne : S.data.toList = []
  · have hp := h.out
    unfold portsL at hp
    rw [if_pos hne] at hp
    obtain ⟨rfl, rfl⟩ := Prod.mk.inj hp
    have bS := str_yes hne
    have b0 := al2 w (.cells #[.slice none 0 0] 38) (.cells #[.int .i64 0] 25)
    clear hp h hne hM hs
    go_enter Tryd.func22, Tryd.ntmps22
    go_wp2
    exact bodyPost_ret (v := .tuple #[.slice none 0 0, .int .i64 0]) (by simp [results, Tryd.results22, go_sem]) rfl ⟨_, rfl, Pos.nil _, b0⟩
  · exact (ports_loop S l e0 w hM hs hne h).mono fun _ _ ⟨⟨v, h1, h2⟩, h3⟩ => ⟨v, h1, h2, h3⟩
end Go.Proofs.YthcglcnhdgeaeaaDoor.att
