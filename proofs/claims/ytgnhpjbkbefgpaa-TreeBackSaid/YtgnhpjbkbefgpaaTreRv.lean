/-
  What the visitor of Rename does to one statement of a copy: its name, where it is a node's, and the nodes of its refs turn from one name to another. Conditions: the statement lies in a block that may be written, its refs in another one.
-/
import Derived.Test.YtgnhpjbkbefgpaaTreChg
import Derived.Deep.QuietTactic
namespace Go.Proofs.Ytgnhpjbkbefgpaa.tre
open Go.RowKit lex

/-- The first i elements of a list, turned. -/
def mix {X : Type} (f : X → X) (i : Nat) (l : List X) : List X := (l.take i).map f ++ l.drop i
theorem mix_zero {X : Type} (f : X → X) (l : List X) : mix f 0 l = l := rfl
theorem mix_end {X : Type} (f : X → X) (l : List X) : mix f l.length l = l.map f := by unfold mix; rw [List.take_length, List.drop_length, List.append_nil]
theorem mix_len {X : Type} (f : X → X) (i : Nat) (l : List X) : (mix f i l).length = l.length := by unfold mix; rw [List.length_append, List.length_map, List.length_take, List.length_drop]; omega
theorem mix_next {X : Type} (f : X → X) {i : Nat} {l : List X} (h : i < l.length) : mix f i l = (l.take i).map f ++ l[i] :: l.drop (i + 1) ∧ mix f (i + 1) l = (l.take i).map f ++ f l[i] :: l.drop (i + 1) := by
  unfold mix
  constructor
  · rw [List.drop_eq_getElem_cons h]
  · rw [List.take_add_one, List.getElem?_eq_getElem h, List.map_append, List.append_assoc]; rfl
theorem mix_set {X : Type} (f : X → X) {i : Nat} {l : List X} (h : i < l.length) : mix f (i + 1) l = (mix f i l).set i (f l[i]) := by
  rw [(mix_next f h).1, (mix_next f h).2]
  have e : ((l.take i).map f).length = i := by rw [List.length_map, List.length_take]; omega
  rw [List.set_append_right _ _ (by omega), e, Nat.sub_self]; rfl
theorem mix_get {X : Type} (f : X → X) {i : Nat} {l : List X} (h : i < l.length) (h2 : i < (mix f i l).length) : (mix f i l)[i] = l[i] := by
  have e : ((l.take i).map f).length = i := by rw [List.length_map, List.length_take]; omega
  have : (mix f i l)[i]? = some l[i] := by
    rw [(mix_next f h).1, List.getElem?_append_right (by omega), e, Nat.sub_self]; rfl
  rw [List.getElem?_eq_getElem h2] at this
  exact Option.some.inj this
theorem prsIn_set {arr : Array Value} {l : List Pr} (h : prsIn arr l) {i : Nat} (hi : i < l.length) (y : List UInt8) (hy : y.length ≤ maxLen) : prsIn (arr.setIfInBounds (i * 2) (.string (bb y))) (l.set i (y, l[i].2)) := by
  intro j hj
  rw [List.length_set] at hj
  obtain ⟨p0, p1, p2, p3⟩ := h j hj
  have hsz : j * 2 < arr.size := (Array.getElem?_eq_some_iff.1 p0).1
  by_cases e : i = j
  · subst e
    rw [List.getElem_set_self]
    refine ⟨?_, ?_, hy, p3⟩
    · rw [Array.getElem?_setIfInBounds_self, if_pos hsz]
    · rw [Array.getElem?_setIfInBounds_ne (by omega)]; exact p1
  · rw [List.getElem_set_ne (by omega)]
    refine ⟨?_, ?_, p2, p3⟩
    · rw [Array.getElem?_setIfInBounds_ne (by omega)]; exact p0
    · rw [Array.getElem?_setIfInBounds_ne (by omega)]; exact p1
/-- The name of a statement, turned. -/
def nmR (k : Int) (a b n : List UInt8) : List UInt8 := if k = 1 then mp a b n else n
/-- What a visit leaves. -/
def VisOut (g o : Nat) (n' : List UInt8) (rv : Value) (r : List Pr) (arr : Array Value) (R : Nat → Prop) (a b : List UInt8) (W : World) (e : Ending) (w' : World) : Prop :=
  e = .returned (.bool true) ∧ ∃ arr', blk w' g 43 arr' ∧ (∀ j, j ≠ o + 1 → arr'[j]? = arr[j]?) ∧ arr'[o + 1]? = some (.string (bb n')) ∧ rowP w' 39 rv (r.map (mpR a b)) R ∧ Chg (fun q => q = g ∨ R q) W w'
set_option maxRecDepth 100000 in
set_option maxHeartbeats 8000000 in
theorem visit_of (g o : Nat) (k : Int) (n : List UInt8) (rv : Value) (r : List Pr) (arr : Array Value) (R : Nat → Prop) (fb tb : Nat) (a b : List UInt8) (l : Int) (W : World)
    (h : Hid (blk W g 43 arr)) (h0 : arr[o]? = some (.int .i64 k)) (h1 : arr[o + 1]? = some (.string (bb n))) (h2 : arr[o + 2]? = some rv) (hr : Hid (rowP W 39 rv r R))
    (hf : W.cell? ⟨fb, 0, none⟩ = some (.string (bb a))) (ht : W.cell? ⟨tb, 0, none⟩ = some (.string (bb b))) (hgf : fb ≠ g) (hgt : tb ≠ g) (hRf : ¬ R fb) (hRt : ¬ R tb) (hRg : ¬ R g) (hbm : b.length ≤ maxLen) (n' : List UInt8) (hn' : Hid (nmR k a b n = n')) :
    Calls Try.prog 45 #[.pointer (some ⟨g, o, none⟩), .int .i64 l, .pointer (some ⟨fb, 0, none⟩), .pointer (some ⟨tb, 0, none⟩)] W (VisOut g o n' rv r arr R a b W) := by
  obtain ⟨ao, cap, rfl, hcap, hmax, _⟩ := id hr.out
  have hrl : r.length ≤ 9223372036854775807 := by unfold maxLen at hmax; omega
  have c0 : W.cell? ⟨g, o, none⟩ = some (.int .i64 k) := by rw [blk_cell h.out]; exact h0
  have c1 : W.cell? ⟨g, o + 1, none⟩ = some (.string (bb n)) := by rw [blk_cell h.out]; exact h1
  have c2 : W.cell? ⟨g, o + 2, none⟩ = some (.slice ao r.length cap) := by rw [blk_cell h.out]; exact h2
  have d1 : W.frozen? ⟨g, o + 1, none⟩ = false := blk_free h.out
  obtain ⟨N, hN⟩ : ∃ N, bb n = N := ⟨_, rfl⟩
  obtain ⟨F, hF⟩ : ∃ F, bb a = F := ⟨_, rfl⟩
  obtain ⟨T, hT⟩ : ∃ T, bb b = T := ⟨_, rfl⟩
  have hNF : (N.toList = F.toList) ↔ n = a := by rw [← hN, ← hF, ByteArray.toList_eq, ByteArray.toList_eq]
  have HN := Lib.hid hN
  have HF := Lib.hid hF
  have HT := Lib.hid hT
  rw [hN] at c1
  rw [hF] at hf
  rw [hT] at ht
  have HR := hr
  have H1 := Lib.hid h1
  have hosz : o + 1 < arr.size := (Array.getElem?_eq_some_iff.1 h1).1
  have HOS := Lib.hid hosz
  have HFC := Lib.hid hf
  have HTC := Lib.hid ht
  clear hN hF hT h0 h1 h2 hcap hmax hosz
  have hw : (k = 1 ∧ n = a) ∨ (k = 1 ∧ ¬ n = a) ∨ ¬ k = 1 := by
    by_cases q1 : k = 1
    · by_cases q2 : n = a
      · exact Or.inl ⟨q1, q2⟩
      · exact Or.inr (Or.inl ⟨q1, q2⟩)
    · exact Or.inr (Or.inr q1)
  rcases hw with ⟨rfl, hn⟩ | ⟨rfl, hn⟩ | hk
  case' inl =>
    have b1 : (N.toList == F.toList) = true := by rw [beq_iff_eq]; exact hNF.2 hn
    have HM : Hid (n' = b) := Lib.hid (by rw [← hn'.out]; unfold nmR; rw [if_pos rfl, hn]; unfold mp; rw [if_pos rfl])
    clear hNF hn
    go_enter Try.func45, Try.ntmps45
    go_wp2_with fail
    go_quiet (fail)
    go_wp2_with fail
    have HK : Hid (∃ arr1, blk ((W.drewN nq).setCell ⟨g, o + 1, none⟩ (.string T)) g 43 arr1 ∧ (∀ j, j ≠ o + 1 → arr1[j]? = arr[j]?) ∧ arr1[o + 1]? = some (.string (bb n'))) := Lib.hid
      ⟨_, blk_set (blk_drew h.out nq) _, fun j hj => Array.getElem?_setIfInBounds_ne (by omega), by rw [Array.getElem?_setIfInBounds_self, if_pos HOS.out, HM.out, HT.out]⟩
    have hG : Chg (fun q => q = g) W ((W.drewN nq).setCell ⟨g, o + 1, none⟩ (.string T)) := ((Chg.refl (fun q => q = g) W).drew nq).set (show g = g from rfl) _ _
    generalize (W.drewN nq).setCell ⟨g, o + 1, none⟩ (.string T) = w1 at HK hG ⊢
  case' inr.inl =>
    have b1 : (N.toList == F.toList) = false := by rw [beq_eq_false_iff_ne]; exact fun e => hn (hNF.1 e)
    have HM : Hid (n' = n) := Lib.hid (by rw [← hn'.out]; unfold nmR; rw [if_pos rfl]; unfold mp; rw [if_neg hn])
    clear hNF hn
    go_enter Try.func45, Try.ntmps45
    go_wp2_with fail
    go_quiet (fail)
    go_wp2_with fail
    have HK : Hid (∃ arr1, blk (W.drewN nq) g 43 arr1 ∧ (∀ j, j ≠ o + 1 → arr1[j]? = arr[j]?) ∧ arr1[o + 1]? = some (.string (bb n'))) := Lib.hid ⟨_, blk_drew h.out nq, fun _ _ => rfl, by rw [HM.out]; exact H1.out⟩
    have hG : Chg (fun q => q = g) W (W.drewN nq) := (Chg.refl _ W).drew nq
    generalize W.drewN nq = w1 at HK hG ⊢
  case' inr.inr =>
    have b1 : (k == 1) = false := by rw [beq_eq_false_iff_ne]; exact hk
    have HM : Hid (n' = n) := Lib.hid (by rw [← hn'.out]; unfold nmR; rw [if_neg hk])
    clear hNF hk
    go_enter Try.func45, Try.ntmps45
    go_wp2_with fail
    go_quiet (fail)
    go_wp2_with fail
    have HK : Hid (∃ arr1, blk (W.drewN nq) g 43 arr1 ∧ (∀ j, j ≠ o + 1 → arr1[j]? = arr[j]?) ∧ arr1[o + 1]? = some (.string (bb n'))) := Lib.hid ⟨_, blk_drew h.out nq, fun _ _ => rfl, by rw [HM.out]; exact H1.out⟩
    have hG : Chg (fun q => q = g) W (W.drewN nq) := (Chg.refl _ W).drew nq
    generalize W.drewN nq = w1 at HK hG ⊢
  all_goals
    obtain ⟨arr1, hk1, hs1, hn1⟩ := HK.out
    have HG := Lib.hid hG
    have HF1 := Lib.hid (hG.cell hgf HFC.out)
    have HT1 := Lib.hid (hG.cell hgt HTC.out)
    have HC2 : Hid (w1.cell? ⟨g, o + 2, none⟩ = some (.slice ao r.length cap)) := Lib.hid (by rw [blk_cell hk1, hs1 _ (by omega), ← blk_cell h.out]; exact c2)
    have HRow1 : Hid (rowP w1 39 (.slice ao r.length cap) r R) := Lib.hid (hr.out.keep (fun q hq => hG.block q (fun e => hRg (by rw [← e]; exact hq))))
    have HK1 := Lib.hid hk1
    have HS1 := Lib.hid hs1
    have HN1 := Lib.hid hn1
    clear c0 c1 c2 d1 hf ht b1 hk1 hs1 hn1 hG HK HM
    go_loopw [30] (fun iv wr => ∃ i : Nat, i ≤ r.length ∧ iv = .int .i64 i ∧ rowP wr 39 (.slice ao r.length cap) (mix (mpR a b) i r) R ∧ Chg R w1 wr) (fun iv _ => r.length - (intOf iv).toNat)
    case atStart => exact ⟨0, Nat.zero_le _, rfl, HRow1.out, Chg.refl _ _⟩
    case round =>
      obtain ⟨i, hi, rfl, hrow, hch⟩ := hrel
      rename World => wr
      have HRW := Lib.hid hrow
      have HCH := Lib.hid hch
      have c2 := hch.cell hRg HC2.out
      have hf := hch.cell hRf HF1.out
      have ht := hch.cell hRt HT1.out
      clear hrow hch
      by_cases hlt : i < r.length
      · obtain ⟨ao', cap', e, hq1, hq2, hrow⟩ := HRW.out
        injection e with e1 e2 e3
        subst e1 e3
        have hml := mix_len (mpR a b) i r
        obtain ⟨g', arrR, rfl, hRg', hkR, hp⟩ := hrow (by omega)
        obtain ⟨p0, p1, p2, p3⟩ := hp i (by omega)
        rw [mix_get _ hlt] at p0 p1 p2 p3
        have HPI := Lib.hid hp
        have HKR := Lib.hid hkR
        have HRG := Lib.hid hRg'
        have q0 : wr.cell? ⟨g', i * 2, none⟩ = some (.string (bb r[i].1)) := by rw [blk_cell hkR]; exact p0
        have q1 : wr.frozen? ⟨g', i * 2, none⟩ = false := blk_free hkR
        obtain ⟨x, hxe⟩ : ∃ x, r[i] = x := ⟨_, rfl⟩
        have HXE := Lib.hid hxe
        rw [hxe] at q0 p3
        obtain ⟨X, hX⟩ : ∃ X, bb x.1 = X := ⟨_, rfl⟩
        have hXF : (X.toList = F.toList) ↔ x.1 = a := by rw [← hX, ← HF.out, ByteArray.toList_eq, ByteArray.toList_eq]
        rw [hX] at q0
        have i0 : (0 : Int) ≤ (i : Int) := by omega
        have i1 : (i : Int) < (r.length : Int) := by omega
        rw [hml] at hq1
        clear e2 hrow hkR hp p0 p1 p2 hX hxe hml hRg'
        by_cases hxa : x.1 = a
        · have b1 : (X.toList == F.toList) = true := by rw [beq_iff_eq]; exact hXF.2 hxa
          have HMP : Hid (mpR a b r[i] = (b, r[i].2)) := Lib.hid (by rw [HXE.out]; unfold mpR mp; rw [if_pos hxa])
          clear hXF hxa
          go_wp2_with fail
          go_quiet (fail)
          have hk2 : blk (wr.drewN nq) g' 39 arrR := blk_drew HKR.out nq
          have HC2 := Lib.hid (HCH.out.drew nq)
          have m2 : (wr.drewN nq).cell? ⟨g, o + 2, none⟩ = some (.slice (some ⟨g', 0, none⟩) r.length cap) := c2
          have mt : (wr.drewN nq).cell? ⟨tb, 0, none⟩ = some (.string T) := ht
          have m0 : (wr.drewN nq).cell? ⟨g', i * 2, none⟩ = some (.string X) := q0
          have m1 : (wr.drewN nq).frozen? ⟨g', i * 2, none⟩ = false := q1
          generalize wr.drewN nq = wn at hk2 HC2 m2 mt m0 m1 ⊢
          have HK2 := Lib.hid hk2
          clear hk2
          go_wp2_with fail
          go_region_law (fail)
          all_goals
            go_wp2_with fail
            go_roundw
            case rel =>
              refine ⟨i + 1, by omega, by go_num, ⟨_, cap, by rw [mix_len], by rw [mix_len]; omega, hq2, fun _ => ⟨g', _, rfl, HRG.out, blk_set (t := 39) (o := i * 2) (W := wn.drew) (arr := arrR) HK2.out _, ?_⟩⟩, (HC2.out.drew1).set HRG.out _ _⟩
              rw [mix_set _ hlt, HMP.out]
              have hps := prsIn_set HPI.out (i := i) (by rw [mix_len]; exact hlt) b hbm
              rw [mix_get _ hlt, HT.out] at hps
              exact hps
            case measure => simp [intOf]; omega
        · have b1 : (X.toList == F.toList) = false := by rw [beq_eq_false_iff_ne]; exact fun e => hxa (hXF.1 e)
          have HMP : Hid (mpR a b r[i] = r[i]) := Lib.hid (by rw [HXE.out]; unfold mpR mp; rw [if_neg hxa])
          clear hXF hxa
          go_wp2_with fail
          go_quiet (fail)
          have HC2 := Lib.hid (HCH.out.drew nq)
          have HR2 := Lib.hid (show rowP (wr.drewN nq) 39 (.slice (some ⟨g', 0, none⟩) r.length cap) (mix (mpR a b) i r) R from HRW.out)
          generalize wr.drewN nq = wn at HC2 HR2 ⊢
          go_wp2
          go_roundw
          case rel =>
            refine ⟨i + 1, by omega, by go_num, ?_, HC2.out⟩
            rw [(mix_next _ hlt).2, HMP.out, ← (mix_next _ hlt).1]; exact HR2.out
          case measure => simp [intOf]; omega
      · obtain rfl : i = r.length := by omega
        have HE : Hid (mix (mpR a b) r.length r = r.map (mpR a b)) := Lib.hid (mix_end _ _)
        go_wp2
        go_ret
        refine ⟨rfl, arr1, HCH.out.blk hRg HK1.out, HS1.out, HN1.out, by rw [← HE.out]; exact HRW.out, (HG.out.mono (fun q e => Or.inl e)).trans (HCH.out.mono (fun q e => Or.inr e))⟩
end Go.Proofs.Ytgnhpjbkbefgpaa.tre
