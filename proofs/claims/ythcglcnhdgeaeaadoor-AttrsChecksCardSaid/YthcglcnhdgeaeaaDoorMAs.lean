/-
  What Number of the reference returns. Condition: values of at most 20000 bytes.
  What split of the reference returns: a row of texts. Condition: texts of at most 20000 bytes.
  What Mode and Side of the reference return. No condition.
  Lists of ports in memory, rows of ports that a call makes, and plain facts on a part's first space. No condition.
-/
import Derived.Test.YthcglcnhdgeaeaaDoorMAv
import Derived.Test.YthcglcnhdgeaeaaDoorMAg
import Derived.Test.YthcglcnhdgeaeaaDoorMTn
import Derived.Test.YthcglcnhdgeaeaaDoorMTw
namespace Go.Proofs.YthcglcnhdgeaeaaDoor.att
open Go.RowKit lex tre

theorem rknown_at (k : Int) (s : ByteArray) (f lo hi no : Int) (w : World) (h : Hid (knownL k s.data.toList = ⟨f, lo, hi, no⟩)) :
    Calls Tryd.prog 25 #[.int .i64 k, .string s] w fun e w' => e = .returned (.agg #[.int .i64 f, .int .i64 lo, .int .i64 hi, .int .i64 no]) ∧ Below w.heap.size w w' := rknown_of k s _ w h
theorem blk_below {w w' : World} {g : Nat} {t : TypeId} {arr : Array Value} (h : blk w g t arr) (hb : Below w.heap.size w w') : blk w' g t arr := by
  have := blk_lt h
  unfold blk at h ⊢; rw [hb.block g this]; exact h
theorem blk_free {W : World} {g o : Nat} {t : TypeId} {arr : Array Value} (h : blk W g t arr) : W.frozen? ⟨g, o, none⟩ = false := by
  unfold blk at h; simp [World.frozen?, h]
theorem blk_set {W : World} {g o : Nat} {t : TypeId} {arr : Array Value} (h : blk W g t arr) (u : Value) : blk (W.setCell ⟨g, o, none⟩ u) g t (arr.setIfInBounds o u) := by
  unfold blk at h ⊢
  unfold World.setCell
  rw [Array.getElem?_modify, if_pos rfl, h]
  rfl
theorem bl_set {n g o : Nat} {W w : World} {v : Value} (hg : n ≤ g) (h : Below n W w) : Below n W (w.setCell ⟨g, o, none⟩ v) := h.setCell hg _
/-- A rule in memory. -/
def ruB (w : World) (g : Nat) (f lo hi no : Int) : Prop := blk w g 45 #[.int .i64 f, .int .i64 lo, .int .i64 hi, .int .i64 no]
theorem ruB.cells {w : World} {g : Nat} {f lo hi no : Int} (h : ruB w g f lo hi no) : w.cell? ⟨g, 0, none⟩ = some (.int .i64 f) ∧ w.cell? ⟨g, 1, none⟩ = some (.int .i64 lo) ∧ w.cell? ⟨g, 2, none⟩ = some (.int .i64 hi) ∧ w.cell? ⟨g, 3, none⟩ = some (.int .i64 no) ∧
    w.frozen? ⟨g, 0, none⟩ = false ∧ w.frozen? ⟨g, 1, none⟩ = false ∧ w.frozen? ⟨g, 2, none⟩ = false ∧ w.frozen? ⟨g, 3, none⟩ = false := by
  unfold ruB at h
  exact ⟨by rw [blk_cell h]; rfl, by rw [blk_cell h]; rfl, by rw [blk_cell h]; rfl, by rw [blk_cell h]; rfl, blk_free h, blk_free h, blk_free h, blk_free h⟩
theorem ruB.store {w : World} {g : Nat} {f lo hi no : Int} (h : ruB w g 0 0 0 0) : ruB ((((w.setCell ⟨g, 0, none⟩ (.int .i64 f)).setCell ⟨g, 1, none⟩ (.int .i64 lo)).setCell ⟨g, 2, none⟩ (.int .i64 hi)).setCell ⟨g, 3, none⟩ (.int .i64 no)) g f lo hi no := by
  unfold ruB at h ⊢
  have h1 := blk_set (o := 3) (blk_set (o := 2) (blk_set (o := 1) (blk_set (o := 0) h (.int .i64 f)) (.int .i64 lo)) (.int .i64 hi)) (.int .i64 no)
  simpa using h1
theorem getL_in {l : List Pr} {k x : List UInt8} (h : getL l k = (x, true)) : ∃ r ∈ l, r.2 = x := by
  induction l with
  | nil => cases h
  | cons a t ih =>
    rw [getL_cons] at h
    split at h
    · obtain ⟨r, h1, h2⟩ := ih h; exact ⟨r, List.mem_cons_of_mem _ h1, h2⟩
    · split at h
      · exact ⟨a, List.mem_cons_self, (Prod.mk.inj h).1⟩
      · cases h
set_option maxRecDepth 100000 in
set_option maxHeartbeats 4000000 in
theorem rnum_of (k : Int) (v : Value) (l : List Pr) (s : ByteArray) (n : Int) (w : World) (h : Hid (Prs w v l)) (hb : Hid (∀ r ∈ l, r.2.length ≤ 20000)) (hr : Hid (numL k l s.data.toList = n)) :
    Calls Tryd.prog 21 #[.int .i64 k, v, .string s] w fun e w' => e = .returned (.int .i64 n) ∧ Below w.heap.size w w' := by
  obtain ⟨ao, cap, rfl, _, _, _⟩ := id h.out
  have hn := hr.out
  unfold numL at hn
  obtain ⟨f, lo, hi, no, hx⟩ : ∃ f lo hi no, knownL k s.data.toList = ⟨f, lo, hi, no⟩ := ⟨_, _, _, _, rfl⟩
  have HX := Lib.hid hx
  rw [hx] at hn
  simp only at hn
  clear hr hx
  by_cases hf : f ≠ 2 ∧ f ≠ 3
  · rw [if_pos hf] at hn
    subst hn
    have b2 : (f != 2) = true := by rw [bne_iff_ne]; exact hf.1
    have b3 : (f != 3) = true := by rw [bne_iff_ne]; exact hf.2
    clear hf
    go_enter Tryd.func21, Tryd.ntmps21
    go_wp2_with fail
    refine (rknown_at k s f lo hi no _ HX).mono ?_
    rintro e w1 ⟨rfl, hb1⟩
    have HB2 := Lib.hid (below_keep (al1 w1 (.cells #[.int .i64 f, .int .i64 lo, .int .i64 hi, .int .i64 no] 45)) hb1)
    go_wp2
    go_ret
    exact ⟨rfl, HB2.out⟩
  rw [if_neg hf] at hn
  have bp : ((f != 2) && (f != 3)) = false := by
    by_cases e : f = 2
    · subst e; rfl
    · by_cases e3 : f = 3
      · subst e3; rfl
      · exact absurd ⟨e, e3⟩ hf
  have hf2 : f = 2 ∨ f = 3 := by
    by_cases e : f = 2
    · exact Or.inl e
    · by_cases e3 : f = 3
      · exact Or.inr e3
      · exact absurd ⟨e, e3⟩ hf
  clear hf bp
  obtain ⟨x, r, hg⟩ : ∃ x r, getL l s.data.toList = (x, r) := ⟨_, _, rfl⟩
  have HG := Lib.hid hg
  rw [hg] at hn
  simp only at hn
  obtain ⟨b2, hb2⟩ : ∃ b, (f != 2) = b := ⟨_, rfl⟩
  have b3 : b2 = true → (f != 3) = false := by
    intro e
    rcases hf2 with rfl | rfl
    · rw [← hb2] at e; cases e
    · rfl
  clear hg hf2
  cases r
  case false =>
    rw [if_pos rfl] at hn
    subst hn
    cases b2
    case' true => have b3' := b3 rfl
    all_goals
      clear b3
      go_enter Tryd.func21, Tryd.ntmps21
      go_wp2_with fail
      refine (rknown_at k s f lo hi no _ HX).mono ?_
      rintro e w1 ⟨rfl, hb1⟩
      have HB2 := Lib.hid (below_keep (al1 w1 (.cells #[.int .i64 f, .int .i64 lo, .int .i64 hi, .int .i64 no] 45)) hb1)
      have HK2 : Hid (ruB (w1.alloc (.cells #[.int .i64 f, .int .i64 lo, .int .i64 hi, .int .i64 no] 45)) w1.heap.size f lo hi no) := Lib.hid (blk_new w1 _ _)
      clear hb1
      go_wp2_with fail
      generalize w1.alloc (.cells #[.int .i64 f, .int .i64 lo, .int .i64 hi, .int .i64 no] 45) = w2 at HB2 HK2 ⊢
      generalize w1.heap.size = F at HK2 ⊢
      refine (rget_of _ l s x false w2 (Lib.hid (h.out.keep HB2.out)) HG).mono ?_
      rintro e w3 ⟨rfl, rfl⟩
      obtain ⟨c0, c1, c2, c3, -, -, -, -⟩ := HK2.out.cells
      go_wp2
      go_ret
      exact ⟨rfl, HB2.out⟩
  rw [if_neg (by decide)] at hn
  have hxl : x.length ≤ 20000 := by obtain ⟨q, q1, q2⟩ := getL_in HG.out; rw [← q2]; exact hb.out q q1
  obtain ⟨m, o, hv⟩ : ∃ m o, valR ⟨f, lo, hi, no⟩ x = (m, o) := ⟨_, _, rfl⟩
  have HV : Hid (valR ⟨f, lo, hi, no⟩ (bb x).data.toList = (m, o)) := Lib.hid hv
  have HXl : Hid ((bb x).size ≤ 20000) := Lib.hid (by show x.toArray.size ≤ 20000; simpa using hxl)
  rw [hv] at hn
  simp only at hn
  clear hv hxl
  have HN := Lib.hid hn
  clear hn
  cases b2
  case' true => have b3' := b3 rfl
  all_goals
    clear b3
    go_enter Tryd.func21, Tryd.ntmps21
    go_wp2_with fail
    refine (rknown_at k s f lo hi no _ HX).mono ?_
    rintro e w1 ⟨rfl, hb1⟩
    have HB2 := Lib.hid (below_keep (al1 w1 (.cells #[.int .i64 f, .int .i64 lo, .int .i64 hi, .int .i64 no] 45)) hb1)
    have HK2 : Hid (ruB (w1.alloc (.cells #[.int .i64 f, .int .i64 lo, .int .i64 hi, .int .i64 no] 45)) w1.heap.size f lo hi no) := Lib.hid (blk_new w1 _ _)
    clear hb1
    go_wp2_with fail
    generalize w1.alloc (.cells #[.int .i64 f, .int .i64 lo, .int .i64 hi, .int .i64 no] 45) = w2 at HB2 HK2 ⊢
    generalize w1.heap.size = F at HK2 ⊢
    refine (rget_of _ l s x true w2 (Lib.hid (h.out.keep HB2.out)) HG).mono ?_
    rintro e w3 ⟨rfl, rfl⟩
    obtain ⟨c0, c1, c2, c3, -, -, -, -⟩ := HK2.out.cells
    go_wp2_with fail
    refine (rvalue_of f lo hi no (bb x) m o w2 HXl.out HV).mono ?_
    rintro e w4 ⟨rfl, hb4⟩
    have HB4 := Lib.hid (below_keep hb4 HB2.out)
    have HK4 : Hid (ruB w4 F f lo hi no) := Lib.hid (blk_below HK2.out hb4)
    clear hb4 c0 c1 c2 c3 HK2
    obtain ⟨c0, c1, c2, c3, -, -, -, -⟩ := HK4.out.cells
    cases o
    · have hn := HN.out
      rw [if_neg (by decide)] at hn
      subst hn
      go_wp2
      go_ret
      exact ⟨rfl, HB4.out⟩
    · have hn := HN.out
      rw [if_pos rfl] at hn
      subst hn
      go_wp2
      go_ret
      exact ⟨rfl, HB4.out⟩
end Go.Proofs.YthcglcnhdgeaeaaDoor.att
namespace Go.Proofs.YthcglcnhdgeaeaaDoor.att
open Go.RowKit lex tre

/-- A row of texts that the call owns. -/
def Brow (w : World) (B : Nat) (v : Value) (l : List ByteArray) : Prop := w.ownsRow B 9 1 v l.length (l.map Value.string)
theorem app_txt {w : World} {ops : Array Oper} {rest : List Oper} {o : Oper} {a : Act} {Q : Exit → Act → World → Prop} (hg : o.guard = none) (p y : Operand) (ho : o.op = .call { callee := .builtin .append, args := #[p, y], argTypes := #[65, 65] })
    (B : Nat) (v : Value) (l : List ByteArray) (x : ByteArray) (H : Nat) (hH : w.heap.size = H) (hs : a.eval p = v) (hx : a.eval y = .slice (some ⟨H, 0, none⟩) 1 1) (h : Hid (Brow w B v l)) (hl : l.length ≤ 1000000) (hB : B ≤ w.heap.size)
    (hK : ∀ ao cap w', Brow w' B (.slice ao (l.length + 1) cap) (l ++ [x]) → w.grownBy w' v.ownBlock → wpList Tryd.prog ops Q rest (a.put o.dst (.slice ao (l.length + 1) cap)) w') : wpList Tryd.prog ops Q (o :: rest) a (w.alloc (.cells #[.string x] 9)) := by
  subst hH
  obtain ⟨i0, hi, hz0, hz1, hz2⟩ := info_str1
  refine wpList_append_own _ hg p y 65 ho B 9 i0 (.string ⟨#[]⟩) 1 16 Tryd.underlying65 hi hz0 hz1 hz2 rfl (by decide) v l.length _ hs (World.ownsRow.alloc h.out _) ⟨w.heap.size, 0, none⟩ 1 1 [.string x] hx rfl ?_ (by simp [Value.oneCell']) (by unfold maxLen; omega) (by omega) (by simp; omega) ?_
  · intro j u hj
    rw [add_at, Nat.zero_add, blk_cell (blk_new w #[.string x] 9), ← hj]
    simp
  · intro v' w' hown hgrow _
    obtain ⟨ao, cap, rfl, _, _⟩ := own_form hown
    refine hK ao cap w' ?_ ?_
    · unfold Brow; rw [List.length_append, List.map_append]; exact hown
    · refine ⟨hgrow.os, hgrow.tape, hgrow.output, Nat.le_trans (by simp) hgrow.size, fun k hk hne => ?_⟩
      rw [hgrow.block k (by simp; omega) hne, heap_alloc_old w _ hk]
def toL (x : ByteArray) : List UInt8 := x.data.toList
theorem ext_L (s : ByteArray) (a b : Nat) : (s.extract a b).data.toList = (s.data.toList.drop a).take (b - a) := by
  rw [ByteArray.data_extract, Array.toList_extract, List.extract_eq_take_drop]
theorem at_L (s : ByteArray) (i : Nat) (h : i < s.size) : s.data.toList.drop i = s[i] :: s.data.toList.drop (i + 1) := by
  rw [List.drop_eq_getElem_cons (by simpa using h)]; rfl
theorem take_more (L : List UInt8) (f i : Nat) (h : i < L.length) (hf : f ≤ i) : (L.drop f).take (i + 1 - f) = (L.drop f).take (i - f) ++ [L[i]] := by
  rw [show i + 1 - f = (i - f) + 1 by omega, List.take_succ_eq_append_getElem (by rw [List.length_drop]; omega)]
  simp [show f + (i - f) = i by omega]
set_option maxRecDepth 100000 in
set_option maxHeartbeats 4000000 in
theorem rsplit_of (s : ByteArray) (w : World) (hs : s.size ≤ 20000) :
    Calls Tryd.prog 43 #[.string s] w fun e w' => ∃ ao cap D, e = .returned (.slice ao D.length cap) ∧ Brow w' w.heap.size (.slice ao D.length cap) D ∧ D.map toL = splitL s.data.toList ∧ Below w.heap.size w w' := by
  obtain ⟨R, hR⟩ : ∃ R, splitL s.data.toList = R := ⟨_, rfl⟩
  have HR : Hid (splitA ((s.data.toList.drop 0).take (0 - 0)) (s.data.toList.drop 0) = R) := Lib.hid (by rw [← hR]; rfl)
  rw [hR]
  have HO : Hid (Brow (w.alloc (.cells #[] 9)) w.heap.size (.slice (some ⟨w.heap.size, 0, none⟩) 0 0) []) := Lib.hid (World.ownsRow_made (base := w.heap.size) (e := 9) (size := 1) w #[] 0 (Nat.le_refl _) (by decide) rfl)
  have HB := Lib.hid (al1 w (.cells #[] 9))
  clear hR
  go_enter Tryd.func43, Tryd.ntmps43
  go_wp2_with fail
  generalize w.alloc (.cells #[] 9) = w0 at HO HB ⊢
  go_loopw [3, 4, 5] (fun ov fv iv wr => ∃ (f i : Nat) (D : List ByteArray) (q : Option Addr) (c : Nat), ov = .slice q D.length c ∧ fv = .int .i64 f ∧ iv = .int .i64 i ∧ f ≤ i ∧ i ≤ s.size ∧ D.length ≤ i ∧ D.map toL ++ splitA ((s.data.toList.drop f).take (i - f)) (s.data.toList.drop i) = R ∧ Brow wr w.heap.size (.slice q D.length c) D ∧ Below w.heap.size w wr) (fun _ _ iv _ => s.size - (intOf iv).toNat)
  case atStart => exact ⟨0, 0, [], _, 0, rfl, rfl, rfl, Nat.le_refl _, Nat.zero_le _, Nat.zero_le _, HR.out, HO.out, HB.out⟩
  case round =>
    obtain ⟨f, i, D, q, c, rfl, rfl, rfl, hfi, hi, hD, hfe, hown, hbel⟩ := hrel
    rename World => wr
    have HOw := Lib.hid hown
    have HBw := Lib.hid hbel
    have hdl : D.length ≤ 1000000 := by omega
    have hgb : w.heap.size ≤ wr.heap.size := hbel.size
    clear HO HB HR hown hbel
    have hsl : s.data.toList.length = s.size := by simp
    by_cases hlt : i + 1 < s.size
    · rw [at_L s i (by omega), at_L s (i + 1) hlt] at hfe
      have hta := take_more s.data.toList f i (by omega) hfi
      have hgi : s.data.toList[i]'(by omega) = s[i] := rfl
      obtain ⟨x, hx⟩ : ∃ x, s[i]'(by omega) = x := ⟨_, rfl⟩
      obtain ⟨y, hy⟩ : ∃ y, s[i + 1]'hlt = y := ⟨_, rfl⟩
      by_cases hc : x = 44 ∧ y = 32
      · rw [hx, hy] at hfe
        have hp : splitA ((s.data.toList.drop f).take (i - f)) (x :: y :: s.data.toList.drop (i + 1 + 1)) = (s.data.toList.drop f).take (i - f) :: splitA [] (s.data.toList.drop (i + 1 + 1)) := by rw [splitA, if_pos hc]
        rw [hp] at hfe
        have HF := Lib.hid hfe
        have b1 : ((s[i].toNat : Int) == 44) = true := by rw [hx, hc.1]; rfl
        have b2 : ((s[i + 1].toNat : Int) == 32) = true := by rw [hy, hc.2]; rfl
        have HX : Hid ((s.extract f i).data.toList = (s.data.toList.drop f).take (i - f)) := Lib.hid (ext_L s f i)
        clear hp hfe hx hy hc hta hgi
        go_wp2_with (at_builtin; refine app_txt rfl (.tmp 23) (.tmp 28) rfl w.heap.size _ D (s.extract f i) _ rfl rfl rfl HOw hdl hgb ?_; intro oz cz wz own7 grow7; have HOz := Lib.hid own7; have HGz := Lib.hid grow7; clear own7 grow7)
        have HLz : Hid (Below w.heap.size w wz) := Lib.hid (below_grown HBw.out HGz.out (fun p hp => (World.ownsRow.lt HOw.out p hp).1) hgb)
        have hlz : (D ++ [s.extract f i]).length = D.length + 1 := by simp
        have HFz : Hid ((D ++ [s.extract f i]).map toL ++ splitA ((s.data.toList.drop (i + 2)).take (i + 2 - (i + 2))) (s.data.toList.drop (i + 2)) = R) := Lib.hid (by
          rw [← HF.out, List.map_append, Nat.sub_self, List.take_zero, List.append_assoc]
          show _ ++ ([toL (s.extract f i)] ++ _) = _
          unfold toL; rw [HX.out]; rfl)
        go_roundw
        case rel => exact ⟨i + 2, i + 2, D ++ [s.extract f i], oz, cz, by rw [hlz], by go_num, by go_num, Nat.le_refl _, by omega, by rw [hlz]; omega, HFz.out, by rw [hlz]; exact HOz.out, HLz.out⟩
        case measure => simp [intOf]; omega
      · rw [hx, hy] at hfe
        have hp : splitA ((s.data.toList.drop f).take (i - f)) (x :: y :: s.data.toList.drop (i + 1 + 1)) = splitA ((s.data.toList.drop f).take (i - f) ++ [x]) (y :: s.data.toList.drop (i + 1 + 1)) := by rw [splitA, if_neg hc]
        rw [hp, ← hx, ← hgi, ← hta, ← hy, ← at_L s (i + 1) hlt] at hfe
        have HF := Lib.hid hfe
        obtain ⟨q1, hq1⟩ : ∃ b, ((s[i].toNat : Int) == 44) = b := ⟨_, rfl⟩
        obtain ⟨q2, hq2⟩ : ∃ b, ((s[i + 1].toNat : Int) == 32) = b := ⟨_, rfl⟩
        have hq : q1 = true → q2 = false := by
          intro e
          rw [← hq2, beq_eq_false_iff_ne]
          intro e2
          rw [← hq1, beq_iff_eq] at e
          refine hc ⟨?_, ?_⟩
          · rw [← hx]; exact UInt8.toNat_inj.1 (by simpa using (Int.ofNat.inj e))
          · rw [← hy]; exact UInt8.toNat_inj.1 (by simpa using (Int.ofNat.inj e2))
        clear hp hfe hx hy hc hta hgi
        cases q1
        · go_wp2
          go_roundw
          case rel => exact ⟨f, i + 1, D, q, c, rfl, rfl, by go_num, by omega, by omega, by omega, HF.out, HOw.out, HBw.out⟩
          case measure => simp [intOf]; omega
        · have hq' := hq rfl
          rw [hq'] at hq2
          go_wp2
          go_roundw
          case rel => exact ⟨f, i + 1, D, q, c, rfl, rfl, by go_num, by omega, by omega, by omega, HF.out, HOw.out, HBw.out⟩
          case measure => simp [intOf]; omega
    · have hend : splitA ((s.data.toList.drop f).take (i - f)) (s.data.toList.drop i) = [s.data.toList.drop f] := by
        by_cases h1 : i = s.size
        · subst h1
          rw [List.drop_of_length_le (i := s.size) (l := s.data.toList) (by omega), List.take_of_length_le (by rw [List.length_drop]; omega)]; rfl
        · have h2 : i < s.size := by omega
          have hta := take_more s.data.toList f i (by omega) hfi
          rw [at_L s i h2, List.drop_of_length_le (show s.data.toList.length ≤ i + 1 by omega)]
          show [(s.data.toList.drop f).take (i - f) ++ [s[i]]] = _
          rw [show s[i] = s.data.toList[i]'(by omega) from rfl, ← hta, List.take_of_length_le (by rw [List.length_drop]; omega)]
      rw [hend] at hfe
      have HF := Lib.hid hfe
      clear hend hfe
      have HX : Hid ((s.extract f s.size).data.toList = s.data.toList.drop f) := Lib.hid (by rw [ext_L, List.take_of_length_le (by rw [List.length_drop]; omega)])
      go_wp2_with (at_builtin; refine app_txt rfl (.tmp 35) (.tmp 39) rfl w.heap.size _ D (s.extract f s.size) _ rfl rfl rfl HOw hdl hgb ?_; intro oz cz wz own7 grow7; have HOz := Lib.hid own7; have HGz := Lib.hid grow7; clear own7 grow7)
      have HLz : Hid (Below w.heap.size w wz) := Lib.hid (below_grown HBw.out HGz.out (fun p hp => (World.ownsRow.lt HOw.out p hp).1) hgb)
      have hlz : (D ++ [s.extract f s.size]).length = D.length + 1 := by simp
      go_ret
      refine ⟨oz, cz, D ++ [s.extract f s.size], by rw [hlz]; rfl, by rw [hlz]; exact HOz.out, ?_, HLz.out⟩
      rw [← HF.out, List.map_append]
      show _ ++ [toL (s.extract f s.size)] = _
      unfold toL; rw [HX.out]
end Go.Proofs.YthcglcnhdgeaeaaDoor.att
namespace Go.Proofs.YthcglcnhdgeaeaaDoor.att
open Go.RowKit lex tre

theorem ad0 (b k : Nat) : (⟨b, 0, none⟩ : Addr).add k = ⟨b, k, none⟩ := by
  unfold Addr.add; split
  · subst_vars; rfl
  · simp
theorem nl_lit (w : World) (l : List (List UInt8)) (hl : l.length ≤ maxLen) (t : TypeId) : Nl (w.alloc (.cells (l.map fun x => .string (bb x)).toArray t)) (.slice (some ⟨w.heap.size, 0, none⟩) l.length l.length) l := by
  refine ⟨_, l.length, rfl, Nat.le_refl _, hl, fun _ => ⟨_, rfl, fun i hi => ?_⟩⟩
  have h := heap_alloc_new w (.cells (l.map fun x => Value.string (bb x)).toArray t)
  rw [ad0]
  unfold World.cell?
  simp only [h]
  simp [hi]
theorem idx_step (s x : List UInt8) (t : List (List UInt8)) (i : Int) : idxA s (x :: t) i = if x = s then i else idxA s t (i + 1) := rfl
set_option maxRecDepth 100000 in
set_option maxHeartbeats 4000000 in
theorem rmode_of (s : ByteArray) (n : Int) (w : World) (hr : Hid (idxA s.data.toList modes 0 = n)) :
    Calls Tryd.prog 30 #[.string s] w fun e w' => e = .returned (.int .i64 n) ∧ Below w.heap.size w w' := by
  have hlit := nl_lit w modes (by decide) 9
  have hn : modes.length = 5 := rfl
  have HL : Hid (Nl (w.alloc (.cells #[.string ⟨#[108, 97, 121, 101, 114, 101, 100]⟩, .string ⟨#[111, 114, 116, 104, 111, 103, 111, 110, 97, 108]⟩, .string ⟨#[115, 116, 114, 97, 105, 103, 104, 116]⟩, .string ⟨#[116, 105, 100, 121]⟩, .string ⟨#[114, 97, 100, 105, 97, 108]⟩] 9)) (.slice (some ⟨w.heap.size, 0, none⟩) 5 5) modes) := Lib.hid hlit
  have HB := Lib.hid (al1 w (.cells #[.string ⟨#[108, 97, 121, 101, 114, 101, 100]⟩, .string ⟨#[111, 114, 116, 104, 111, 103, 111, 110, 97, 108]⟩, .string ⟨#[115, 116, 114, 97, 105, 103, 104, 116]⟩, .string ⟨#[116, 105, 100, 121]⟩, .string ⟨#[114, 97, 100, 105, 97, 108]⟩] 9))
  have HN := Lib.hid hn
  clear hlit hn
  go_enter Tryd.func30, Tryd.ntmps30
  go_wp2_with fail
  generalize w.alloc (.cells #[.string ⟨#[108, 97, 121, 101, 114, 101, 100]⟩, .string ⟨#[111, 114, 116, 104, 111, 103, 111, 110, 97, 108]⟩, .string ⟨#[115, 116, 114, 97, 105, 103, 104, 116]⟩, .string ⟨#[116, 105, 100, 121]⟩, .string ⟨#[114, 97, 100, 105, 97, 108]⟩] 9) = w0 at HL HB ⊢
  go_loop [4] (fun iv => ∃ k : Nat, iv = .int .i64 k ∧ k ≤ 5 ∧ idxA s.data.toList (modes.drop k) k = n) (fun iv => 5 - (intOf iv).toNat)
  case atStart => exact ⟨0, rfl, Nat.zero_le _, hr.out⟩
  case round =>
    obtain ⟨k, rfl, hk, hfe⟩ := hrel
    by_cases hlt : k < 5
    · obtain ⟨A, e, hcell⟩ := HL.out.get (i := k) (by rw [HN.out]; exact hlt)
      cases e
      rw [List.drop_eq_getElem_cons (by rw [HN.out]; exact hlt), idx_step] at hfe
      obtain ⟨y, hy⟩ : ∃ y, modes[k]'(by rw [HN.out]; exact hlt) = y := ⟨_, rfl⟩
      rw [hy] at hfe hcell
      rw [ad0] at hcell
      have i0 : (0 : Int) ≤ (k : Int) := by omega
      have i1 : (k : Int) < 5 := by omega
      obtain ⟨Y, hY⟩ : ∃ Y, bb y = Y := ⟨_, rfl⟩
      rw [hY] at hcell
      have hY2 : Y.data.toList = y := by rw [← hY]
      by_cases hxy : y = s.data.toList
      · have b1 : (Y.toList == s.toList) = true := by rw [ByteArray.toList_eq, ByteArray.toList_eq, hY2, beq_iff_eq]; exact hxy
        rw [if_pos hxy] at hfe
        subst hfe
        clear hy hY hY2 hxy HL
        go_wp2
        go_ret
        exact ⟨rfl, HB.out⟩
      · have b1 : (Y.toList == s.toList) = false := by rw [ByteArray.toList_eq, ByteArray.toList_eq, hY2, beq_eq_false_iff_ne]; exact hxy
        rw [if_neg hxy] at hfe
        have HF := Lib.hid hfe
        clear hy hY hY2 hxy hfe
        go_wp2
        go_round
        case rel => exact ⟨k + 1, by go_num, by omega, HF.out⟩
        case measure => simp [intOf]; omega
    · obtain rfl : k = 5 := by omega
      have he : (-1 : Int) = n := hfe
      subst he
      go_wp2
      go_ret
      exact ⟨rfl, HB.out⟩
set_option maxRecDepth 100000 in
set_option maxHeartbeats 4000000 in
theorem rside_of (s : ByteArray) (n : Int) (w : World) (hr : Hid (idxA s.data.toList sides 0 = n)) :
    Calls Tryd.prog 44 #[.string s] w fun e w' => e = .returned (.int .i64 n) ∧ Below w.heap.size w w' := by
  have hlit := nl_lit w sides (by decide) 9
  have hn : sides.length = 4 := rfl
  have HL : Hid (Nl (w.alloc (.cells #[.string ⟨#[116, 111, 112]⟩, .string ⟨#[114, 105, 103, 104, 116]⟩, .string ⟨#[98, 111, 116, 116, 111, 109]⟩, .string ⟨#[108, 101, 102, 116]⟩] 9)) (.slice (some ⟨w.heap.size, 0, none⟩) 4 4) sides) := Lib.hid hlit
  have HB := Lib.hid (al1 w (.cells #[.string ⟨#[116, 111, 112]⟩, .string ⟨#[114, 105, 103, 104, 116]⟩, .string ⟨#[98, 111, 116, 116, 111, 109]⟩, .string ⟨#[108, 101, 102, 116]⟩] 9))
  have HN := Lib.hid hn
  clear hlit hn
  go_enter Tryd.func44, Tryd.ntmps44
  go_wp2_with fail
  generalize w.alloc (.cells #[.string ⟨#[116, 111, 112]⟩, .string ⟨#[114, 105, 103, 104, 116]⟩, .string ⟨#[98, 111, 116, 116, 111, 109]⟩, .string ⟨#[108, 101, 102, 116]⟩] 9) = w0 at HL HB ⊢
  go_loop [4] (fun iv => ∃ k : Nat, iv = .int .i64 k ∧ k ≤ 4 ∧ idxA s.data.toList (sides.drop k) k = n) (fun iv => 4 - (intOf iv).toNat)
  case atStart => exact ⟨0, rfl, Nat.zero_le _, hr.out⟩
  case round =>
    obtain ⟨k, rfl, hk, hfe⟩ := hrel
    by_cases hlt : k < 4
    · obtain ⟨A, e, hcell⟩ := HL.out.get (i := k) (by rw [HN.out]; exact hlt)
      cases e
      rw [List.drop_eq_getElem_cons (by rw [HN.out]; exact hlt), idx_step] at hfe
      obtain ⟨y, hy⟩ : ∃ y, sides[k]'(by rw [HN.out]; exact hlt) = y := ⟨_, rfl⟩
      rw [hy] at hfe hcell
      rw [ad0] at hcell
      have i0 : (0 : Int) ≤ (k : Int) := by omega
      have i1 : (k : Int) < 4 := by omega
      obtain ⟨Y, hY⟩ : ∃ Y, bb y = Y := ⟨_, rfl⟩
      rw [hY] at hcell
      have hY2 : Y.data.toList = y := by rw [← hY]
      by_cases hxy : y = s.data.toList
      · have b1 : (Y.toList == s.toList) = true := by rw [ByteArray.toList_eq, ByteArray.toList_eq, hY2, beq_iff_eq]; exact hxy
        rw [if_pos hxy] at hfe
        subst hfe
        clear hy hY hY2 hxy HL
        go_wp2
        go_ret
        exact ⟨rfl, HB.out⟩
      · have b1 : (Y.toList == s.toList) = false := by rw [ByteArray.toList_eq, ByteArray.toList_eq, hY2, beq_eq_false_iff_ne]; exact hxy
        rw [if_neg hxy] at hfe
        have HF := Lib.hid hfe
        clear hy hY hY2 hxy hfe
        go_wp2
        go_round
        case rel => exact ⟨k + 1, by go_num, by omega, HF.out⟩
        case measure => simp [intOf]; omega
    · obtain rfl : k = 4 := by omega
      have he : (-1 : Int) = n := hfe
      subst he
      go_wp2
      go_ret
      exact ⟨rfl, HB.out⟩
end Go.Proofs.YthcglcnhdgeaeaaDoor.att
namespace Go.Proofs.YthcglcnhdgeaeaaDoor.att
open Go.RowKit lex tre

abbrev Pt := List UInt8 × Int
def poC (p : Pt) : List Value := [.string (bb p.1), .int .i64 p.2]
def poAt (w : World) (A : Addr) (i : Nat) (p : Pt) : Prop := w.cell? (A.add (i * 2)) = some (.string (bb p.1)) ∧ w.cell? ⟨(A.add (i * 2)).block, (A.add (i * 2)).off + 1, none⟩ = some (.int .i64 p.2)
/-- A list of ports as a slice holds it. -/
def Pos (w : World) (v : Value) (l : List Pt) : Prop := ∃ (ao : Option Addr) (cap : Nat), v = .slice ao l.length cap ∧ l.length ≤ cap ∧ cap ≤ maxLen ∧ (0 < l.length → ∃ A, ao = some A ∧ ∀ i (h : i < l.length), poAt w A i l[i])
theorem Pos.keep {w1 w2 : World} {v : Value} {l : List Pt} (h : Pos w1 v l) (hb : Below w1.heap.size w1 w2) : Pos w2 v l := by
  obtain ⟨ao, cap, rfl, hc, hm, hA⟩ := h
  exact ⟨ao, cap, rfl, hc, hm, fun hn => by obtain ⟨A, rfl, h2⟩ := hA hn; exact ⟨A, rfl, fun i hi => ⟨cell_later' hb (h2 i hi).1, cell_later' hb (h2 i hi).2⟩⟩⟩
theorem Pos.nil (w : World) : Pos w (.slice none 0 0) [] := ⟨none, 0, rfl, Nat.le_refl _, by decide, fun h => absurd h (by simp)⟩
theorem Pos.get {w : World} {ao : Option Addr} {n cap : Nat} {l : List Pt} (h : Pos w (.slice ao n cap) l) {k : Nat} (hk : k < l.length) : ∃ A, ao = some A ∧ poAt w A k l[k] := by
  obtain ⟨ao', cap', e, _, _, hA⟩ := h
  cases e
  obtain ⟨A, rfl, h2⟩ := hA (by omega)
  exact ⟨A, rfl, h2 k hk⟩
/-- A row of ports that the call owns. -/
def Prow (w : World) (B : Nat) (v : Value) (l : List Pt) : Prop := w.ownsRow B 49 2 v l.length (l.flatMap poC)
theorem Prow.pos {w : World} {B : Nat} {v : Value} {l : List Pt} (h : Prow w B v l) : Pos w v l := by
  unfold Prow at h
  by_cases h0 : l.length = 0
  · obtain ⟨ao, cap, rfl, h1, h2⟩ := own_form h
    exact ⟨ao, cap, rfl, h1, h2, fun hn => by omega⟩
  · obtain ⟨g, cap, arr, rfl, hB', hk, h1, h2, h3⟩ := own_blk h (by omega)
    refine ⟨_, cap, rfl, h1, h2, fun _ => ⟨_, rfl, fun i hi => ?_⟩⟩
    have e0 := flat_get poC 2 (fun _ => rfl) l i 0 hi (by decide)
    have e1 := flat_get poC 2 (fun _ => rfl) l i 1 hi (by decide)
    refine ⟨?_, ?_⟩
    · rw [add_at, Nat.zero_add, blk_cell hk, ← Nat.add_zero (i * 2), h3 _ (by omega)]; exact e0
    · rw [add_at]
      show w.cell? ⟨g, 0 + i * 2 + 1, none⟩ = _
      rw [Nat.zero_add, blk_cell hk, h3 _ (by omega)]; exact e1
theorem info_cpo : (Tryd.prog.info? 49).map (fun i => (i.zero, i.size, i.bytes)) = some (some (.agg #[.string ⟨#[]⟩, .int .i64 0]), 2, 24) := by kernel_rfl
theorem info_of_cpo : ∃ i, Tryd.prog.info? 49 = some i ∧ i.zero = some (.agg #[.string ⟨#[]⟩, .int .i64 0]) ∧ i.size = 2 ∧ i.bytes = 24 := by
  have h := info_cpo
  cases hq : Tryd.prog.info? 49 with
  | none => rw [hq] at h; cases h
  | some i =>
    rw [hq] at h
    simp only [Option.map_some, Option.some.injEq, Prod.mk.injEq] at h
    exact ⟨i, rfl, h.1, h.2.1, h.2.2⟩
/-- One port more in a row. -/
theorem app_po {w : World} {ops : Array Oper} {rest : List Oper} {o : Oper} {a : Act} {Q : Exit → Act → World → Prop} (hg : o.guard = none) (p y : Operand) (ho : o.op = .call { callee := .builtin .append, args := #[p, y], argTypes := #[38, 38] })
    (B : Nat) (v : Value) (l : List Pt) (x : ByteArray) (d : Int) (H : Nat) (hH : w.heap.size = H) (hs : a.eval p = v) (hx : a.eval y = .slice (some ⟨H, 0, none⟩) 1 1) (h : Hid (Prow w B v l)) (hl : l.length ≤ 1000000) (hB : B ≤ w.heap.size)
    (hK : ∀ ao cap w', Prow w' B (.slice ao (l.length + 1) cap) (l ++ [(x.data.toList, d)]) → w.grownBy w' v.ownBlock → wpList Tryd.prog ops Q rest (a.put o.dst (.slice ao (l.length + 1) cap)) w') : wpList Tryd.prog ops Q (o :: rest) a (w.alloc (.cells #[.string x, .int .i64 d] 49)) := by
  subst hH
  obtain ⟨i0, hi, hz0, hz1, hz2⟩ := info_of_cpo
  refine wpList_append_own _ hg p y 38 ho B 49 i0 _ 2 24 Tryd.underlying38 hi hz0 hz1 hz2 rfl (by decide) v l.length _ hs (World.ownsRow.alloc h.out _) ⟨w.heap.size, 0, none⟩ 1 1 [.string x, .int .i64 d] hx rfl ?_ (by simp [Value.oneCell']) (by unfold maxLen; omega) (by omega) (by simp; omega) ?_
  · intro j u hj
    rw [add_at, Nat.zero_add, blk_cell (blk_new w #[.string x, .int .i64 d] 49), ← hj]
    simp
  · intro v' w' hown hgrow _
    obtain ⟨ao, cap, rfl, _, _⟩ := own_form hown
    refine hK ao cap w' ?_ ?_
    · unfold Prow
      rw [List.length_append, List.flatMap_append]
      have hx : bb x.data.toList = x := by simp [bb]
      show World.ownsRow _ _ _ _ _ _ (_ ++ (poC (x.data.toList, d) ++ []))
      unfold poC
      simp only [hx, List.append_nil]
      exact hown
    · refine ⟨hgrow.os, hgrow.tape, hgrow.output, Nat.le_trans (by simp) hgrow.size, fun k hk hne => ?_⟩
      rw [hgrow.block k (by simp; omega) hne, heap_alloc_old w _ hk]
/-- The place of the first space. -/
def gapN (s : List UInt8) : Nat := (s.takeWhile (· ≠ 32)).length
theorem gap_le (s : List UInt8) : gapN s ≤ s.length := takeWhile_le _ s
theorem gap_at : ∀ (s : List UInt8) (k : Nat) (h : k < s.length), (s[k] = 32 → gapN s ≤ k) ∧ (s[k] ≠ 32 → gapN s ≠ k) := by
  intro s
  induction s with
  | nil => intro k h; simp at h
  | cons c t ih =>
    intro k h
    unfold gapN at ih ⊢
    rw [List.takeWhile_cons]
    cases k with
    | zero =>
      constructor
      · intro e; rw [if_neg (by simpa using e)]; exact Nat.le_refl _
      · intro e; rw [if_pos (by simpa using e)]; simp
    | succ k =>
      have hk : k < t.length := by simpa using h
      obtain ⟨i1, i2⟩ := ih k hk
      constructor
      · intro e
        split
        · have := i1 e; simp only [List.length_cons]; omega
        · simp
      · intro e
        split
        · have := i2 e; simp only [List.length_cons]; omega
        · simp
theorem gap_some {s : List UInt8} (h : gapN s < s.length) : gapL s = some (s.take (gapN s), s.drop (gapN s + 1)) := by
  unfold gapL gapN at *
  rw [if_pos h, takeWhile_take]
theorem gap_none {s : List UInt8} (h : ¬ gapN s < s.length) : gapL s = none := by
  unfold gapL gapN at *
  rw [if_neg h]
end Go.Proofs.YthcglcnhdgeaeaaDoor.att
