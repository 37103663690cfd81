/-
  What Equal of the landed tree returns: whether two trees are the same, statement by statement. Condition: trees in memory.
-/
import Derived.Test.YtmpjdlhigmofdaaTreShelf
import Derived.Test.YtmpjdlhigmofdaaMTe
namespace Go.Proofs.Ytmpjdlhigmofdaa.tre
open Go.RowKit lex

theorem eqS_and (s s' : St) : eqS s s' = (decide (s.kind = s'.kind) && decide (s.name = s'.name) && decide (s.refs = s'.refs) && decide (s.attrs = s'.attrs) && eqL s.body s'.body) := by
  rw [Bool.eq_iff_iff, eq_iff.1]
  simp only [Bool.and_eq_true, decide_eq_true_eq, eq_iff.2]
  constructor
  · rintro rfl; exact ⟨⟨⟨⟨rfl, rfl⟩, rfl⟩, rfl⟩, rfl⟩
  · rintro ⟨⟨⟨⟨h0, h1⟩, h2⟩, h3⟩, h4⟩; exact st_ext h0 h1 h2 h3 h4
def EqF (l : List St) : Prop := ∀ (m : List St) (w : World) (v1 v2 : Value) (r : Bool), Hid (Sts w v1 l) → Hid (Sts w v2 m) → Hid (eqL l m = r) →
  Calls Try.prog 29 #[v1, v2, .func (.func 30) #[] #[]] w fun e w' => e = .returned (.bool r) ∧ Below w.heap.size w w'
theorem EqF.use {l m : List St} {w : World} {v1 v2 : Value} {r : Bool} (h : Hid (EqF l)) (h1 : Hid (Sts w v1 l)) (h2 : Hid (Sts w v2 m)) (h3 : Hid (eqL l m = r)) :
    Calls Try.prog 29 #[v1, v2, .func (.func 30) #[] #[]] w fun e w' => e = .returned (.bool r) ∧ Below w.heap.size w w' := h.out m w v1 v2 r h1 h2 h3
set_option maxRecDepth 100000 in
set_option maxHeartbeats 8000000 in
theorem equal_of (s s' : St) (IH : Hid (EqF s.body)) (rv av bv rv' av' bv' : Value) (w : World) (r : Bool) (h : Hid (fvOk w ⟨s, 0, rv, av, bv⟩)) (h' : Hid (fvOk w ⟨s', 0, rv', av', bv'⟩)) (hr : Hid (eqS s s' = r)) :
    Calls Try.prog 30 #[stV s rv av bv, stV s' rv' av' bv'] w fun e w' => e = .returned (.bool r) ∧ Below w.heap.size w w' := by
  obtain ⟨_, hrv, hav, hbv⟩ := h.out
  obtain ⟨_, hrv', hav', hbv'⟩ := h'.out
  simp only at hrv hav hbv hrv' hav' hbv'
  have hR := hr.out
  rw [eqS_and] at hR
  clear h h' hr
  show Calls Try.prog 30 #[.agg #[.int .i64 s.kind, .string (bb s.name), rv, av, bv], .agg #[.int .i64 s'.kind, .string (bb s'.name), rv', av', bv']] w _
  obtain ⟨k, n, rs, ats, b⟩ := s
  obtain ⟨k', n', rs', as', b'⟩ := s'
  simp only [St.kind, St.name, St.refs, St.attrs, St.body] at hrv hav hbv hrv' hav' hbv' hR IH ⊢
  obtain ⟨ro, rc, rfl, _, _, _⟩ := id hrv
  obtain ⟨ao, ac, rfl, _, _, _⟩ := id hav
  obtain ⟨bo, bc, rfl, _, _, _⟩ := id hbv
  obtain ⟨ro', rc', rfl, _, _, _⟩ := id hrv'
  obtain ⟨ao', ac', rfl, _, _, _⟩ := id hav'
  obtain ⟨bo', bc', rfl, _, _, _⟩ := id hbv'
  obtain ⟨X, hX⟩ : ∃ X, bb n = X := ⟨_, rfl⟩
  obtain ⟨Y, hY⟩ : ∃ Y, bb n' = Y := ⟨_, rfl⟩
  have hXY : n = n' ↔ X.toList = Y.toList := by rw [← hX, ← hY, ByteArray.toList_eq, ByteArray.toList_eq]
  rw [hX, hY]
  clear hX hY
  have HB1 : Below w.heap.size w (w.alloc (.cells #[.int .i64 k, .string X, .slice ro rs.length rc, .slice ao ats.length ac, .slice bo b.length bc] 47)) := al1 _ _
  have g1 := at5_new w k X (.slice ro rs.length rc) (.slice ao ats.length ac) (.slice bo b.length bc) 47
  have hz1 : (w.alloc (.cells #[.int .i64 k, .string X, .slice ro rs.length rc, .slice ao ats.length ac, .slice bo b.length bc] 47)).heap.size = w.heap.size + 1 := by simp
  have HZ := Lib.hid hz1
  clear hz1
  have g2 := at5_new (w.alloc (.cells #[.int .i64 k, .string X, .slice ro rs.length rc, .slice ao ats.length ac, .slice bo b.length bc] 47)) k' Y (.slice ro' rs'.length rc') (.slice ao' as'.length ac') (.slice bo' b'.length bc') 47
  rw [HZ.out] at g2
  have hB := (al1 (w.alloc (.cells #[.int .i64 k, .string X, .slice ro rs.length rc, .slice ao ats.length ac, .slice bo b.length bc] 47)) (.cells #[.int .i64 k', .string Y, .slice ro' rs'.length rc', .slice ao' as'.length ac', .slice bo' b'.length bc'] 47))
  have g1 := at5_keep g1 hB
  have hB := below_keep hB HB1
  have HRV := Lib.hid (hrv.keep hB)
  have HAV := Lib.hid (hav.keep hB)
  have HBV := Lib.hid (hbv.keep hB)
  have HRV' := Lib.hid (hrv'.keep hB)
  have HAV' := Lib.hid (hav'.keep hB)
  have HBV' := Lib.hid (hbv'.keep hB)
  clear hrv hav hbv hrv' hav' hbv' HB1
  obtain ⟨c0, c1, c2, c3, c4⟩ := id g1
  obtain ⟨e0, e1, e2, e3, e4⟩ := id g2
  by_cases hk : k = k'
  case neg =>
    obtain rfl : false = r := by rw [← hR]; simp [hk]
    have d1 : (k == k') = false := by rw [beq_eq_false_iff_ne]; exact hk
    clear hR hXY
    go_enter Try.func30, Try.ntmps30
    go_wp2
    go_ret
    exact ⟨rfl, hB⟩
  subst hk
  by_cases hn : X.toList = Y.toList
  case neg =>
    obtain rfl : false = r := by rw [← hR]; simp [mt hXY.1 hn]
    have d1 : (X.toList == Y.toList) = false := by rw [beq_eq_false_iff_ne]; exact hn
    clear hR hXY
    go_enter Try.func30, Try.ntmps30
    go_wp2
    go_ret
    exact ⟨rfl, hB⟩
  obtain ⟨q3, h3⟩ : ∃ q, decide (rs = rs') = q := ⟨_, rfl⟩
  obtain ⟨q4, h4⟩ : ∃ q, decide (ats = as') = q := ⟨_, rfl⟩
  obtain ⟨q5, h5⟩ : ∃ q, eqL b b' = q := ⟨_, rfl⟩
  have HR : Hid ((q3 && q4 && q5) = r) := Lib.hid (by rw [← hR, ← h3, ← h4, ← h5, Bool.eq_iff_iff]; simp [hXY.2 hn]; exact fun _ => ⟨fun a => ⟨decide_eq_true a.1, decide_eq_true a.2⟩, fun a => ⟨of_decide_eq_true a.1, of_decide_eq_true a.2⟩⟩)
  have H3 := Lib.hid h3
  have H4 := Lib.hid h4
  have H5 := Lib.hid h5
  have d1 : (X.toList == Y.toList) = true := by rw [beq_iff_eq]; exact hn
  clear hR hXY h3 h4 h5
  go_enter Try.func30, Try.ntmps30
  go_wp2_with fail
  refine (eqr_of _ _ _ _ q3 _ HRV HRV' H3).mono ?_
  rintro e w2 ⟨rfl, hb2⟩
  clear c0 c1 c2 c3 c4 e0 e1 e2 e3 e4
  have g1 := at5_keep g1 hb2
  have g2 := at5_keep g2 hb2
  obtain ⟨c0, c1, c2, c3, c4⟩ := id g1
  obtain ⟨e0, e1, e2, e3, e4⟩ := id g2
  have HAV2 := Lib.hid (HAV.out.keep hb2)
  have HAV2' := Lib.hid (HAV'.out.keep hb2)
  have HBV2 := Lib.hid (HBV.out.keep hb2)
  have HBV2' := Lib.hid (HBV'.out.keep hb2)
  have hB2 := below_keep hb2 hB
  cases q3
  · obtain rfl : false = r := by rw [← HR.out]; rfl
    go_wp2
    go_ret
    exact ⟨rfl, hB2⟩
  go_wp2_with fail
  refine (eqa_of _ _ _ _ q4 _ HAV2 HAV2' H4).mono ?_
  rintro e w3 ⟨rfl, hb3⟩
  clear c0 c1 c2 c3 c4 e0 e1 e2 e3 e4
  have g1 := at5_keep g1 hb3
  have g2 := at5_keep g2 hb3
  obtain ⟨c0, c1, c2, c3, c4⟩ := id g1
  obtain ⟨e0, e1, e2, e3, e4⟩ := id g2
  have HBV3 := Lib.hid (HBV2.out.keep hb3)
  have HBV3' := Lib.hid (HBV2'.out.keep hb3)
  have hB3 := below_keep hb3 hB2
  cases q4
  · obtain rfl : false = r := by rw [← HR.out]; rfl
    go_wp2
    go_ret
    exact ⟨rfl, hB3⟩
  obtain rfl : q5 = r := by rw [← HR.out]; rfl
  go_wp2_with fail
  refine (EqF.use IH HBV3 HBV3' H5).mono ?_
  rintro e w4 ⟨rfl, hb4⟩
  go_wp2
  go_ret
  exact ⟨rfl, below_keep hb4 hB3⟩
set_option maxRecDepth 100000 in
set_option maxHeartbeats 8000000 in
theorem eqf_step (l : List St) (ih : ∀ s ∈ l, EqF s.body) : EqF l := by
  intro m w v1 v2 r H1 H2 hr
  obtain ⟨ao, cap, rfl, hc1, hm1, _⟩ := id H1.out
  obtain ⟨bo, cbp, rfl, hc2, hm2, _⟩ := id H2.out
  have IH := Lib.hid ih
  unfold maxLen at hm1 hm2
  have hlm : l.length ≤ 9223372036854775807 := by omega
  have hmm : m.length ≤ 9223372036854775807 := by omega
  clear hc1 hm1 hc2 hm2 ih
  by_cases hle : l.length = m.length
  case neg =>
    have hb : ((l.length : Int) != (m.length : Int)) = true := by rw [bne_iff_ne]; omega
    obtain rfl : false = r := by
      rw [← hr.out]; symm
      cases hq : eqL l m
      · rfl
      · exact absurd (by rw [(eq_iff.2 l m).1 hq]) hle
    clear H1 H2 hr hle
    go_enter Try.func29, Try.ntmps29
    go_wp2
    go_ret
    exact ⟨rfl, Below.refl _ _⟩
  have HR : Hid (eqL (l.drop 0) (m.drop 0) = r) := Lib.hid (by rw [List.drop_zero, List.drop_zero]; exact hr.out)
  have b0 : ((l.length : Int) != (m.length : Int)) = false := by rw [bne_eq_false_iff_eq]; omega
  have HLE := Lib.hid hle
  clear hr hle
  go_enter Try.func29, Try.ntmps29
  go_wp2_with fail
  go_loopw [17] (fun iv wr => ∃ k : Nat, iv = .int .i64 k ∧ k ≤ l.length ∧ eqL (l.drop k) (m.drop k) = r ∧ Below w.heap.size w wr) (fun iv _ => l.length - (intOf iv).toNat)
  case atStart => exact ⟨0, rfl, Nat.zero_le _, HR.out, Below.refl _ _⟩
  case round =>
    obtain ⟨k, rfl, hk, hfe, hB⟩ := hrel
    rename World => wr
    have HFE := Lib.hid hfe
    clear hfe HR
    by_cases hlt : k < l.length
    · have hlt2 : k < m.length := by have := HLE.out; omega
      obtain ⟨A, rfl, ha0⟩ := (H1.out.keep hB).get hlt
      obtain ⟨B, rfl, hb0⟩ := (H2.out.keep hB).get hlt2
      obtain ⟨a0, a1, an, ⟨_, a2, rx⟩, ⟨_, a3, sx⟩, _, a4, bx⟩ := (stAt_eq _ _ _).1 ha0
      obtain ⟨b0', b1, bn, ⟨_, b2, ry⟩, ⟨_, b3, sy⟩, _, b4, by'⟩ := (stAt_eq _ _ _).1 hb0
      have hst := HFE.out
      rw [eqL_drop hlt hlt2] at hst
      have hih := IH.out _ (List.getElem_mem hlt)
      obtain ⟨x, hx⟩ : ∃ x, l[k] = x := ⟨_, rfl⟩
      obtain ⟨y, hy⟩ : ∃ y, m[k] = y := ⟨_, rfl⟩
      rw [hx] at a0 a1 an rx sx bx hih hst
      rw [hy] at b0' b1 bn ry sy by' hst
      have HF1 : Hid (fvOk wr ⟨x, 0, _, _, _⟩) := Lib.hid ⟨an, rx, sx, bx⟩
      have HF2 : Hid (fvOk wr ⟨y, 0, _, _, _⟩) := Lib.hid ⟨bn, ry, sy, by'⟩
      have HIH := Lib.hid hih
      obtain ⟨xro, xrc, rfl, _, _, _⟩ := rx
      obtain ⟨yro, yrc, rfl, _, _, _⟩ := ry
      obtain ⟨xso, xsc, rfl, _, _, _⟩ := sx
      obtain ⟨yso, ysc, rfl, _, _, _⟩ := sy
      obtain ⟨xbo, xbc, rfl, _, _, _⟩ := bx
      obtain ⟨ybo, ybc, rfl, _, _, _⟩ := by'
      obtain ⟨q, hq⟩ : ∃ q, eqS x y = q := ⟨_, rfl⟩
      rw [hq] at hst
      have HQ := Lib.hid hq
      have HST := Lib.hid hst
      have i0 : (0 : Int) ≤ (k : Int) := by omega
      have i1 : (k : Int) < (l.length : Int) := by omega
      have i2 : (k : Int) < (m.length : Int) := by omega
      have hbl := World.block_lt_of_cell? wr _ b0'
      have hbn : (B.add (k * 5)).block ≠ wr.heap.size := by omega
      clear hx hy HFE ha0 hb0 hih hst hq an bn
      obtain ⟨X, hX⟩ : ∃ X, bb x.name = X := ⟨_, rfl⟩
      obtain ⟨Y, hY⟩ : ∃ Y, bb y.name = Y := ⟨_, rfl⟩
      rw [hX] at a1
      rw [hY] at b1
      have HC : Hid (∀ W, Below wr.heap.size wr W → Calls Try.prog 30 #[.agg #[.int .i64 x.kind, .string X, .slice xro x.refs.length xrc, .slice xso x.attrs.length xsc, .slice xbo x.body.length xbc], .agg #[.int .i64 y.kind, .string Y, .slice yro y.refs.length yrc, .slice yso y.attrs.length ysc, .slice ybo y.body.length ybc]] W fun e w' => e = .returned (.bool q) ∧ Below W.heap.size W w') :=
        Lib.hid (fun W hW => by rw [← hX, ← hY]; exact equal_of x y HIH _ _ _ _ _ _ W q (Lib.hid (HF1.out.keep hW)) (Lib.hid (HF2.out.keep hW)) HQ)
      clear hX hY HF1 HF2 HIH HQ
      generalize x.kind = xk at *
      generalize y.kind = yk at *
      have hb1 : Below wr.heap.size wr (wr.alloc (.cells #[.int .i64 xk, .string X, .slice xro x.refs.length xrc, .slice xso x.attrs.length xsc, .slice xbo x.body.length xbc] 47)) := al1 _ _
      have hb2 := b_alloc (o := .cells #[.int .i64 yk, .string Y, .slice yro y.refs.length yrc, .slice yso y.attrs.length ysc, .slice ybo y.body.length ybc] 47) hb1
      cases q
      · obtain rfl : false = r := by rw [← HST.out]; rfl
        go_wp2_with (go_at_call 30; (with_reducible refine (HC.out _ hb2).mono ?_); rintro e w3 ⟨rfl, hb3⟩)
        go_ret
        exact ⟨rfl, below_keep hb3 (below_keep hb2 hB)⟩
      · have HN : Hid (eqL (l.drop (k + 1)) (m.drop (k + 1)) = r) := Lib.hid (by rw [← HST.out]; rfl)
        go_wp2_with (go_at_call 30; (with_reducible refine (HC.out _ hb2).mono ?_); rintro e w3 ⟨rfl, hb3⟩)
        go_roundw
        case rel => exact ⟨k + 1, by go_num, by omega, HN.out, below_keep hb3 (below_keep hb2 hB)⟩
        case measure => simp [intOf]; omega
    · obtain rfl : k = l.length := by omega
      have HN : Hid (true = r) := Lib.hid (by
        have := HFE.out
        rw [List.drop_length, show m.drop l.length = [] from List.drop_eq_nil_of_le (by have := HLE.out; omega)] at this
        exact this)
      obtain rfl := HN.out
      go_wp2
      go_ret
      exact ⟨rfl, hB⟩
theorem eqf_ok (l : List St) : EqF l := lst_ind eqf_step l
set_option maxRecDepth 100000 in
set_option maxHeartbeats 8000000 in
theorem cequal_of (v v' : Value) (S T : Tr) (R : Bool) (w : World) (hS : Hid (TrV w v S)) (hT : Hid (TrV w v' T)) (hR : Hid (eqT S T = R)) :
    Calls Try.prog 14 #[v, v'] w fun e w' => e = .returned (.bool R) ∧ Below w.heap.size w w' := by
  have HF := Lib.hid (eqf_ok S.body)
  obtain ⟨bv, rfl, -, hs⟩ := hS.out
  obtain ⟨bv', rfl, -, ht⟩ := hT.out
  have hr := hR.out
  unfold eqT at hr
  obtain ⟨X, hX⟩ : ∃ X, bb S.name = X := ⟨_, rfl⟩
  obtain ⟨Y, hY⟩ : ∃ Y, bb T.name = Y := ⟨_, rfl⟩
  have hX2 : X.toList = S.name := by rw [← hX, ByteArray.toList_eq]
  have hY2 : Y.toList = T.name := by rw [← hY, ByteArray.toList_eq]
  rw [hX, hY]
  obtain ⟨d, hd⟩ : ∃ d, S.dir = d := ⟨_, rfl⟩
  obtain ⟨d', hd'⟩ : ∃ d, T.dir = d := ⟨_, rfl⟩
  rw [hd, hd'] at hr ⊢
  have hB1 := al1 w (.cells #[.string X, .bool d, bv] 24)
  have hB := hB1.alloc (by simp) (.cells #[.string Y, .bool d', bv'] 24)
  have HS := Lib.hid (hs.keep hB)
  have HT := Lib.hid (ht.keep hB)
  obtain ⟨q, hq⟩ : ∃ q, eqL S.body T.body = q := ⟨_, rfl⟩
  have HQ := Lib.hid hq
  rw [hq] at hr
  have HR := Lib.hid hr
  obtain ⟨n, hn⟩ : ∃ n, decide (S.name = T.name) = n := ⟨_, rfl⟩
  rw [hn] at hr
  have hxy : (X.toList == Y.toList) = n := by rw [hX2, hY2, ← hn, Bool.eq_iff_iff]; simp
  have HRN : Hid ((n && (d == d') && q) = R) := Lib.hid hr
  have hc0 := at3_keep (at3_new w X d bv 24) (al1 (w.alloc (.cells #[.string X, .bool d, bv] 24)) (.cells #[.string Y, .bool d', bv'] 24))
  have hc1 := at3_new (w.alloc (.cells #[.string X, .bool d, bv] 24)) Y d' bv' 24
  rw [World.size_alloc] at hc1
  obtain ⟨c0, c1, c2⟩ := hc0
  obtain ⟨e0, e1, e2⟩ := hc1
  clear hS hT hR hs ht hX hY hX2 hY2 hd hd' hq hn hr HR hB1
  cases n
  · have HN : Hid (R = false) := Lib.hid (by rw [← HRN.out]; rfl)
    obtain rfl := HN.out
    go_enter Try.func14, Try.ntmps14
    go_wp2
    go_ret
    exact ⟨rfl, hB⟩
  · cases d <;> cases d'
    case true.false.true =>
      have HN : Hid (R = false) := Lib.hid (by rw [← HRN.out]; rfl)
      obtain rfl := HN.out
      go_enter Try.func14, Try.ntmps14
      go_wp2
      go_ret
      exact ⟨rfl, hB⟩
    case true.true.false =>
      have HN : Hid (R = false) := Lib.hid (by rw [← HRN.out]; rfl)
      obtain rfl := HN.out
      go_enter Try.func14, Try.ntmps14
      go_wp2
      go_ret
      exact ⟨rfl, hB⟩
    all_goals
      have HN : Hid (q = R) := Lib.hid (by rw [← HRN.out]; rfl)
      obtain rfl := HN.out
      go_enter Try.func14, Try.ntmps14
      go_wp2_with (go_at_call 29; (with_reducible refine (EqF.use HF HS HT HQ).mono ?_); rintro e w5 ⟨rfl, hb5⟩)
      go_ret
      exact ⟨rfl, below_keep hb5 hB⟩
end Go.Proofs.Ytmpjdlhigmofdaa.tre
