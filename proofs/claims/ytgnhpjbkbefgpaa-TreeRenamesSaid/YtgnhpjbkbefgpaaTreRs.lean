/-
  What the reference's renamed returns: the renamed list of statements. Conditions: at most 600 statements with at most 40 refs and attributes each.
-/
import Derived.Test.YtgnhpjbkbefgpaaTreRr
namespace Go.Proofs.Ytgnhpjbkbefgpaa.tre
open Go.RowKit lex

def RrOut (L : List St) (w : World) (e : Ending) (w' : World) : Prop := ∃ v', e = .returned v' ∧ selfL w.heap.size w' v' L ∧ (∃ ao cap, v' = .slice ao L.length cap) ∧ Below w.heap.size w w'
def RrOk (a b : List UInt8) (l : List St) : Prop := ∀ (w : World) (v : Value), Hid (Sts w v l) → cnt l ≤ 600 → okL l → Calls Try.prog 46 #[v, .string (bb a), .string (bb b)] w (RrOut (renL a b l) w)
set_option maxRecDepth 100000 in
set_option maxHeartbeats 16000000 in
theorem rr_step (a b : List UInt8) (hbm : b.length ≤ maxLen) (l : List St) (ih : ∀ s ∈ l, RrOk a b s.body) : RrOk a b l := by
  intro w v HS hn hok
  have hlm : l.length ≤ 600 := by have := len_cnt l; omega
  have IH := Lib.hid ih
  have HOK := Lib.hid hok
  obtain ⟨ao, cap, rfl, -, -, -⟩ := id HS.out
  obtain ⟨F, hF⟩ : ∃ F, bb a = F := ⟨_, rfl⟩
  obtain ⟨T, hT⟩ : ∃ T, bb b = T := ⟨_, rfl⟩
  have HF := Lib.hid hF
  have HT := Lib.hid hT
  rw [hF, hT]
  have HO0 : Hid ((w.alloc (.cells #[] 43)).ownsRow w.heap.size 43 5 (.slice (some ⟨w.heap.size, 0, none⟩) 0 0) 0 []) := Lib.hid (World.ownsRow_made w #[] 0 (Nat.le_refl _) (Nat.zero_le _) (by simp))
  have HB0 := Lib.hid (al1 w (.cells #[] 43))
  clear ih hok hF hT
  go_enter Try.func46, Try.ntmps46
  go_wp2_with fail
  go_loopw [7, 8] (fun ov iv wr => ∃ (k : Nat) (D : List Sv), iv = .int .i64 k ∧ k ≤ l.length ∧ wr.ownsRow w.heap.size 43 5 ov D.length (D.flatMap svC) ∧ D.map Sv.s = renL a b (l.take k) ∧ (∀ x ∈ D, elS w.heap.size wr ov.ownBlock x) ∧ Below w.heap.size w wr) (fun _ iv _ => l.length - (intOf iv).toNat)
  case atStart => exact ⟨0, [], rfl, Nat.zero_le _, HO0.out, rfl, fun _ h => (by cases h), HB0.out⟩
  case round =>
    obtain ⟨k, D, rfl, hk, how, hDm, hD, hBr⟩ := hrel
    rename World => wr
    have HOw := Lib.hid how
    have HDm := Lib.hid hDm
    have HD := Lib.hid hD
    have HBr := Lib.hid hBr
    have hDl : D.length = k := by
      have := congrArg List.length hDm
      rw [List.length_map, ren_len, List.length_take] at this
      omega
    have HDl := Lib.hid hDl
    clear how hDm hD hBr hDl
    by_cases hlt : k < l.length
    · obtain ⟨A, rfl, hst⟩ := (HS.out.keep HBr.out).get hlt
      obtain ⟨p0, p1, hnm, ⟨rv, p2, hrv⟩, ⟨av, p3, hav⟩, bv, p4, hbv⟩ := (stAt_eq _ _ _).1 hst
      have HRV := Lib.hid hrv
      have HAV := Lib.hid hav
      have HBV := Lib.hid hbv
      obtain ⟨ro, rc, rfl, -, -, -⟩ := hrv
      obtain ⟨so, sc, rfl, -, -, -⟩ := hav
      obtain ⟨bo, bc, rfl, -, -, -⟩ := hbv
      obtain ⟨hk1, hk2, -⟩ := okL_cons.1 (okL_mem HOK.out _ (List.getElem_mem hlt))
      have hcnt : cnt l[k].body ≤ 600 := by have := (cnt_take hlt).1; omega
      have HIH := Lib.hid (IH.out _ (List.getElem_mem hlt))
      have HOKb := Lib.hid hk2
      have hrl : l[k].refs.length ≤ 40 := hk1.1
      have hal : l[k].attrs.length ≤ 40 := hk1.2
      have HNm := Lib.hid hnm
      obtain ⟨n', hn'⟩ : ∃ q, nmR l[k].kind a b l[k].name = q := ⟨_, rfl⟩
      have HN' := Lib.hid hn'
      unfold nmR mp at hn'
      obtain ⟨N, hN⟩ : ∃ q, bb l[k].name = q := ⟨_, rfl⟩
      have hNF : (N.toList = F.toList) ↔ l[k].name = a := by rw [← hN, ← HF.out, ByteArray.toList_eq, ByteArray.toList_eq]
      have HNe := Lib.hid hN
      rw [hN] at p1
      have HKk : Hid (nmR l[k].kind a b l[k].name = n') := HN'
      obtain ⟨kd, hkd⟩ : ∃ q, l[k].kind = q := ⟨_, rfl⟩
      have HKd := Lib.hid hkd
      rw [hkd] at p0 hn'
      have z0 : (0 : Int) ≤ (k : Int) := by omega
      have z1 : (k : Int) < (l.length : Int) := by omega
      clear hst hnm hk1 hk2 hN hkd
      have hw : (kd = 1 ∧ l[k].name = a ∧ Hid (bb n' = T)) ∨ (kd = 1 ∧ ¬ l[k].name = a ∧ Hid (bb n' = N)) ∨ (¬ kd = 1 ∧ Hid (bb n' = N)) := by
        by_cases q1 : kd = 1
        · by_cases q2 : l[k].name = a
          · refine Or.inl ⟨q1, q2, Lib.hid ?_⟩
            rw [← hn', if_pos q1, if_pos q2]; exact HT.out
          · refine Or.inr (Or.inl ⟨q1, q2, Lib.hid ?_⟩)
            rw [← hn', if_pos q1, if_neg q2]; exact HNe.out
        · refine Or.inr (Or.inr ⟨q1, Lib.hid ?_⟩)
          rw [← hn', if_neg q1]; exact HNe.out
      clear hn'
      rcases hw with ⟨rfl, hn, HM⟩ | ⟨rfl, hn, HM⟩ | ⟨hk1, HM⟩
      case' inl =>
        have b1 : (N.toList == F.toList) = true := by rw [beq_iff_eq]; exact hNF.2 hn
        clear hn hNF
        go_wp2_with fail
        have HKb : Hid (blk (wr.alloc (.cells #[.int .i64 1, .string T, .slice ro l[k].refs.length rc, .slice so l[k].attrs.length sc, .slice bo l[k].body.length bc] 43)) wr.heap.size 43 #[.int .i64 1, .string T, .slice ro l[k].refs.length rc, .slice so l[k].attrs.length sc, .slice bo l[k].body.length bc]) := Lib.hid (blk_new _ _ _)
        have hb1 := al1 wr (.cells #[.int .i64 1, .string T, .slice ro l[k].refs.length rc, .slice so l[k].attrs.length sc, .slice bo l[k].body.length bc] 43)
        have hs1 : (wr.alloc (.cells #[.int .i64 1, .string T, .slice ro l[k].refs.length rc, .slice so l[k].attrs.length sc, .slice bo l[k].body.length bc] 43)).heap.size = wr.heap.size + 1 := by simp
        have HS1 := Lib.hid hs1
        clear hs1
        generalize wr.alloc (.cells #[.int .i64 1, .string T, .slice ro l[k].refs.length rc, .slice so l[k].attrs.length sc, .slice bo l[k].body.length bc] 43) = w1 at HKb hb1 HS1 ⊢
        obtain ⟨Z, hZ⟩ : ∃ Z, T = Z := ⟨_, rfl⟩
        have HM2 : Hid (bb n' = Z) := Lib.hid (by rw [HM.out, hZ])
        have HKb2 := HKb
        rw [hZ] at HKb2
        clear hZ HKb
      case' inr.inl =>
        have b1 : (N.toList == F.toList) = false := by rw [beq_eq_false_iff_ne]; exact fun e => hn (hNF.1 e)
        clear hn hNF
        go_wp2_with fail
        have HKb : Hid (blk (wr.alloc (.cells #[.int .i64 1, .string N, .slice ro l[k].refs.length rc, .slice so l[k].attrs.length sc, .slice bo l[k].body.length bc] 43)) wr.heap.size 43 #[.int .i64 1, .string N, .slice ro l[k].refs.length rc, .slice so l[k].attrs.length sc, .slice bo l[k].body.length bc]) := Lib.hid (blk_new _ _ _)
        have hb1 := al1 wr (.cells #[.int .i64 1, .string N, .slice ro l[k].refs.length rc, .slice so l[k].attrs.length sc, .slice bo l[k].body.length bc] 43)
        have hs1 : (wr.alloc (.cells #[.int .i64 1, .string N, .slice ro l[k].refs.length rc, .slice so l[k].attrs.length sc, .slice bo l[k].body.length bc] 43)).heap.size = wr.heap.size + 1 := by simp
        have HS1 := Lib.hid hs1
        clear hs1
        generalize wr.alloc (.cells #[.int .i64 1, .string N, .slice ro l[k].refs.length rc, .slice so l[k].attrs.length sc, .slice bo l[k].body.length bc] 43) = w1 at HKb hb1 HS1 ⊢
        have HM2 := HM
        have HKb2 := HKb
        clear HKb
      case' inr.inr =>
        have b1 : (kd == 1) = false := by rw [beq_eq_false_iff_ne]; exact hk1
        clear hk1 hNF
        go_wp2_with fail
        have HKb : Hid (blk (wr.alloc (.cells #[.int .i64 kd, .string N, .slice ro l[k].refs.length rc, .slice so l[k].attrs.length sc, .slice bo l[k].body.length bc] 43)) wr.heap.size 43 #[.int .i64 kd, .string N, .slice ro l[k].refs.length rc, .slice so l[k].attrs.length sc, .slice bo l[k].body.length bc]) := Lib.hid (blk_new _ _ _)
        have hb1 := al1 wr (.cells #[.int .i64 kd, .string N, .slice ro l[k].refs.length rc, .slice so l[k].attrs.length sc, .slice bo l[k].body.length bc] 43)
        have hs1 : (wr.alloc (.cells #[.int .i64 kd, .string N, .slice ro l[k].refs.length rc, .slice so l[k].attrs.length sc, .slice bo l[k].body.length bc] 43)).heap.size = wr.heap.size + 1 := by simp
        have HS1 := Lib.hid hs1
        clear hs1
        generalize wr.alloc (.cells #[.int .i64 kd, .string N, .slice ro l[k].refs.length rc, .slice so l[k].attrs.length sc, .slice bo l[k].body.length bc] 43) = w1 at HKb hb1 HS1 ⊢
        have HM2 := HM
        have HKb2 := HKb
        clear HKb
      all_goals
        have hB1 := hb1
        have HB1 := Lib.hid hb1
        have HO1 : Hid ((w1.alloc (.cells #[] 39)).ownsRow w1.heap.size 39 2 (.slice (some ⟨wr.heap.size + 1, 0, none⟩) 0 0) 0 []) := Lib.hid (by
          have := World.ownsRow_made (base := w1.heap.size) (e := 39) (size := 2) w1 #[] 0 (Nat.le_refl _) (Nat.zero_le _) (by simp)
          rwa [HS1.out] at this ⊢)
        have HBa := Lib.hid (al1 w1 (.cells #[] 39))
        clear p0 p1 p2 p3 p4 b1 hb1 hB1
        go_loopw [10, 11] (fun yv iv wz => ∃ j : Nat, iv = .int .i64 j ∧ j ≤ l[k].refs.length ∧ wz.ownsRow w1.heap.size 39 2 yv ((l[k].refs.take j).map (mpR a b)).length (((l[k].refs.take j).map (mpR a b)).flatMap prC) ∧ Below w1.heap.size w1 wz) (fun _ iv _ => l[k].refs.length - (intOf iv).toNat)
        case atStart => exact ⟨0, rfl, Nat.zero_le _, HO1.out, HBa.out⟩
        case round =>
          obtain ⟨j, rfl, hj, hoy, hBz⟩ := hrel
          rename World => wz
          have HOy := Lib.hid hoy
          have HBz := Lib.hid hBz
          have hks := blk_below HKb2.out hBz
          have s2 : wz.cell? ⟨wr.heap.size, 2, none⟩ = some (.slice ro l[k].refs.length rc) := by rw [blk_cell hks]; rfl
          have f2 : wz.frozen? ⟨wr.heap.size, 2, none⟩ = false := blk_free hks
          have s3 : wz.cell? ⟨wr.heap.size, 3, none⟩ = some (.slice so l[k].attrs.length sc) := by rw [blk_cell hks]; rfl
          have hzw : wr.heap.size < wz.heap.size := blk_lt hks
          have hzn : wr.heap.size ≠ wz.heap.size := by omega
          have HKs := Lib.hid hks
          clear hoy hBz hks
          by_cases hjt : j < l[k].refs.length
          · obtain ⟨B, rfl, p0, p1, q2, q3⟩ := ((HRV.out.keep HB1.out).keep HBz.out).get hjt
            obtain ⟨y, hye⟩ : ∃ y, l[k].refs[j] = y := ⟨_, rfl⟩
            have HYE := Lib.hid hye
            rw [hye] at p0 p1
            obtain ⟨X1, hX1⟩ : ∃ Y, bb y.1 = Y := ⟨_, rfl⟩
            obtain ⟨X2, hX2⟩ : ∃ Y, bb y.2 = Y := ⟨_, rfl⟩
            have hXF : (X1.toList = F.toList) ↔ y.1 = a := by rw [← hX1, ← HF.out, ByteArray.toList_eq, ByteArray.toList_eq]
            have HX2 := Lib.hid hX2
            have HX1 := Lib.hid hX1
            rw [hX1] at p0
            rw [hX2] at p1
            have i0 : (0 : Int) ≤ (j : Int) := by omega
            have i1 : (j : Int) < (l[k].refs.length : Int) := by omega
            have HTk : Hid ((l[k].refs.take (j + 1)).map (mpR a b) = (l[k].refs.take j).map (mpR a b) ++ [mpR a b l[k].refs[j]]) := Lib.hid (by rw [take_pr hjt, List.map_append]; rfl)
            have hll : ((l[k].refs.take j).map (mpR a b)).length ≤ 1000000 := by rw [List.length_map, List.length_take]; omega
            have hsz1 := HBz.out.size
            clear hye hX1 hX2 q2 q3
            by_cases hxa : y.1 = a
            · have b1 : (X1.toList == F.toList) = true := by rw [beq_iff_eq]; exact hXF.2 hxa
              have HR1 : Hid (bb (mpR a b l[k].refs[j]).1 = T) := Lib.hid (by rw [HYE.out]; unfold mpR mp; rw [if_pos hxa]; exact HT.out)
              have HR2 : Hid (bb (mpR a b l[k].refs[j]).2 = X2) := Lib.hid (by rw [HYE.out]; exact HX2.out)
              have HOz := Lib.hid (World.ownsRow.alloc HOy.out (.cells #[.string T, .string X2] 39))
              have hbz := below_keep (al1 wz (.cells #[.string T, .string X2] 39)) HBz.out
              have HBZ := Lib.hid hbz
              clear hXF hxa hbz
              go_wp2_with (at_builtin; refine app_ref rfl (.tmp 55) (.tmp 57) rfl w1.heap.size _ ((l[k].refs.take j).map (mpR a b)) (mpR a b l[k].refs[j]) T X2 HR1 HR2 (wz.heap.size + 1) (by simp) rfl (by rfl) HOz hll (by simp; omega) ?_; intro v4 w4 own4 grow4; have hB4 := HBZ.out.grown grow4 (by simp; omega) (fun q hq => (World.ownsRow.lt HOz.out q hq).1); rw [← HTk.out] at own4; clear grow4)
              go_roundw
              case rel => exact ⟨j + 1, by go_num, by omega, own4, hB4⟩
              case measure => simp [intOf]; omega
            · have b1 : (X1.toList == F.toList) = false := by rw [beq_eq_false_iff_ne]; exact fun e => hxa (hXF.1 e)
              have HR1 : Hid (bb (mpR a b l[k].refs[j]).1 = X1) := Lib.hid (by rw [HYE.out]; unfold mpR mp; rw [if_neg hxa]; exact HX1.out)
              have HR2 : Hid (bb (mpR a b l[k].refs[j]).2 = X2) := Lib.hid (by rw [HYE.out]; exact HX2.out)
              have HOz := Lib.hid (World.ownsRow.alloc HOy.out (.cells #[.string X1, .string X2] 39))
              have hbz := below_keep (al1 wz (.cells #[.string X1, .string X2] 39)) HBz.out
              have HBZ := Lib.hid hbz
              clear hXF hxa hbz
              go_wp2_with (at_builtin; refine app_ref rfl (.tmp 55) (.tmp 57) rfl w1.heap.size _ ((l[k].refs.take j).map (mpR a b)) (mpR a b l[k].refs[j]) X1 X2 HR1 HR2 (wz.heap.size + 1) (by simp) rfl (by rfl) HOz hll (by simp; omega) ?_; intro v4 w4 own4 grow4; have hB4 := HBZ.out.grown grow4 (by simp; omega) (fun q hq => (World.ownsRow.lt HOz.out q hq).1); rw [← HTk.out] at own4; clear grow4)
              go_roundw
              case rel => exact ⟨j + 1, by go_num, by omega, own4, hB4⟩
              case measure => simp [intOf]; omega
          · obtain rfl : j = l[k].refs.length := by omega
            have hoyf := HOy.out
            rw [List.take_length, List.length_map] at hoyf
            obtain ⟨o1, c1, rfl, -, -⟩ := own_form hoyf
            have hsP := own_selfP (w := wz) (B := w1.heap.size) (l := l[k].refs.map (mpR a b)) (by rw [List.length_map]; exact hoyf) (fun r hr => by
              obtain ⟨r0, hr0, rfl⟩ := List.mem_map.1 hr
              obtain ⟨i, hi, rfl⟩ := List.mem_iff_getElem.1 hr0
              obtain ⟨ao2, cap2, e, _, _, h2⟩ := HRV.out
              obtain ⟨B2, _, h3⟩ := h2 (by omega)
              obtain ⟨_, _, q2, q3⟩ := h3 i hi
              refine ⟨?_, q3⟩
              unfold mpR mp
              split <;> assumption)
            have HSP := Lib.hid hsP
            have hf0 : wz.cell? ⟨wr.heap.size, 2, none⟩ = some (.slice ro l[k].refs.length rc) := s2
            have HK2 := Lib.hid (blk_set (o := 2) HKs.out (.slice o1 l[k].refs.length c1))
            have HP2 := Lib.hid (Kp.set wr.heap.size wz 2 (.slice o1 l[k].refs.length c1))
            have HB2 := Lib.hid ((below_keep HBz.out HB1.out).setCell (p := ⟨wr.heap.size, 2, none⟩) (Nat.le_refl _) (.slice o1 l[k].refs.length c1))
            have hz2 : (wz.setCell ⟨wr.heap.size, 2, none⟩ (.slice o1 l[k].refs.length c1)).heap.size = wz.heap.size := by simp [World.setCell]
            have hO5 := World.ownsRow_made (base := wz.heap.size) (e := 70) (size := 2) (wz.setCell ⟨wr.heap.size, 2, none⟩ (.slice o1 l[k].refs.length c1)) #[] 0 (by rw [hz2]; exact Nat.le_refl _) (Nat.zero_le _) (by simp)
            rw [hz2] at hO5
            have HO5 := Lib.hid hO5
            have hal5 := al1 (wz.setCell ⟨wr.heap.size, 2, none⟩ (.slice o1 l[k].refs.length c1)) (.cells #[] 70)
            have HP5 := Lib.hid (HAV.out.keep (below_keep' HB2.out (hal5.mono (by rw [hz2]; omega))))
            have HKb5 := Lib.hid (blk_below HK2.out hal5)
            have HPb := Lib.hid (HP2.out.trans (Kp.below hal5))
            have HBb := Lib.hid (below_keep' HB2.out (hal5.mono (by rw [hz2]; omega)))
            have hza : wz.heap.size ≤ ((wz.setCell ⟨wr.heap.size, 2, none⟩ (.slice o1 l[k].refs.length c1)).alloc (.cells #[] 70)).heap.size := by rw [World.size_alloc, hz2]; omega
            have HZA := Lib.hid hza
            have hzb : wr.heap.size < ((wz.setCell ⟨wr.heap.size, 2, none⟩ (.slice o1 l[k].refs.length c1)).alloc (.cells #[] 70)).heap.size := by omega
            have HZB := Lib.hid hzb
            clear hsP hoyf hz2 hO5 hal5 hza hzb
            go_wp2_with (at_builtin; refine app_atts rfl (.tmp 62) (.tmp 64) rfl wz.heap.size _ l[k].attrs _ rfl rfl HO5 HP5 (by omega) HZA.out ?_; intro v5 w5 own5 grow5; obtain ⟨o5, c5, rfl, -, -⟩ := own_form own5; have HO6 := Lib.hid own5; have HG5 := Lib.hid grow5; have hk5 := blk_grown HKb5.out grow5 (by show some wr.heap.size ≠ some wz.heap.size; intro e; exact hzn (Option.some.inj e)); have HK5 := Lib.hid hk5; have s3 : w5.cell? ⟨wr.heap.size, 3, none⟩ = some (.slice so l[k].attrs.length sc) := (by rw [blk_cell hk5]; rfl); have f3 : w5.frozen? ⟨wr.heap.size, 3, none⟩ = false := blk_free hk5; have s4 : w5.cell? ⟨wr.heap.size, 4, none⟩ = some (.slice bo l[k].body.length bc) := (by rw [blk_cell hk5]; rfl); clear own5 grow5 hk5)
            have hB5 := HBb.out.grown HG5.out (by have := HZB.out; omega) (fun q hq => by have e : wz.heap.size = q := Option.some.inj hq; omega)
            have hP5 : Kp wr.heap.size wz w5 := HPb.out.trans' HG5.out HZA.out (fun q hq => by have e : wz.heap.size = q := Option.some.inj hq; omega)
            have hz6 : (w5.setCell ⟨wr.heap.size, 3, none⟩ (.slice o5 l[k].attrs.length c5)).heap.size = w5.heap.size := by simp [World.setCell]
            have HZ6 := Lib.hid hz6
            have HB6 := Lib.hid (hB5.setCell (p := ⟨wr.heap.size, 3, none⟩) (Nat.le_refl _) (.slice o5 l[k].attrs.length c5))
            have HP6 := Lib.hid (hP5.trans (Kp.set wr.heap.size w5 3 (.slice o5 l[k].attrs.length c5)))
            have HQ6 := Lib.hid (Kp.set wr.heap.size w5 3 (.slice o5 l[k].attrs.length c5))
            have HK6 := Lib.hid (blk_set (o := 3) HK5.out (.slice o5 l[k].attrs.length c5))
            have HC := Lib.hid (show Calls Try.prog 46 #[.slice bo l[k].body.length bc, .string F, .string T] (w5.setCell ⟨wr.heap.size, 3, none⟩ (.slice o5 l[k].attrs.length c5)) (RrOut (renL a b l[k].body) (w5.setCell ⟨wr.heap.size, 3, none⟩ (.slice o5 l[k].attrs.length c5))) by
              rw [← HF.out, ← HT.out]
              exact HIH.out _ _ (Lib.hid (HBV.out.keep HB6.out)) hcnt HOKb.out)
            have HSA := Lib.hid (own_selfP HO6.out (fun r hr => by
              obtain ⟨i, hi, rfl⟩ := List.mem_iff_getElem.1 hr
              obtain ⟨ao2, cap2, e, _, _, h2⟩ := HAV.out
              obtain ⟨B2, _, h3⟩ := h2 (by omega)
              obtain ⟨_, _, q2, q3⟩ := h3 i hi
              exact ⟨q2, q3⟩))
            have hz5 : wz.heap.size ≤ w5.heap.size := by have := HP6.out.1; rw [HZ6.out] at this; exact this
            clear hB5 hP5 hz6
            refine HC.out.mono ?_
            rintro e w7 ⟨v7, rfl, hself7, ⟨o7, c7, rfl⟩, hb7⟩
            have HS7 := Lib.hid hself7
            have HB7 := Lib.hid (below_keep hb7 HB6.out)
            have HP7 := Lib.hid (HP6.out.trans (Kp.below hb7))
            have HQ7 := Lib.hid (HQ6.out.trans (Kp.below hb7))
            have hk7 := blk_below HK6.out hb7
            have HK7 := Lib.hid hk7
            have hzs7 := hb7.size
            rw [HZ6.out] at hzs7
            have g0 : w7.cell? ⟨wr.heap.size, 0, none⟩ = some (.int .i64 l[k].kind) := by rw [blk_cell hk7, HKd.out]; rfl
            have g1 : w7.cell? ⟨wr.heap.size, 1, none⟩ = some (.string (bb n')) := by rw [blk_cell hk7, HM2.out]; rfl
            have g2 : w7.cell? ⟨wr.heap.size, 2, none⟩ = some (.slice o1 l[k].refs.length c1) := by rw [blk_cell hk7]; rfl
            have g3 : w7.cell? ⟨wr.heap.size, 3, none⟩ = some (.slice o5 l[k].attrs.length c5) := by rw [blk_cell hk7]; rfl
            have g4 : w7.cell? ⟨wr.heap.size, 4, none⟩ = some (.slice bo l[k].body.length bc) := by rw [blk_cell hk7]; rfl
            have e4 : w7.frozen? ⟨wr.heap.size, 4, none⟩ = false := blk_free hk7
            obtain ⟨i0, hi, hz0, hz1, hz2⟩ := info_of_cls
            have HI := Lib.hid (show Try.prog.info? 43 = some i0 ∧ i0.zero = some (.agg #[.int .i64 0, .string ⟨#[]⟩, .slice none 0 0, .slice none 0 0, .slice none 0 0]) ∧ i0.size = 5 ∧ i0.bytes = 96 from ⟨hi, hz0, hz1, hz2⟩)
            have hz8 : (w7.setCell ⟨wr.heap.size, 4, none⟩ (.slice o7 (renL a b l[k].body).length c7)).heap.size = w7.heap.size := by simp [World.setCell]
            have hal8 := al1 (w7.setCell ⟨wr.heap.size, 4, none⟩ (.slice o7 (renL a b l[k].body).length c7)) (.cells #[.int .i64 l[k].kind, .string (bb n'), .slice o1 l[k].refs.length c1, .slice o5 l[k].attrs.length c5, .slice o7 (renL a b l[k].body).length c7] 43)
            have hnw := blk_new (w7.setCell ⟨wr.heap.size, 4, none⟩ (.slice o7 (renL a b l[k].body).length c7)) #[.int .i64 l[k].kind, .string (bb n'), .slice o1 l[k].refs.length c1, .slice o5 l[k].attrs.length c5, .slice o7 (renL a b l[k].body).length c7] 43
            rw [hz8] at hnw
            have HNW := Lib.hid hnw
            have hB8 := below_keep' (HB7.out.setCell (p := ⟨wr.heap.size, 4, none⟩) (Nat.le_refl _) (.slice o7 (renL a b l[k].body).length c7)) (hal8.mono (by rw [hz8]; have := HB7.out.size; omega))
            have HB8 := Lib.hid hB8
            have HO9 := Lib.hid (own_keep HOw.out hB8)
            have hKK := (Kp.set wr.heap.size w7 4 (.slice o7 (renL a b l[k].body).length c7)).trans (Kp.below hal8)
            have HSz := Lib.hid (show ((w7.setCell ⟨wr.heap.size, 4, none⟩ (.slice o7 (renL a b l[k].body).length c7)).alloc (.cells #[.int .i64 l[k].kind, .string (bb n'), .slice o1 l[k].refs.length c1, .slice o5 l[k].attrs.length c5, .slice o7 (renL a b l[k].body).length c7] 43)).heap.size = w7.heap.size + 1 by rw [World.size_alloc, hz8])
            have hsv : svC ⟨renS a b l[k], .slice o1 l[k].refs.length c1, .slice o5 l[k].attrs.length c5, .slice o7 (renL a b l[k].body).length c7⟩ = [.int .i64 l[k].kind, .string (bb n'), .slice o1 l[k].refs.length c1, .slice o5 l[k].attrs.length c5, .slice o7 (renL a b l[k].body).length c7] := by
              unfold svC
              simp only
              rw [ren_kind, ren_name, show (if l[k].kind = 1 then mp a b l[k].name else l[k].name) = n' from HN'.out]
            have HSV := Lib.hid hsv
            have HFin : Hid (∀ W, agree wr.heap.size ((w7.setCell ⟨wr.heap.size, 4, none⟩ (.slice o7 (renL a b l[k].body).length c7)).alloc (.cells #[.int .i64 l[k].kind, .string (bb n'), .slice o1 l[k].refs.length c1, .slice o5 l[k].attrs.length c5, .slice o7 (renL a b l[k].body).length c7] 43)).heap.size ((w7.setCell ⟨wr.heap.size, 4, none⟩ (.slice o7 (renL a b l[k].body).length c7)).alloc (.cells #[.int .i64 l[k].kind, .string (bb n'), .slice o1 l[k].refs.length c1, .slice o5 l[k].attrs.length c5, .slice o7 (renL a b l[k].body).length c7] 43)) W → svOk W ⟨renS a b l[k], .slice o1 l[k].refs.length c1, .slice o5 l[k].attrs.length c5, .slice o7 (renL a b l[k].body).length c7⟩) := Lib.hid (fun W hW => by
              refine ⟨?_, ?_, ?_, ?_⟩
              · show (renS a b l[k]).name.length ≤ maxLen
                rw [ren_name]
                have := HNm.out
                unfold mp
                repeat' split
                all_goals assumption
              · show Prs W _ (renS a b l[k]).refs
                rw [ren_refs]
                exact HSP.out.later (HP7.out.trans hKK) (by rw [HS1.out]; omega) (by rw [HS1.out]; omega) W hW
              · show Prs W _ (renS a b l[k]).attrs
                rw [ren_attrs]
                exact HSA.out.later (HQ7.out.trans hKK) (by omega) (by omega) W hW
              · show Sts W _ (renS a b l[k]).body
                rw [ren_body]
                exact HS7.out.later hKK (by rw [HZ6.out]; omega) (by rw [HZ6.out]; omega) W hW)
            have hdl : D.length ≤ 600 := by have := HDl.out; omega
            have hwb : w.heap.size ≤ w7.heap.size + 1 := by have := HBr.out.size; have := HB7.out.size; omega
            clear hself7 hb7 hk7 hi hz0 hz1 hz2 hz8 hal8 hnw hB8 hKK hsv
            go_wp2_with (at_builtin; refine wpList_append_lies _ rfl (.tmp 74) (.tmp 76) 22 rfl w.heap.size 43 i0 _ 5 96 Try.underlying22 HI.out.1 HI.out.2.1 HI.out.2.2.1 HI.out.2.2.2 rfl (by decide) _ D.length (D.flatMap svC) rfl HO9.out ⟨w7.heap.size, 0, none⟩ 1 1 [.int .i64 l[k].kind, .string (bb n'), .slice o1 l[k].refs.length c1, .slice o5 l[k].attrs.length c5, .slice o7 (renL a b l[k].body).length c7] rfl rfl (by intro j u hj; rw [add_at, Nat.zero_add, blk_cell HNW.out, ← hj]; simp) (by simp [Value.oneCell']) (by decide) (by unfold maxLen; omega) (by omega) (by rw [HSz.out]; exact hwb) (w7.heap.size + 1) HSz.out ?_; intro g9 c9 w9 own9 grow9 hat9 hlt9; have HE9 := Lib.hid (rr_next hlt HDm.out HD.out HBr.out HB8.out HOw.out (by rw [HSV.out]; exact own9) grow9 (hat9.imp id (fun e => by rw [HSz.out, e]; exact Nat.le_refl _)) rfl HFin.out); clear own9 grow9 hat9 hlt9)
            go_roundw
            case rel => exact ⟨k + 1, _, by go_num, by omega, HE9.out.1, HE9.out.2.1, HE9.out.2.2.1, HE9.out.2.2.2⟩
            case measure => simp [intOf]; omega
    · obtain rfl : k = l.length := by omega
      have HE : Hid (selfL w.heap.size wr u7 (renL a b l)) := Lib.hid (by
        have := row_selfL HOw.out (Nat.le_refl _) HD.out
        rw [HDm.out, List.take_length] at this; exact this)
      obtain ⟨ao', cap', rfl, -, -⟩ := own_form HOw.out
      have HLn : Hid (D.length = (renL a b l).length) := Lib.hid (by rw [ren_len]; exact HDl.out)
      go_wp2
      go_ret
      exact ⟨_, rfl, HE.out, ⟨ao', cap', by rw [← HLn.out]; rfl⟩, HBr.out⟩
theorem rr_ok (a b : List UInt8) (hbm : b.length ≤ maxLen) (l : List St) : RrOk a b l := lst_ind (rr_step a b hbm) l
end Go.Proofs.Ytgnhpjbkbefgpaa.tre
