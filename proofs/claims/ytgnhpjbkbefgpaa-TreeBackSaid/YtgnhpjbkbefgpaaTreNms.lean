/-
  What Names of the reference of layer 7 returns. Condition: a tree of at most 600 statements in memory, at most 40 refs in each.
-/
import Derived.Test.YtgnhpjbkbefgpaaTreClu
namespace Go.Proofs.Ytgnhpjbkbefgpaa.tre
open Go.RowKit lex

theorem nms_snoc (l : List (St × Int)) (x : St × Int) : uniq (nmsL (l ++ [x])) = (nmsS x.1).foldl addN (uniq (nmsL l)) := by
  unfold uniq nmsL; rw [List.flatMap_append, List.foldl_append]; simp
theorem addN_len (C : List (List UInt8)) (x : List UInt8) : (addN C x).length ≤ C.length + 1 := by unfold addN; split <;> simp
/-- A statement in a block of its own. -/
def stB (w : World) (b : Nat) (k : Int) (x : ByteArray) (rv av bv : Value) : Prop := w.heap[b]? = some (.cells #[.int .i64 k, .string x, rv, av, bv] 43 (0, 0))
theorem stB_new (w : World) (k : Int) (x : ByteArray) (rv av bv : Value) : stB (w.alloc (.cells #[.int .i64 k, .string x, rv, av, bv] 43)) w.heap.size k x rv av bv := heap_alloc_new w _
theorem stB.at5 {w : World} {b : Nat} {k : Int} {x : ByteArray} {rv av bv : Value} (h : stB w b k x rv av bv) : at5 w b k x rv av bv := by
  refine ⟨?_, ?_, ?_, ?_, ?_⟩ <;> simp [World.cell?, show w.heap[b]? = _ from h]
theorem stB.grown {w w' : World} {b : Nat} {k : Int} {x : ByteArray} {rv av bv : Value} {B : Nat} {v : Value} {l : List (List UInt8)} (h : stB w b k x rv av bv) (hg : w.grownBy w' v.ownBlock) (hr : Nrow w B v l) : stB w' b k x rv av bv := by
  unfold stB at h ⊢
  rw [hg.block b (Array.getElem?_eq_some_iff.1 h).1 (fun e => ?_)]
  · exact h
  · rcases hr.2 with ⟨rfl, _⟩ | ⟨g, cap, cur, rfl, _, hg2, _⟩
    · cases e
    · have e2 : b = g := Option.some.inj e
      rw [← e2, h] at hg2
      injection hg2 with hg2
      injection hg2 with _ h5 _
      exact absurd h5 (by decide)
theorem nms_step {r : List Pr} {j : Nat} {C D : List (List UInt8)} (h : ((r.take j).map (·.1)).foldl addN C = D) (hj : j < r.length) : ((r.take (j + 1)).map (·.1)).foldl addN C = addN D r[j].1 := by
  rw [take_pr hj, List.map_append, List.foldl_append, h]; rfl
set_option maxRecDepth 100000 in
set_option maxHeartbeats 8000000 in
theorem rnms_of (v : Value) (T : Tr) (L : List (List UInt8)) (w : World) (hT : Hid (TrV w v T)) (hc : cnt T.body ≤ 600) (hok : okL T.body) (hL : Hid (namesT T = L)) :
    Calls Try.prog 18 #[v] w (NlOut L w) := by
  obtain ⟨bv, rfl, hnl, hs⟩ := id hT.out
  have hr := hL.out
  unfold namesT at hr
  obtain ⟨E, hE⟩ : ∃ E, validT T = E := ⟨_, rfl⟩
  rw [hE] at hr
  have HE := Lib.hid hE
  obtain ⟨X, hX⟩ : ∃ X, bb T.name = X := ⟨_, rfl⟩
  have HX := Lib.hid hX
  rw [hX] at hT ⊢
  have hB := al1 w (.cells #[.string X, .bool T.dir, bv] 24)
  have h3 := at3_new w X T.dir bv 24
  have hB1 := hB.alloc (by simp) (.cells #[] 9)
  have h31 := at3_keep h3 (al1 (w.alloc (.cells #[.string X, .bool T.dir, bv] 24)) (.cells #[] 9))
  have HO1 : Hid (Nrow ((w.alloc (.cells #[.string X, .bool T.dir, bv] 24)).alloc (.cells #[] 9)) w.heap.size (.slice (some ⟨w.heap.size + 1, 0, none⟩) 0 0) []) := Lib.hid (by
    have := World.ownsRow_lit (base := w.heap.size) (e := 9) (size := 1) (w.alloc (.cells #[.string X, .bool T.dir, bv] 24)) #[] 0 (by simp) (by decide) rfl
    unfold Nrow; simpa [nmC] using this)
  have HT1 := Lib.hid (hT.out.keep hB1)
  have HS0 := Lib.hid hs
  clear hT hL hX hs hnl hE h3 hB
  obtain ⟨c0, c1, c2⟩ := id h31
  go_enter Try.func18, Try.ntmps18
  go_wp2_with fail
  refine (rvalid_of _ T E _ HT1 hc HE).mono ?_
  rintro e w2 ⟨rfl, hb2⟩
  have hB2 := below_keep hb2 hB1
  have HO2 : Hid (Nrow w2 w.heap.size (.slice (some ⟨w.heap.size + 1, 0, none⟩) 0 0) []) := Lib.hid (own_keep HO1.out hb2)
  have h32 := at3_keep h31 hb2
  clear c0 c1 c2 h31 HO1 HT1 hb2 hB1
  by_cases hE0 : E = 0
  · subst hE0
    rw [if_pos rfl] at hr
    have HL := Lib.hid hr
    obtain ⟨c0, c1, c2⟩ := id h32
    clear hr
    go_wp2_with fail
    refine (pre_ok T.body w _ _ 0 hB2 HS0.out hc (by decide) (by omega)).mono ?_
    rintro e w3 ⟨g, oc, F, rfl, hown, hF, hfv, hb3⟩
    have hFl := fin_len hF
    have hF6 : F.length ≤ 600 := by omega
    have hB3 := below_keep hb3 hB2
    have HO3 : Hid (Nrow w3 w.heap.size (.slice (some ⟨w.heap.size + 1, 0, none⟩) 0 0) []) := Lib.hid (own_keep HO2.out hb3)
    have HF := Lib.hid hF
    have HO := Lib.hid hown
    have HFV : Hid (∀ f ∈ F, fvOk w f) := Lib.hid hfv
    clear hown hF hfv hb3 HO2 hB2 h32 c0 c1 c2 hFl
    go_wp2_with fail
    go_loopw [3, 5] (fun ov iv wr => ∃ (k : Nat) (C : List (List UInt8)), k ≤ F.length ∧ iv = .int .i64 k ∧ uniq (nmsL ((preL T.body 0).take k)) = C ∧ C.length ≤ 41 * k ∧ Nrow wr w.heap.size ov C ∧ wr.ownsRow w2.heap.size 54 6 (.slice (some ⟨g, 0, none⟩) F.length oc) F.length (flatF F) ∧ Below w.heap.size w wr) (fun _ iv _ => F.length - (intOf iv).toNat)
    case atStart => exact ⟨0, [], Nat.zero_le _, rfl, rfl, Nat.zero_le _, HO3.out, HO.out, hB3⟩
    case round =>
      obtain ⟨k, C, hk, rfl, hC, hCl, hrow, hown, hBr⟩ := hrel
      rename World => wr
      have HOr := Lib.hid hown
      have HC := Lib.hid hC
      have HR := Lib.hid hrow
      have hsz := hBr.size
      clear hC hrow hown
      by_cases hlt : k < F.length
      · obtain ⟨p0, p1, p2, p3, p4, p5⟩ := flat_at HOr.out hlt
        obtain ⟨r0, r1, r2, r3, r4, r5⟩ := flat_at2 HOr.out hlt
        obtain ⟨hk2, hgk⟩ := fin_get HF.out hlt
        have hsn := nms_snoc ((preL T.body 0).take k) (preL T.body 0)[k]
        rw [← take_pair hk2, hgk, HC.out] at hsn
        have hrl := (hok _ (List.getElem_mem hk2)).1
        rw [hgk] at hrl
        have hfk := HFV.out _ (List.getElem_mem hlt)
        obtain ⟨f, hfe⟩ : ∃ f, F[k] = f := ⟨_, rfl⟩
        rw [hfe] at p0 p1 p2 p3 p4 p5 r0 r1 r2 r3 r4 r5 hsn hrl hfk
        obtain ⟨s, lv, rv, av, bv'⟩ := f
        simp only at p0 p1 p2 p3 p4 p5 r0 r1 r2 r3 r4 r5 hsn hrl
        have HSN := Lib.hid hsn
        have hfk1 := hfk.2.1
        have hfk2 := hfk.2.2.1
        have hfk3 := hfk.2.2.2
        simp only at hfk1 hfk2 hfk3
        obtain ⟨ro, rc, rfl, hr1, hr2, _⟩ := id hfk1
        obtain ⟨so, sc, rfl, _, _, _⟩ := hfk2
        obtain ⟨bo, bc, rfl, _, _, _⟩ := hfk3
        have HFK := Lib.hid hfk1
        clear hfk1
        have i0 : (0 : Int) ≤ (k : Int) := by omega
        have i1 : (k : Int) < (F.length : Int) := by omega
        clear hfe hgk hsn hfk
        have hBa := hBr.alloc hsz (.cells #[.int .i64 s.kind, .string (bb s.name), .slice ro s.refs.length rc, .slice so s.attrs.length sc, .slice bo s.body.length bc] 43)
        have HSa := Lib.hid (stB_new wr s.kind (bb s.name) (.slice ro s.refs.length rc) (.slice so s.attrs.length sc) (.slice bo s.body.length bc))
        have HRa : Hid (Nrow _ w.heap.size _ C) := Lib.hid (World.ownsRow.alloc HR.out (.cells #[.int .i64 s.kind, .string (bb s.name), .slice ro s.refs.length rc, .slice so s.attrs.length sc, .slice bo s.body.length bc] 43))
        have HOa := Lib.hid (World.ownsRow.alloc HOr.out (.cells #[.int .i64 s.kind, .string (bb s.name), .slice ro s.refs.length rc, .slice so s.attrs.length sc, .slice bo s.body.length bc] 43))
        have NLa := Lib.hid HRa.out.nl
        have hza := hBa.size
        obtain ⟨a0, a1, a2, a3, a4⟩ := HSa.out.at5
        by_cases h1 : s.kind = 1
        · have b5 : (s.kind == 1) = true := by rw [beq_iff_eq]; exact h1
          obtain ⟨cq, hcq⟩ : ∃ b, C.contains s.name = b := ⟨_, rfl⟩
          have HCQ := Lib.hid hcq
          have hsn2 := HSN.out
          rw [nmsS, if_pos h1, List.foldl_append, List.foldl_cons, List.foldl_nil, addN, hcq] at hsn2
          clear HSN h1 hcq
          cases cq
          · rw [if_neg (by decide)] at hsn2
            have HSN := Lib.hid hsn2
            clear hsn2
            go_wp2_with (first | (go_at_call 38; refine (rhas_of _ _ _ _ _ NLa HCQ).mono ?_; rintro e w5 ⟨rfl, hw5⟩; rw [hw5] at hBa HSa HRa HOa hza a0 a1 a2 a3 a4) | (at_builtin; refine app_name rfl (.tmp 37) (.tmp 40) rfl w.heap.size _ C s.name rfl rfl HRa (by omega) (by omega) ?_; intro v4 w4 hrow4 hgrow4; have hB4 := hBa.grown hgrow4 (by omega) (fun q hq => (World.ownsRow.lt HRa.out q hq).1); have HO4 := Lib.hid (World.ownsRow.kept HOa.out hgrow4 (own_far HOa.out HRa.out (by decide))); have HS4 := Lib.hid (HSa.out.grown hgrow4 HRa.out); have HR4 := Lib.hid hrow4; clear hgrow4 hrow4 a0 a1 a2 a3 a4))
            go_loopw [3, 7] (fun ov jv wz => ∃ (j : Nat) (D : List (List UInt8)), j ≤ s.refs.length ∧ jv = .int .i64 j ∧ ((s.refs.take j).map (·.1)).foldl addN (C ++ [s.name]) = D ∧ D.length ≤ 41 * k + 1 + j ∧ Nrow wz w.heap.size ov D ∧ wz.ownsRow w2.heap.size 54 6 (.slice (some ⟨g, 0, none⟩) F.length oc) F.length (flatF F) ∧ stB wz wr.heap.size s.kind (bb s.name) (.slice ro s.refs.length rc) (.slice so s.attrs.length sc) (.slice bo s.body.length bc) ∧ Below w.heap.size w wz) (fun _ jv _ => s.refs.length - (intOf jv).toNat)
            case atStart => exact ⟨0, C ++ [s.name], Nat.zero_le _, rfl, rfl, by simp; omega, HR4.out, HO4.out, HS4.out, hB4⟩
            case round =>
              obtain ⟨j, D, hj, rfl, hD, hDl, hrw, hoz, hsz2, hBz⟩ := hrel
              rename World => wz
              have HD := Lib.hid hD
              have HRW := Lib.hid hrw
              have HOZ := Lib.hid hoz
              have HSZ := Lib.hid hsz2
              have hzz := hBz.size
              clear hD hrw hoz hsz2
              obtain ⟨c0, c1, c2, c3, c4⟩ := HSZ.out.at5
              by_cases hjl : j < s.refs.length
              · obtain ⟨A, rfl, q0, q1, q2, q3⟩ := (HFK.out.keep hBz).get hjl
                have hstep := nms_step HD.out hjl
                obtain ⟨y, hy⟩ : ∃ y, s.refs[j] = y := ⟨_, rfl⟩
                rw [hy] at q0 q1 hstep
                have j0 : (0 : Int) ≤ (j : Int) := by omega
                have j1 : (j : Int) < (s.refs.length : Int) := by omega
                have NL := Lib.hid HRW.out.nl
                obtain ⟨dq, hdq⟩ : ∃ b, D.contains y.1 = b := ⟨_, rfl⟩
                have HDQ := Lib.hid hdq
                rw [addN, hdq] at hstep
                have HST := Lib.hid hstep
                clear hy hdq hstep q2 q3
                cases dq
                · have HN : Hid (((s.refs.take (j + 1)).map (·.1)).foldl addN (C ++ [s.name]) = D ++ [y.1]) := Lib.hid (by rw [HST.out, if_neg (by decide)])
                  go_wp2_with (first | (go_at_call 38; refine (rhas_of _ _ _ _ _ NL HDQ).mono ?_; rintro e w' ⟨rfl, rfl⟩) | (at_builtin; refine app_name rfl (.tmp 58) (.tmp 65) rfl w.heap.size _ D y.1 rfl rfl HRW (by omega) (by omega) ?_; intro v6 w6 hrow6 hgrow6; have hB6 := hBz.grown hgrow6 (by omega) (fun q hq => (World.ownsRow.lt HRW.out q hq).1); have HO6 := Lib.hid (World.ownsRow.kept HOZ.out hgrow6 (own_far HOZ.out HRW.out (by decide))); have HS6 := Lib.hid (HSZ.out.grown hgrow6 HRW.out); clear hgrow6))
                  go_roundw
                  case rel => exact ⟨j + 1, _, by omega, by go_num, HN.out, by simp; omega, hrow6, HO6.out, HS6.out, hB6⟩
                  case measure => simp [intOf]; omega
                · have HN : Hid (((s.refs.take (j + 1)).map (·.1)).foldl addN (C ++ [s.name]) = D) := Lib.hid (by rw [HST.out, if_pos rfl])
                  go_wp2_with (go_at_call 38; refine (rhas_of _ _ _ _ _ NL HDQ).mono ?_; rintro e w' ⟨rfl, rfl⟩)
                  go_roundw
                  case rel => exact ⟨j + 1, D, by omega, by go_num, HN.out, by omega, HRW.out, HOZ.out, HSZ.out, hBz⟩
                  case measure => simp [intOf]; omega
              · obtain rfl : j = s.refs.length := by omega
                have HN : Hid (uniq (nmsL ((preL T.body 0).take (k + 1))) = D) := Lib.hid (by rw [HSN.out, ← HD.out, List.take_length])
                go_wp2
                go_roundw
                case rel => exact ⟨k + 1, D, by omega, by go_num, HN.out, by omega, HRW.out, HOZ.out, hBz⟩
                case measure => simp [intOf]; omega
          · rw [if_pos rfl] at hsn2
            have HSN := Lib.hid hsn2
            clear hsn2
            go_wp2_with (go_at_call 38; refine (rhas_of _ _ _ _ _ NLa HCQ).mono ?_; rintro e w' ⟨rfl, rfl⟩)
            clear a0 a1 a2 a3 a4
            go_loopw [3, 7] (fun ov jv wz => ∃ (j : Nat) (D : List (List UInt8)), j ≤ s.refs.length ∧ jv = .int .i64 j ∧ ((s.refs.take j).map (·.1)).foldl addN (C) = D ∧ D.length ≤ 41 * k + 1 + j ∧ Nrow wz w.heap.size ov D ∧ wz.ownsRow w2.heap.size 54 6 (.slice (some ⟨g, 0, none⟩) F.length oc) F.length (flatF F) ∧ stB wz wr.heap.size s.kind (bb s.name) (.slice ro s.refs.length rc) (.slice so s.attrs.length sc) (.slice bo s.body.length bc) ∧ Below w.heap.size w wz) (fun _ jv _ => s.refs.length - (intOf jv).toNat)
            case atStart => exact ⟨0, C, Nat.zero_le _, rfl, rfl, by simp; omega, HRa.out, HOa.out, HSa.out, hBa⟩
            case round =>
              obtain ⟨j, D, hj, rfl, hD, hDl, hrw, hoz, hsz2, hBz⟩ := hrel
              rename World => wz
              have HD := Lib.hid hD
              have HRW := Lib.hid hrw
              have HOZ := Lib.hid hoz
              have HSZ := Lib.hid hsz2
              have hzz := hBz.size
              clear hD hrw hoz hsz2
              obtain ⟨c0, c1, c2, c3, c4⟩ := HSZ.out.at5
              by_cases hjl : j < s.refs.length
              · obtain ⟨A, rfl, q0, q1, q2, q3⟩ := (HFK.out.keep hBz).get hjl
                have hstep := nms_step HD.out hjl
                obtain ⟨y, hy⟩ : ∃ y, s.refs[j] = y := ⟨_, rfl⟩
                rw [hy] at q0 q1 hstep
                have j0 : (0 : Int) ≤ (j : Int) := by omega
                have j1 : (j : Int) < (s.refs.length : Int) := by omega
                have NL := Lib.hid HRW.out.nl
                obtain ⟨dq, hdq⟩ : ∃ b, D.contains y.1 = b := ⟨_, rfl⟩
                have HDQ := Lib.hid hdq
                rw [addN, hdq] at hstep
                have HST := Lib.hid hstep
                clear hy hdq hstep q2 q3
                cases dq
                · have HN : Hid (((s.refs.take (j + 1)).map (·.1)).foldl addN (C) = D ++ [y.1]) := Lib.hid (by rw [HST.out, if_neg (by decide)])
                  go_wp2_with (first | (go_at_call 38; refine (rhas_of _ _ _ _ _ NL HDQ).mono ?_; rintro e w' ⟨rfl, rfl⟩) | (at_builtin; refine app_name rfl (.tmp 58) (.tmp 65) rfl w.heap.size _ D y.1 rfl rfl HRW (by omega) (by omega) ?_; intro v6 w6 hrow6 hgrow6; have hB6 := hBz.grown hgrow6 (by omega) (fun q hq => (World.ownsRow.lt HRW.out q hq).1); have HO6 := Lib.hid (World.ownsRow.kept HOZ.out hgrow6 (own_far HOZ.out HRW.out (by decide))); have HS6 := Lib.hid (HSZ.out.grown hgrow6 HRW.out); clear hgrow6))
                  go_roundw
                  case rel => exact ⟨j + 1, _, by omega, by go_num, HN.out, by simp; omega, hrow6, HO6.out, HS6.out, hB6⟩
                  case measure => simp [intOf]; omega
                · have HN : Hid (((s.refs.take (j + 1)).map (·.1)).foldl addN (C) = D) := Lib.hid (by rw [HST.out, if_pos rfl])
                  go_wp2_with (go_at_call 38; refine (rhas_of _ _ _ _ _ NL HDQ).mono ?_; rintro e w' ⟨rfl, rfl⟩)
                  go_roundw
                  case rel => exact ⟨j + 1, D, by omega, by go_num, HN.out, by omega, HRW.out, HOZ.out, HSZ.out, hBz⟩
                  case measure => simp [intOf]; omega
              · obtain rfl : j = s.refs.length := by omega
                have HN : Hid (uniq (nmsL ((preL T.body 0).take (k + 1))) = D) := Lib.hid (by rw [HSN.out, ← HD.out, List.take_length])
                go_wp2
                go_roundw
                case rel => exact ⟨k + 1, D, by omega, by go_num, HN.out, by omega, HRW.out, HOZ.out, hBz⟩
                case measure => simp [intOf]; omega
        · have b5 : (s.kind == 1) = false := by rw [beq_eq_false_iff_ne]; exact h1
          have hsn2 := HSN.out
          rw [nmsS, if_neg h1, List.nil_append] at hsn2
          clear HSN h1
          have HSN := Lib.hid hsn2
          clear hsn2
          go_wp2_with fail
          clear a0 a1 a2 a3 a4
          go_loopw [3, 7] (fun ov jv wz => ∃ (j : Nat) (D : List (List UInt8)), j ≤ s.refs.length ∧ jv = .int .i64 j ∧ ((s.refs.take j).map (·.1)).foldl addN (C) = D ∧ D.length ≤ 41 * k + 1 + j ∧ Nrow wz w.heap.size ov D ∧ wz.ownsRow w2.heap.size 54 6 (.slice (some ⟨g, 0, none⟩) F.length oc) F.length (flatF F) ∧ stB wz wr.heap.size s.kind (bb s.name) (.slice ro s.refs.length rc) (.slice so s.attrs.length sc) (.slice bo s.body.length bc) ∧ Below w.heap.size w wz) (fun _ jv _ => s.refs.length - (intOf jv).toNat)
          case atStart => exact ⟨0, C, Nat.zero_le _, rfl, rfl, by simp; omega, HRa.out, HOa.out, HSa.out, hBa⟩
          case round =>
            obtain ⟨j, D, hj, rfl, hD, hDl, hrw, hoz, hsz2, hBz⟩ := hrel
            rename World => wz
            have HD := Lib.hid hD
            have HRW := Lib.hid hrw
            have HOZ := Lib.hid hoz
            have HSZ := Lib.hid hsz2
            have hzz := hBz.size
            clear hD hrw hoz hsz2
            obtain ⟨c0, c1, c2, c3, c4⟩ := HSZ.out.at5
            by_cases hjl : j < s.refs.length
            · obtain ⟨A, rfl, q0, q1, q2, q3⟩ := (HFK.out.keep hBz).get hjl
              have hstep := nms_step HD.out hjl
              obtain ⟨y, hy⟩ : ∃ y, s.refs[j] = y := ⟨_, rfl⟩
              rw [hy] at q0 q1 hstep
              have j0 : (0 : Int) ≤ (j : Int) := by omega
              have j1 : (j : Int) < (s.refs.length : Int) := by omega
              have NL := Lib.hid HRW.out.nl
              obtain ⟨dq, hdq⟩ : ∃ b, D.contains y.1 = b := ⟨_, rfl⟩
              have HDQ := Lib.hid hdq
              rw [addN, hdq] at hstep
              have HST := Lib.hid hstep
              clear hy hdq hstep q2 q3
              cases dq
              · have HN : Hid (((s.refs.take (j + 1)).map (·.1)).foldl addN (C) = D ++ [y.1]) := Lib.hid (by rw [HST.out, if_neg (by decide)])
                go_wp2_with (first | (go_at_call 38; refine (rhas_of _ _ _ _ _ NL HDQ).mono ?_; rintro e w' ⟨rfl, rfl⟩) | (at_builtin; refine app_name rfl (.tmp 58) (.tmp 65) rfl w.heap.size _ D y.1 rfl rfl HRW (by omega) (by omega) ?_; intro v6 w6 hrow6 hgrow6; have hB6 := hBz.grown hgrow6 (by omega) (fun q hq => (World.ownsRow.lt HRW.out q hq).1); have HO6 := Lib.hid (World.ownsRow.kept HOZ.out hgrow6 (own_far HOZ.out HRW.out (by decide))); have HS6 := Lib.hid (HSZ.out.grown hgrow6 HRW.out); clear hgrow6))
                go_roundw
                case rel => exact ⟨j + 1, _, by omega, by go_num, HN.out, by simp; omega, hrow6, HO6.out, HS6.out, hB6⟩
                case measure => simp [intOf]; omega
              · have HN : Hid (((s.refs.take (j + 1)).map (·.1)).foldl addN (C) = D) := Lib.hid (by rw [HST.out, if_pos rfl])
                go_wp2_with (go_at_call 38; refine (rhas_of _ _ _ _ _ NL HDQ).mono ?_; rintro e w' ⟨rfl, rfl⟩)
                go_roundw
                case rel => exact ⟨j + 1, D, by omega, by go_num, HN.out, by omega, HRW.out, HOZ.out, HSZ.out, hBz⟩
                case measure => simp [intOf]; omega
            · obtain rfl : j = s.refs.length := by omega
              have HN : Hid (uniq (nmsL ((preL T.body 0).take (k + 1))) = D) := Lib.hid (by rw [HSN.out, ← HD.out, List.take_length])
              go_wp2
              go_roundw
              case rel => exact ⟨k + 1, D, by omega, by go_num, HN.out, by omega, HRW.out, HOZ.out, hBz⟩
              case measure => simp [intOf]; omega
      · obtain rfl : k = F.length := by omega
        have HN : Hid (C = L) := Lib.hid (by
          rw [← HL.out, ← HC.out, ← HF.out, List.take_of_length_le (by rw [List.length_map]; exact Nat.le_refl _)])
        obtain rfl := HN.out
        go_wp2
        go_ret
        exact ⟨_, rfl, HR.out.nl, hBr⟩
  · rw [if_neg hE0] at hr
    subst hr
    have b1 : (E != 0) = true := by simp [hE0]
    clear hE0
    go_wp2
    go_ret
    exact ⟨_, rfl, HO2.out.nl, hB2⟩
end Go.Proofs.Ytgnhpjbkbefgpaa.tre
