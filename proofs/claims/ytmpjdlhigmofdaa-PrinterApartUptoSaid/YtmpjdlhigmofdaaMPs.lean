/-
  What Preorder of the reference of layer 7 returns, for trees of up to two million statements. Conditions: a tree in memory; a small level.
  What small of the statements of layer 8 answers. Condition: a tree of at most two million statements.
  The text of a small valid tree has at most 900000 bytes. No function of the program is named here; no condition.
  The walk of the statement PrinterPrints of layer 8. Condition: a tree of at most two million statements.
-/
import Derived.Test.YtmpjdlhigmofdaaTrePre
import Derived.Test.YtmpjdlhigmofdaaTreVal
import Derived.Test.YtmpjdlhigmofdaaMPc
import Derived.Test.YtmpjdlhigmofdaaMPa
import Derived.Test.YtmpjdlhigmofdaaMPe
namespace Go.Proofs.Ytmpjdlhigmofdaa.tre
open Go.RowKit lex

def PreBig (l : List St) : Prop := ∀ (w0 w : World) (v : Value) (lv : Int), Below w0.heap.size w0 w → Sts w0 v l → cnt l ≤ 2000000 → 0 ≤ lv → lv + cnt l ≤ 3000000 →
  Calls Try.prog 20 #[v, .int .i64 lv] w (PreOut w0 l lv w)
set_option maxRecDepth 100000 in
set_option maxHeartbeats 8000000 in
theorem big_step (l : List St) (ih : ∀ s ∈ l, PreBig s.body) : PreBig l := by
  intro w0 w v lv hw hs hcn h0 h1
  obtain ⟨i0, hi, hz0, hz1, hz2⟩ := info_flat6
  have hs' := hs
  obtain ⟨ao, cap, rfl, hc, hm, _⟩ := hs'
  have HS := Lib.hid hs
  have IH := Lib.hid ih
  unfold maxLen at hm
  have hlm : l.length ≤ 9223372036854775807 := by omega
  clear hs ih hc hm
  go_enter Try.func20, Try.ntmps20
  go_wp2_with fail
  go_loopw [5, 6] (fun out iv wr => ∃ (g oc : Nat) (F : List FV) (k : Nat), out = .slice (some ⟨g, 0, none⟩) F.length oc ∧ iv = .int .i64 k ∧ k ≤ l.length ∧ wr.ownsRow w.heap.size 49 6 (.slice (some ⟨g, 0, none⟩) F.length oc) F.length (flatF F) ∧
    F.map (fun f => (f.s, f.lv)) = preL (l.take k) lv ∧ (∀ f ∈ F, fvOk w0 f) ∧ Below w.heap.size w wr) (fun _ iv _ => l.length - (intOf iv).toNat)
  case atStart =>
    exact ⟨w.heap.size, 0, [], 0, rfl, rfl, Nat.zero_le _, World.ownsRow_lit (e := 49) (size := 6) w #[] 0 (Nat.le_refl _) (by decide) rfl, rfl, fun f hf => (by cases hf), al1 ..⟩
  case round =>
    obtain ⟨g, oc, F, k, rfl, rfl, hk, hown, hF, hfv, hB⟩ := hrel
    rename World => wr
    have HO := Lib.hid hown
    have HF := Lib.hid hF
    have HFV := Lib.hid hfv
    have hsz := hB.size
    clear hown hF hfv
    have hFl : F.length = cnt (l.take k) := by have := congrArg List.length HF.out; rw [List.length_map] at this; rw [this]; exact pre_len.2 _ _ _
    by_cases hlt : k < l.length
    · obtain ⟨hct, htk⟩ := cnt_take hlt
      have hB0 : Below w0.heap.size w0 wr := hw.trans (hB.mono hw.size)
      obtain ⟨A, rfl, hst0⟩ := HS.out.get hlt
      have hst := (st_keep hB0).1 _ _ hst0
      obtain ⟨c0, c1, hnl, ⟨rv, c2, hrv⟩, ⟨av, c3, hav⟩, bv, c4, hbv⟩ := (stAt_eq _ _ _).1 hst
      obtain ⟨_, _, _, ⟨rv', c2', hrv0⟩, ⟨av', c3', hav0⟩, bv', c4', hbv0⟩ := (stAt_eq _ _ _).1 hst0
      obtain rfl : rv' = rv := Option.some.inj ((cell_later' hB0 c2').symm.trans c2)
      obtain rfl : av' = av := Option.some.inj ((cell_later' hB0 c3').symm.trans c3)
      obtain rfl : bv' = bv := Option.some.inj ((cell_later' hB0 c4').symm.trans c4)
      have HNF : Hid (fvOk w0 ⟨l[k], lv, rv', av', bv'⟩) := Lib.hid ⟨hnl, hrv0, hav0, hbv0⟩
      have HBV0 := Lib.hid hbv0
      have hone := cellsF_one HNF.out
      have HONE := Lib.hid hone
      have hPre := IH.out l[k] (List.getElem_mem hlt)
      have HPRE := Lib.hid hPre
      have HPL : Hid (preL (l.take (k + 1)) lv = preL (l.take k) lv ++ ((l[k], lv) :: preL l[k].body (if l[k].kind = 5 then lv + 1 else lv))) := Lib.hid (by
        rw [htk, preL_app, preL_cons, preL_nil, List.append_nil, preS_eq])
      have k0 := ((stAt_eq _ _ _).1 hst0).1
      have k4 := c4'
      clear hrv hav hbv hrv0 hav0 hbv0 hst hst0 c2' c3' c4' hone hPre htk
      have z0 : (0 : Int) ≤ (k : Int) := by omega
      have z1 : (k : Int) < (l.length : Int) := by omega
      obtain ⟨s, hse⟩ : ∃ s, l[k] = s := ⟨_, rfl⟩
      rw [hse] at c0 c1 HNF HBV0 HONE HPRE HPL hct hnl k0
      clear hse
      have hFb : F.length + 1 + cnt s.body ≤ 2000000 := by omega
      have hlvb : lv + 1 + cnt s.body ≤ 3000000 := by omega
      have hB1 := below_keep (al1 wr (.cells #[.int .i64 s.kind, .string (bb s.name), rv', av', bv', .int .i64 lv] 49)) hB
      have HK0 := Lib.hid k0
      have HK4 := Lib.hid k4
      clear k0 k4 hFl hct
      obtain ⟨lw, hlw⟩ : ∃ q : Int, (if s.kind = 5 then lv + 1 else lv) = q := ⟨_, rfl⟩
      rw [hlw] at HPL
      have hl0 : 0 ≤ lw := by rw [← hlw]; split <;> omega
      have hl1 : lw + cnt s.body ≤ 3000000 := by rw [← hlw]; split <;> omega
      have hway : ((s.kind == 5) = true ∧ lw = lv + 1) ∨ ((s.kind == 5) = false ∧ lv = lw) := by
        by_cases h5 : s.kind = 5
        · rw [if_pos h5] at hlw; exact Or.inl ⟨by rw [beq_iff_eq]; exact h5, hlw.symm⟩
        · rw [if_neg h5] at hlw; exact Or.inr ⟨by rw [beq_eq_false_iff_ne]; exact h5, hlw⟩
      clear hlw
      rcases hway with ⟨b5, rfl⟩ | ⟨b5, rfl⟩
      all_goals
        go_wp2_with (first
          | (at_builtin; refine wpList_append_own _ rfl (.tmp 15) (.tmp 22) 43 rfl w.heap.size 49 i0 (.agg #[.int .i64 0, .string ⟨#[]⟩, .slice none 0 0, .slice none 0 0, .slice none 0 0, .int .i64 0]) 6 104 Try.underlying43 hi hz0 hz1 hz2 rfl (by decide) _ _ _ rfl (World.ownsRow.alloc HO.out _) ⟨wr.heap.size, 0, none⟩ 1 1 [.int .i64 s.kind, .string (bb s.name), rv', av', bv', .int .i64 lv] rfl rfl (cell6_new _ _ _ _ _ _ _ _) (fun u hu => HONE.out u hu) (by unfold maxLen; omega) (by omega) (by simp; omega) ?_; intro v3 w3 hown3 hgrow3 hnil3; have hB3 := (hB.alloc hsz (.cells #[.int .i64 s.kind, .string (bb s.name), rv', av', bv', .int .i64 lv] 49)).grown hgrow3 (by simp; omega) (fun q hq => (World.ownsRow.lt HO.out q hq).1); have hs3 := hB3.size; have hBw := hw.trans (hB3.mono hw.size); have d0 := cell_later' hBw HK0.out; have d4 := cell_later' hBw HK4.out; have HO3 := Lib.hid hown3; clear hown3 hgrow3 hnil3)
          | (go_at_call 20; refine (HPRE.out w0 w3 bv' _ hBw HBV0.out (by omega) hl0 hl1).mono ?_; rintro e w4 ⟨g4, oc4, G, rfl, hown4, hG, hGv, hb4⟩; have HO4 := Lib.hid (own_keep HO3.out hb4); have HG := Lib.hid hG; have HGV := Lib.hid hGv; have HOG := Lib.hid hown4; have hB4 := below_keep hb4 hB3; have hs4 := hB4.size; have hGl : G.length = cnt s.body := (by have := congrArg List.length hG; rw [List.length_map] at this; rw [this]; exact pre_len.2 _ _ _); have hGb : F.length + 1 + G.length ≤ 2000000 := (by omega); clear hown4 hG hGv hb4 hGl)
          | (at_builtin; refine wpList_append_own _ rfl (.tmp 33) (.tmp 40) 43 rfl w.heap.size 49 i0 (.agg #[.int .i64 0, .string ⟨#[]⟩, .slice none 0 0, .slice none 0 0, .slice none 0 0, .int .i64 0]) 6 104 Try.underlying43 hi hz0 hz1 hz2 rfl (by decide) _ _ _ rfl HO4.out ⟨g4, 0, none⟩ G.length oc4 (flatF G) rfl (flatF_length G) (World.ownsRow.cells HOG.out (g := g4) rfl) (flatF_one' HGV.out) (by unfold maxLen; omega) (by omega) hs4 ?_; intro v5 w5 hown5 hgrow5 hnil5; have hB5 := hB4.grown hgrow5 hs4 (fun q hq => (World.ownsRow.lt HO4.out q hq).1); have HO5 := Lib.hid hown5; clear hown5 hgrow5 hnil5))
        have hcat : flatF F ++ [.int .i64 s.kind, .string (bb s.name), rv', av', bv', .int .i64 lv] ++ flatF G = flatF (F ++ [(⟨s, lv, rv', av', bv'⟩ : FV)] ++ G) := by rw [flatF_app, flatF_app, flatF_one]; rfl
        have hlen : (F ++ [(⟨s, lv, rv', av', bv'⟩ : FV)] ++ G).length = F.length + 1 + G.length := by simp; omega
        have hO5 := HO5.out
        rw [hcat, ← hlen] at hO5
        obtain ⟨g5, oc5, rfl⟩ : ∃ g5 oc5, v5 = .slice (some ⟨g5, 0, none⟩) (F ++ [(⟨s, lv, rv', av', bv'⟩ : FV)] ++ G).length oc5 := by
          rcases hO5.2 with ⟨_, h0⟩ | ⟨g5, oc5, _, rfl, _⟩
          · rw [hlen] at h0; omega
          · exact ⟨g5, oc5, rfl⟩
        have HO6 := Lib.hid hO5
        clear HO5 hO5 hcat hlen
        go_roundw
        case rel => exact ⟨g5, oc5, F ++ [(⟨s, lv, rv', av', bv'⟩ : FV)] ++ G, k + 1, rfl, by go_num, by omega, HO6.out, by rw [List.map_append, List.map_append, HF.out, HG.out, HPL.out, List.append_assoc]; rfl, fun f hf => by
          rcases List.mem_append.1 hf with hf | hf
          · rcases List.mem_append.1 hf with hf | hf
            · exact HFV.out f hf
            · rw [List.mem_singleton.1 hf]; exact HNF.out
          · exact HGV.out f hf, hB5⟩
        case measure => simp [intOf]; omega
    · obtain rfl : k = l.length := by omega
      have HL : Hid (l.take l.length = l) := Lib.hid (List.take_length)
      go_wp2
      go_ret
      exact ⟨g, oc, F, rfl, HO.out, by rw [HF.out, HL.out], HFV.out, hB⟩
theorem pre_big (l : List St) : PreBig l := lst_ind big_step l
end Go.Proofs.Ytmpjdlhigmofdaa.tre
namespace Go.Proofs.Ytmpjdlhigmofdaa.prt
open Go.RowKit lex tre

/-- What small leaves: if it says yes, the tree is small. -/
def SmallOut (T : Tr) (w : World) (e : Ending) (w' : World) : Prop := ∃ b, e = .returned (.bool b) ∧ (b = true → cnt T.body ≤ 60 ∧ okL T.body) ∧ Below w.heap.size w w'
theorem ok_of {F : List FV} {l : List St} (h : F.map (fun f => (f.s, f.lv)) = preL l 0) (hs : ∀ j (hj : j < F.length), F[j].s.refs.length ≤ 20 ∧ F[j].s.attrs.length ≤ 20) : okL l := by
  intro x hx
  rw [← h] at hx
  obtain ⟨f, hf, rfl⟩ := List.mem_map.1 hx
  obtain ⟨j, hj, rfl⟩ := List.mem_iff_getElem.1 hf
  have := hs j hj
  exact ⟨by show F[j].s.refs.length ≤ 40; omega, by show F[j].s.attrs.length ≤ 40; omega⟩
set_option maxRecDepth 100000 in
set_option maxHeartbeats 8000000 in
theorem small_of (T : Tr) (v : Value) (w : World) (hT : Hid (TrV w v T)) (hc : cnt T.body ≤ 2000000) :
    Calls Try.prog 7 #[v] w (SmallOut T w) := by
  obtain ⟨bv, rfl, hnl, hs⟩ := hT.out
  obtain ⟨bo, bn, bc, rfl⟩ : ∃ a n c, bv = .slice a n c := by obtain ⟨a, c, rfl, _⟩ := hs; exact ⟨_, _, _, rfl⟩
  obtain ⟨X, hX⟩ : ∃ X, bb T.name = X := ⟨_, rfl⟩
  obtain ⟨d, hd⟩ : ∃ d, T.dir = d := ⟨_, rfl⟩
  rw [hX, hd]
  have hB := al1 w (.cells #[.string X, .bool d, .slice bo bn bc] 24)
  obtain ⟨c0, c1, c2⟩ := at3_new w X d (.slice bo bn bc) 24
  have HS1 := Lib.hid (hs.keep hB)
  clear hT hX hd hs hnl
  go_enter Try.func7, Try.ntmps7
  go_wp2_with fail
  refine (pre_big T.body _ _ _ 0 (Below.refl _ _) HS1.out hc (by decide) (by omega)).mono ?_
  rintro e w2 ⟨g, oc, F, rfl, hown, hF, hfv, hb2⟩
  have hFl := fin_len hF
  have hB2 := below_keep hb2 hB
  have c0 := cell_keep hb2 c0
  have HO := Lib.hid hown
  have HF := Lib.hid hF
  have HFV : Hid (∀ f ∈ F, fvOk w2 f) := Lib.hid (fun f hf => (hfv f hf).keep hb2)
  have HFL := Lib.hid hFl
  clear c1 c2 hown hF hfv hb2 hB hFl
  by_cases g6 : (60 : Int) < (F.length : Int)
  · have d6 : decide ((60 : Int) < (F.length : Int)) = true := decide_eq_true g6
    go_wp2
    go_ret
    exact ⟨false, rfl, (fun h => by cases h), hB2⟩
  have d6 : decide ((60 : Int) < (F.length : Int)) = false := decide_eq_false g6
  by_cases gx : (100 : Int) < (X.size : Int)
  · have dx : decide ((100 : Int) < (X.size : Int)) = true := decide_eq_true gx
    go_wp2
    go_ret
    exact ⟨false, rfl, (fun h => by cases h), hB2⟩
  have dx : decide ((100 : Int) < (X.size : Int)) = false := decide_eq_false gx
  have hF60 : F.length ≤ 60 := by omega
  go_wp2_with fail
  clear d6 dx g6 gx c0
  go_loopw [4] (fun iv wr => ∃ k : Nat, k ≤ F.length ∧ iv = .int .i64 k ∧ Hid (∀ j (hj : j < F.length), j < k → F[j].s.refs.length ≤ 20 ∧ F[j].s.attrs.length ≤ 20) ∧ Below w2.heap.size w2 wr) (fun iv _ => F.length - (intOf iv).toNat)
  case atStart => exact ⟨0, Nat.zero_le _, rfl, Lib.hid (fun j _ hj => by omega), Below.refl _ _⟩
  case round =>
    obtain ⟨k, hk, rfl, HS, hBr⟩ := hrel
    rename World => wr
    by_cases hlt : k < F.length
    · obtain ⟨p0, p1, p2, p3, p4, p5⟩ := flat_at (own_keep HO.out hBr) hlt
      obtain ⟨r0, r1, r2, r3, r4, r5⟩ := flat_at2 (own_keep HO.out hBr) hlt
      have hfk := (HFV.out _ (List.getElem_mem hlt)).keep hBr
      obtain ⟨f, hfe⟩ : ∃ f, F[k] = f := ⟨_, rfl⟩
      have HFE := Lib.hid hfe
      rw [hfe] at p0 p1 p2 p3 p4 p5 r0 r1 r2 r3 r4 r5 hfk
      obtain ⟨s, lv, rv, av, bv'⟩ := f
      obtain ⟨_, hrv, hav, hbv⟩ : s.name.length ≤ maxLen ∧ Prs wr rv s.refs ∧ Prs wr av s.attrs ∧ Sts wr bv' s.body := hfk
      simp only at p0 p1 p2 p3 p4 p5 r0 r1 r2 r3 r4 r5
      obtain ⟨ro, rc, rfl, -, -, -⟩ := id hrv
      obtain ⟨so, sc, rfl, -, -, -⟩ := id hav
      obtain ⟨yo, yn, yc, rfl⟩ : ∃ a n c, bv' = .slice a n c := by obtain ⟨a, c, rfl, _⟩ := hbv; exact ⟨_, _, _, rfl⟩
      obtain ⟨Y, hY⟩ : ∃ Y, bb s.name = Y := ⟨_, rfl⟩
      rw [hY] at p1 r1
      have hBq := below_keep (al1 wr (.cells #[.int .i64 s.kind, .string Y, .slice ro s.refs.length rc, .slice so s.attrs.length sc, .slice yo yn yc] 47)) hBr
      obtain ⟨q0, q1, q2, q3, q4⟩ := at5_new wr s.kind Y (.slice ro s.refs.length rc) (.slice so s.attrs.length sc) (.slice yo yn yc) 47
      have HRV := Lib.hid (hrv.keep (al1 wr (.cells #[.int .i64 s.kind, .string Y, .slice ro s.refs.length rc, .slice so s.attrs.length sc, .slice yo yn yc] 47)))
      have HAV := Lib.hid (hav.keep (al1 wr (.cells #[.int .i64 s.kind, .string Y, .slice ro s.refs.length rc, .slice so s.attrs.length sc, .slice yo yn yc] 47)))
      have i0 : (0 : Int) ≤ (k : Int) := by omega
      have i1 : (k : Int) < (F.length : Int) := by omega
      clear hfe hrv hav hbv hY
      by_cases g1 : (20 : Int) < (s.refs.length : Int)
      · have d1 : decide ((20 : Int) < (s.refs.length : Int)) = true := decide_eq_true g1
        have d1' : decide (20 < s.refs.length) = true := decide_eq_true (by omega)
        go_wp2
        go_ret
        exact ⟨false, rfl, (fun h => by cases h), below_keep hBq hB2⟩
      have d1 : decide ((20 : Int) < (s.refs.length : Int)) = false := decide_eq_false g1
      have d1' : decide (20 < s.refs.length) = false := decide_eq_false (by omega)
      by_cases g2 : (20 : Int) < (s.attrs.length : Int)
      · have d2 : decide ((20 : Int) < (s.attrs.length : Int)) = true := decide_eq_true g2
        have d2' : decide (20 < s.attrs.length) = true := decide_eq_true (by omega)
        go_wp2
        go_ret
        exact ⟨false, rfl, (fun h => by cases h), below_keep hBq hB2⟩
      have d2 : decide ((20 : Int) < (s.attrs.length : Int)) = false := decide_eq_false g2
      have d2' : decide (20 < s.attrs.length) = false := decide_eq_false (by omega)
      by_cases g3 : (100 : Int) < (Y.size : Int)
      · have d3 : decide ((100 : Int) < (Y.size : Int)) = true := decide_eq_true g3
        have d3' : decide (100 < Y.size) = true := decide_eq_true (by omega)
        go_wp2
        go_ret
        exact ⟨false, rfl, (fun h => by cases h), below_keep hBq hB2⟩
      have d3 : decide ((100 : Int) < (Y.size : Int)) = false := decide_eq_false g3
      have d3' : decide (100 < Y.size) = false := decide_eq_false (by omega)
      have hz : s.refs.length ≤ 20 ∧ s.attrs.length ≤ 20 := ⟨by omega, by omega⟩
      have HS2 : Hid (∀ j (hj : j < F.length), j < k + 1 → F[j].s.refs.length ≤ 20 ∧ F[j].s.attrs.length ≤ 20) := Lib.hid (fun j hj hjk => by
        rcases Nat.lt_or_ge j k with h | h
        · exact HS.out j hj h
        · obtain rfl : j = k := by omega
          rw [HFE.out]; exact hz)
      go_wp2_with fail
      generalize wr.alloc (.cells #[.int .i64 s.kind, .string Y, .slice ro s.refs.length rc, .slice so s.attrs.length sc, .slice yo yn yc] 47) = w5 at *
      obtain ⟨hz1, hz2⟩ := hz
      clear p0 p1 p2 p3 p4 p5 r0 r1 r2 r3 r4 r5 q0 q4 q1 d1 d1' d2 d2' d3 d3' g1 g2 g3 HS
      go_loop [6] (fun i => ∃ j : Nat, i = .int .i64 j ∧ j ≤ s.attrs.length) (fun i => s.attrs.length - (intOf i).toNat)
      case atStart => exact ⟨0, rfl, Nat.zero_le _⟩
      case round =>
        obtain ⟨j, rfl, hj⟩ := hrel
        by_cases hjl : j < s.attrs.length
        · obtain ⟨A, rfl, p0, p1, -, -⟩ := HAV.out.get hjl
          obtain ⟨x, hx⟩ : ∃ x, s.attrs[j] = x := ⟨_, rfl⟩
          rw [hx] at p0 p1
          clear hx
          obtain ⟨U, hU⟩ : ∃ Y, bb x.1 = Y := ⟨_, rfl⟩
          obtain ⟨V, hV⟩ : ∃ Y, bb x.2 = Y := ⟨_, rfl⟩
          rw [hU] at p0
          rw [hV] at p1
          have z0 : (0 : Int) ≤ (j : Int) := by omega
          have z1 : (j : Int) < (s.attrs.length : Int) := by omega
          clear hU hV
          by_cases g1 : (100 : Int) < (U.size : Int)
          · have d1 : decide ((100 : Int) < (U.size : Int)) = true := decide_eq_true g1
            go_wp2
            go_ret
            exact ⟨false, rfl, (fun h => by cases h), below_keep hBq hB2⟩
          have d1 : decide ((100 : Int) < (U.size : Int)) = false := decide_eq_false g1
          by_cases g2 : (100 : Int) < (V.size : Int)
          · have d2 : decide ((100 : Int) < (V.size : Int)) = true := decide_eq_true g2
            go_wp2
            go_ret
            exact ⟨false, rfl, (fun h => by cases h), below_keep hBq hB2⟩
          have d2 : decide ((100 : Int) < (V.size : Int)) = false := decide_eq_false g2
          go_wp2
          go_round
          case rel => exact ⟨j + 1, by go_num, by omega⟩
          case measure => simp [intOf]; omega
        · obtain rfl : j = s.attrs.length := by omega
          go_wp2_with fail
          go_loop [7] (fun i => ∃ j : Nat, i = .int .i64 j ∧ j ≤ s.refs.length) (fun i => s.refs.length - (intOf i).toNat)
          case atStart => exact ⟨0, rfl, Nat.zero_le _⟩
          case round =>
            obtain ⟨m, rfl, hm⟩ := hrel
            by_cases hml : m < s.refs.length
            · obtain ⟨A, rfl, p0, p1, -, -⟩ := HRV.out.get hml
              obtain ⟨x, hx⟩ : ∃ x, s.refs[m] = x := ⟨_, rfl⟩
              rw [hx] at p0 p1
              clear hx
              obtain ⟨U, hU⟩ : ∃ Y, bb x.1 = Y := ⟨_, rfl⟩
              obtain ⟨V, hV⟩ : ∃ Y, bb x.2 = Y := ⟨_, rfl⟩
              rw [hU] at p0
              rw [hV] at p1
              have z0 : (0 : Int) ≤ (m : Int) := by omega
              have z1 : (m : Int) < (s.refs.length : Int) := by omega
              clear hU hV
              by_cases g1 : (100 : Int) < (U.size : Int)
              · have d1 : decide ((100 : Int) < (U.size : Int)) = true := decide_eq_true g1
                go_wp2
                go_ret
                exact ⟨false, rfl, (fun h => by cases h), below_keep hBq hB2⟩
              have d1 : decide ((100 : Int) < (U.size : Int)) = false := decide_eq_false g1
              by_cases g2 : (100 : Int) < (V.size : Int)
              · have d2 : decide ((100 : Int) < (V.size : Int)) = true := decide_eq_true g2
                go_wp2
                go_ret
                exact ⟨false, rfl, (fun h => by cases h), below_keep hBq hB2⟩
              have d2 : decide ((100 : Int) < (V.size : Int)) = false := decide_eq_false g2
              go_wp2
              go_round
              case rel => exact ⟨m + 1, by go_num, by omega⟩
              case measure => simp [intOf]; omega
            · obtain rfl : m = s.refs.length := by omega
              go_wp2
              go_roundw
              case rel => exact ⟨k + 1, by omega, by go_num, HS2, hBq⟩
              case measure => simp [intOf]; omega
    · obtain rfl : k = F.length := by omega
      have HOK : Hid (cnt T.body ≤ 60 ∧ okL T.body) := Lib.hid ⟨by rw [← HFL.out]; exact hF60, ok_of HF.out (fun j hj => HS.out j hj hj)⟩
      go_wp2
      go_ret
      exact ⟨true, rfl, fun _ => HOK.out, below_keep hBr hB2⟩
end Go.Proofs.Ytmpjdlhigmofdaa.prt
namespace Go.Proofs.Ytmpjdlhigmofdaa.prt
open Go.RowKit lex tre

theorem st_len (d : Bool) : (∀ s : St, ∀ m, vS s → (s.refs.length ≤ 40 ∧ s.attrs.length ≤ 40) ∧ okL s.body → (stS prL d m s).length ≤ (1 + cnt s.body) * (2 * (m + 4 * (1 + cnt s.body)) + 5000)) ∧
    ∀ l : List St, ∀ m, vL l → okL l → (stL prL d m l).length ≤ cnt l * (2 * (m + 4 * cnt l) + 5000) := by
  refine st_ind (fun k n r a b hb m hv ho => ?_) (fun m _ _ => by simp [stL]) (fun s t hs ht m hv ho => ?_)
  · have hatt := hv.att
    have hvals := hv.vals
    have hbody := hv.body
    have one : ∀ x : Nat, x ≤ m + 4990 → x ≤ (1 + cnt ([] : List St)) * (2 * (m + 4 * (1 + cnt ([] : List St))) + 5000) := fun x hx => by
      have e : 1 + cnt ([] : List St) = 1 := rfl
      rw [e, Nat.one_mul]; omega
    have hf := hv.form
    generalize hS : St.mk k n r a b = S at hf hv hatt hvals hbody ho ⊢
    cases hf with
    | node n' a' hn hk =>
      cases hS
      have h1 := nm_le hn
      have h2 := aft_len (hatt (by show (1 : Int) ≠ 4; decide))
      have h3 : a.length ≤ 40 := ho.1.2
      simp only [St.attrs] at h2
      refine one _ ?_
      simp only [stS, if_true, List.length_append, List.length_replicate, List.length_cons, List.length_nil]; omega
    | edge r1 r2 t' a' hr hk =>
      cases hS
      have h1 := refS_len d (l := r1 :: r2 :: t') hr
      have h2 := aft_len (hatt (by show (2 : Int) ≠ 4; decide))
      have h3 : a.length ≤ 40 := ho.1.2
      have h4 : (r1 :: r2 :: t').length ≤ 40 := ho.1.1
      simp only [St.attrs] at h2
      refine one _ ?_
      have e : stS prL d m (.mk 2 [] (r1 :: r2 :: t') a []) = List.replicate m 32 ++ (refS d (r1 :: r2 :: t') ++ (aft prL a ++ [59, 10])) := by simp [stS]
      rw [e]
      simp only [List.length_append, List.length_replicate, List.length_cons, List.length_nil] at h1 h4 ⊢; omega
    | dflt n' a' hn hk =>
      cases hS
      have h1 : n.length = 4 := by rcases hn with rfl | rfl <;> rfl
      have h2 := attS_len (hatt (by show (3 : Int) ≠ 4; decide))
      have h3 : a.length ≤ 40 := ho.1.2
      simp only [St.attrs] at h2
      refine one _ ?_
      have e : stS prL d m (.mk 3 n [] a []) = List.replicate m 32 ++ (n ++ 32 :: ((if a.isEmpty then [91, 93] else attS prL a) ++ [59, 10])) := by simp [stS]
      have h5 : (if a.isEmpty then [91, 93] else attS prL a : List UInt8).length ≤ 3500 := by
        split
        · simp
        · omega
      rw [e]
      simp only [List.length_append, List.length_replicate, List.length_cons, List.length_nil]; omega
    | sset n' v hn =>
      cases hS
      have h1 := nm_le hn
      have h2 : (valS prL v).length ≤ 66 := val_len (hvals ([], v) (by simp [St.attrs])).1
      refine one _ ?_
      have e : stS prL d m (.mk 4 n [] [([], v)] []) = List.replicate m 32 ++ (wSet ++ 32 :: (n ++ 32 :: 61 :: 32 :: (valS prL v ++ [59, 10]))) := by simp [stS]
      have h3 : wSet.length = 3 := rfl
      rw [e]
      simp only [List.length_append, List.length_replicate, List.length_cons, List.length_nil]; omega
    | clus n' b' hn =>
      cases hS
      have h1 := nm_le hn
      have h2 := hb (m + 4) hbody ho.2
      have e : stS prL d m (.mk 5 n [] [] b) = List.replicate m 32 ++ (wClu ++ 32 :: (n ++ 32 :: 123 :: 10 :: (stL prL d (m + 4) b ++ (List.replicate m 32 ++ [125, 10])))) := by simp [stS]
      have h3 : wClu.length = 7 := rfl
      show _ ≤ (1 + cnt b) * (2 * (m + 4 * (1 + cnt b)) + 5000)
      rw [e, Nat.add_mul, Nat.one_mul]
      have h4 : 2 * (m + 4 + 4 * cnt b) + 5000 = 2 * (m + 4 * (1 + cnt b)) + 5000 := by omega
      rw [h4] at h2
      generalize cnt b * (2 * (m + 4 * (1 + cnt b)) + 5000) = P at h2 ⊢
      simp only [List.length_append, List.length_replicate, List.length_cons, List.length_nil]; omega
  · have h1 := hs m hv.cons.1 ⟨(okL_cons.1 ho).1, (okL_cons.1 ho).2.1⟩
    have h2 := ht m hv.cons.2 (okL_cons.1 ho).2.2
    rw [cnt_cons]
    have e : (stL prL d m (s :: t)).length = (stS prL d m s).length + (stL prL d m t).length := by simp [stL]
    rw [e, Nat.add_mul (1 + cnt s.body)]
    have h3 : (1 + cnt s.body) * (2 * (m + 4 * (1 + cnt s.body)) + 5000) ≤ (1 + cnt s.body) * (2 * (m + 4 * (1 + cnt s.body + cnt t)) + 5000) := Nat.mul_le_mul_left _ (by omega)
    have h4 : cnt t * (2 * (m + 4 * cnt t) + 5000) ≤ cnt t * (2 * (m + 4 * (1 + cnt s.body + cnt t)) + 5000) := Nat.mul_le_mul_left _ (by omega)
    omega
theorem txt_len {T : Tr} (h : validT T = 0) (hc : cnt T.body ≤ 60) (ho : okL T.body) : (txtT prL T).length ≤ 900000 := by
  have hv := (valid_iff T).1 h
  have h1 := nm_le hv.1
  have h2 := (st_len T.dir).2 T.body 4 ⟨0, hv.2.2⟩ ho
  have h3 : cnt T.body * (2 * (4 + 4 * cnt T.body) + 5000) ≤ 60 * (2 * (4 + 4 * 60) + 5000) := Nat.mul_le_mul hc (by omega)
  have h4 : (wDir T.dir).length ≤ 7 := by unfold wDir; split <;> simp
  unfold txtT
  simp only [List.length_append, List.length_cons, List.length_nil]; omega
theorem prt_len {T : Tr} (hc : cnt T.body ≤ 60) (ho : okL T.body) : (prtT prL T).length ≤ 900000 := by
  unfold prtT
  split
  · rename_i h; exact txt_len h hc ho
  · simp
end Go.Proofs.Ytmpjdlhigmofdaa.prt
namespace Go.Proofs.Ytmpjdlhigmofdaa.prt
open Go.RowKit lex tre

/-- A contract of a tree, called where the tree lies in an earlier world too. -/
theorem callP {f : Nat} {v : Value} {T : Tr} {Q : World → Ending → World → Prop} {W0 w : World} {p : Prop} (hc : ∀ w, Hid (TrV w v T) → Calls Try.prog f #[v] w (Q w)) (HT : Hid (TrV W0 v T)) (h : Below W0.heap.size W0 w ∧ p) : Calls Try.prog f #[v] w (Q w) :=
  hc _ (Lib.hid (HT.out.keep h.1))
theorem p_drew {W w : World} {b : Nat} {x : ByteArray} {d : Bool} {bv : Value} (h : Below W.heap.size W w ∧ w.cell? ⟨b, 0, none⟩ = some (.string x) ∧ w.cell? ⟨b, 1, none⟩ = some (.bool d) ∧ w.cell? ⟨b, 2, none⟩ = some bv) :
    Below W.heap.size W w.drew ∧ w.drew.cell? ⟨b, 0, none⟩ = some (.string x) ∧ w.drew.cell? ⟨b, 1, none⟩ = some (.bool d) ∧ w.drew.cell? ⟨b, 2, none⟩ = some bv := ⟨h.1.drew, h.2⟩
set_option maxRecDepth 100000 in
set_option maxHeartbeats 4000000 in
theorem wprt (v : Value) (T : Tr) (w : World) (hT : Hid (TrV w v T)) (hc : cnt T.body ≤ 2000000) :
    Calls Try.prog 3 #[v] w fun e w' => e = .returned (.bool true) ∧ Below w.heap.size w w' := by
  have hmx : Try.prog.follows .mixedOrders = true := by kernel_rfl
  obtain ⟨bv, rfl, -, hbs⟩ := id hT.out
  obtain ⟨bo, bn, bc, rfl⟩ : ∃ a n c, bv = .slice a n c := by obtain ⟨a, c, rfl, _⟩ := hbs; exact ⟨_, _, _, rfl⟩
  obtain ⟨X, hX⟩ : ∃ X, bb T.name = X := ⟨_, rfl⟩
  obtain ⟨d, hd⟩ : ∃ d, T.dir = d := ⟨_, rfl⟩
  rw [hX, hd] at hT ⊢
  clear hX hd hbs
  have hB := al1 w (.cells #[.string X, .bool d, .slice bo bn bc] 24)
  have HT0 := Lib.hid (hT.out.keep hB)
  obtain ⟨c0, c1, c2⟩ := at3_new w X d (.slice bo bn bc) 24
  clear hT
  go_enter Try.func3, Try.ntmps3
  go_wp2_with fail
  refine (small_of T _ _ HT0 hc).mono ?_
  rintro e w2 ⟨s, rfl, hs, hb2⟩
  have hB2 := below_keep hb2 hB
  have HT2 := Lib.hid (HT0.out.keep hb2)
  have c0 := cell_keep hb2 c0
  have c1 := cell_keep hb2 c1
  have c2 := cell_keep hb2 c2
  clear hb2 hB HT0
  cases s
  · go_wp2_with (go_at_call 8; refine (pawk _).mono ?_; rintro e w3 ⟨rfl, hb3⟩)
    go_ret
    exact ⟨rfl, below_keep hb3 hB2⟩
  obtain ⟨h60, hok⟩ := hs rfl
  have HO := Lib.hid hok
  obtain ⟨Q, hQ⟩ : ∃ Q, bb (prtT prL T) = Q := ⟨_, rfl⟩
  have HQ : Hid (prtT prL T = Q.data.toList) := Lib.hid (by rw [← hQ])
  have hz : Q.size ≤ 900000 := by rw [← b_size, ← hQ]; exact prt_len h60 hok
  have h600 : cnt T.body ≤ 600 := by omega
  clear hQ hs hok
  go_wp2_with fail
  have hP0 : Below w2.heap.size w2 w2 ∧ w2.cell? ⟨w.heap.size, 0, none⟩ = some (.string X) ∧ w2.cell? ⟨w.heap.size, 1, none⟩ = some (.bool d) ∧ w2.cell? ⟨w.heap.size, 2, none⟩ = some (.slice bo bn bc) := ⟨Below.refl _ _, c0, c1, c2⟩
  go_region_held3 (fun w' => Below w2.heap.size w2 w' ∧ w'.cell? ⟨w.heap.size, 0, none⟩ = some (.string X) ∧ w'.cell? ⟨w.heap.size, 1, none⟩ = some (.bool d) ∧ w'.cell? ⟨w.heap.size, 2, none⟩ = some (.slice bo bn bc))
    (first | assumption | (with_reducible refine p_drew ?_; assumption))
    (first
    | (go_at_call 9; (with_reducible refine (callP (fun w h => cprint_of T _ Q w h h600 HO HQ hz) HT2 (by assumption)).mono ?_); rintro e w6 ⟨rfl, hb6⟩; have hP := t_keep (by assumption) hb6)
    | (go_at_call 10; (with_reducible refine (callP (fun w h => rprint_of T _ Q w h h600 HO HQ (by omega)) HT2 (by assumption)).mono ?_); rintro e w6 ⟨rfl, hb6⟩; have hP := t_keep (by assumption) hb6)
    | (go_at_call 8; (with_reducible refine (pawk _).mono ?_); rintro e w6 ⟨rfl, hb6⟩; have hP := t_keep (by assumption) hb6))
  all_goals
    go_split_ands
    go_wp2
    go_ret
    exact ⟨rfl, below_keep (by assumption) hB2⟩
end Go.Proofs.Ytmpjdlhigmofdaa.prt
