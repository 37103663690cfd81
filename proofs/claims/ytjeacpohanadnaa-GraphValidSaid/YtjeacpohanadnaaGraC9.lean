/-
  What Members of the landed graph returns. Condition: a graph in memory.
-/
import Derived.Test.YtjeacpohanadnaaGraC8
namespace Go.Proofs.Ytjeacpohanadnaa.gra
open Go.RowKit lex

set_option maxRecDepth 100000 in
set_option maxHeartbeats 8000000 in
theorem cMembers_of (v : Value) (g : Gr) (c : Int) (R : List Int) (w : World) (h : Hid (GrV w v g)) (hr : Hid (memV g c = R)) :
    Calls Try.prog 19 #[v, .int .i64 c] w (InsOut R w) := by
  have hg := h.out
  obtain ⟨nv, ev, cv, rfl, hnl, hns, hes, hcs⟩ := h.out
  obtain ⟨no, nc, rfl, -, hm1, -⟩ := id hns
  obtain ⟨eo, ec, rfl, -, hm2, -⟩ := id hes
  obtain ⟨co, cc, rfl, -, hm3, -⟩ := id hcs
  have hfe := hr.out
  unfold memV at hfe
  have HG := Lib.hid (gat_new w (bb g.nm) g.dir (.slice no g.ns.length nc) (.slice eo g.es.length ec) (.slice co g.cs.length cc) 26)
  have HB := Lib.hid (al1 w (.cells #[.string (bb g.nm), .bool g.dir, .slice no g.ns.length nc, .slice eo g.es.length ec, .slice co g.cs.length cc] 26))
  have HGR := Lib.hid (hg.keep HB.out)
  have HNS := Lib.hid hns
  clear hns hes hcs hm1 hm2 hm3 hnl h hr
  obtain ⟨V, hV⟩ : ∃ V, validE g = V := ⟨_, rfl⟩
  have HV := Lib.hid hV
  obtain ⟨b1, hb1⟩ : ∃ b, decide (-1 ≤ c ∧ c < (g.cs.length : Int)) = b := ⟨_, rfl⟩
  have H1 := Lib.hid hb1
  rw [hV] at hfe
  clear hV hb1
  go_enter Try.func19, Try.ntmps19
  go_wp2_with fail
  refine (isclu_of _ g c b1 _ HGR H1).mono ?_
  rintro e w1 ⟨rfl, hb1⟩
  have HB1 := Lib.hid (below_keep hb1 HB.out)
  have HG1 := Lib.hid (gat_keep HG.out hb1)
  have HGR1 := Lib.hid (hg.keep HB1.out)
  obtain ⟨g0, g1, g2, g3, g4⟩ := HG1.out
  clear hb1 HGR
  cases b1
  · have h1 := of_decide_eq_false H1.out
    rw [if_pos (Or.inr (by omega))] at hfe
    subst hfe
    clear h1
    go_wp2
    go_ret
    exact ⟨_, rfl, Ins.nil _, HB1.out⟩
  have h1 := of_decide_eq_true H1.out
  go_wp2_with fail
  refine (cvalid_of _ g V _ HGR1 HV).mono ?_
  rintro e w2 ⟨rfl, hb2⟩
  have HB2 := Lib.hid (below_keep hb2 HB1.out)
  have HG2 := Lib.hid (gat_keep HG1.out hb2)
  clear g0 g1 g2 g3 g4 hb2 HGR1
  obtain ⟨g0, g1, g2, g3, g4⟩ := HG2.out
  by_cases v0 : V = 0
  case neg =>
    have b0 : (V != 0) = true := by rw [bne_iff_ne]; exact v0
    rw [if_pos (Or.inl v0)] at hfe
    subst hfe
    clear v0
    go_wp2
    go_ret
    exact ⟨_, rfl, Ins.nil _, HB2.out⟩
  have b0 : (V != 0) = false := by rw [v0]; rfl
  rw [if_neg (by omega)] at hfe
  have hvw := valid_wf g (HV.out.trans v0)
  have h64 := valid_ns (HV.out.trans v0)
  have HWF := Lib.hid hvw.1
  have HCR := Lib.hid hvw.2
  have HC1 := Lib.hid h1
  have HR : Hid (memsK g c g.ns.length = R) := Lib.hid hfe
  clear v0 hfe HV hvw h1
  go_wp2_with fail
  clear g0 g1 g2 g3 g4 b0 HG HG1
  go_loopw [5, 20] (fun ov iv wr => ∃ (k : Nat) (C : List Int), iv = .int .i64 k ∧ k ≤ g.ns.length ∧ memsK g c k = C ∧ Irow wr w2.heap.size ov C ∧ Below w2.heap.size w2 wr) (fun _ iv _ => g.ns.length - (intOf iv).toNat)
  case atStart => exact ⟨0, [], rfl, Nat.zero_le _, rfl, own_nil _ _ _ _, Below.refl _ _⟩
  case round =>
    obtain ⟨k, C, rfl, hk, hC, hrow, hB3⟩ := hrel
    rename World => wr
    have HBw := Lib.hid (below_keep hB3 HB2.out)
    have HGQ := Lib.hid (gat_keep HG2.out hB3)
    have HB3 := Lib.hid hB3
    have HROW := Lib.hid hrow
    have HC := Lib.hid hC
    have hCl : C.length ≤ 1000000 := by
      have := memsK_len g c k
      rw [hC] at this
      omega
    clear hB3 hrow hC
    by_cases hlt : k < g.ns.length
    · have hget := (HNS.out.keep HBw.out).get hlt
      have hcl : clOf g k = g.ns[k].cl := by unfold clOf; rw [List.getElem?_eq_getElem hlt]
      obtain ⟨x, hx⟩ : ∃ x, g.ns[k] = x := ⟨_, rfl⟩
      rw [hx] at hget hcl
      obtain ⟨xn, xl, xw, xh, xc, xp⟩ := x
      obtain ⟨A, rfl, q0, q1, q2, q3, q4, ⟨pv, q5, hps⟩, -⟩ := hget
      simp only at q0 q1 q2 q3 q4 q5 hps hcl
      obtain ⟨po, pc, rfl, -, -, -⟩ := id hps
      have hcr := HCR.out k hlt
      rw [hcl] at hcr
      have hex := isCC_some HWF.out (c + xc + 3).toNat c xc HC1.out.1 hcr.1 (by have := HC1.out.1; omega)
      obtain ⟨Q, hQ⟩ := hex
      have hqh : decide (Q = c) = has g c k := isCC_has HWF.out HC1.out.1 (by rw [hcl]; exact hQ)
      have HQ := Lib.hid hQ
      have HXR := Lib.hid hcr
      obtain ⟨p, hp⟩ : ∃ p, has g c k = p := ⟨_, rfl⟩
      have HP := Lib.hid hp
      have hz : (Q == c) = p := by rw [← hp, ← hqh, Bool.eq_iff_iff]; simp
      have i0 : (0 : Int) ≤ (k : Int) := by omega
      have i1 : (k : Int) < (g.ns.length : Int) := by omega
      obtain ⟨g0, g1, g2, g3, g4⟩ := HGQ.out
      have hsz : w.heap.size < wr.heap.size := World.block_lt_of_cell? wr _ g0
      have HBa := Lib.hid (below_keep (al1 wr (.cells #[.string (bb xn), .string (bb xl), .int .i64 xw, .int .i64 xh, .int .i64 xc, .slice po xp.length pc] 48)) HB3.out)
      have HGRa := Lib.hid (hg.keep (below_keep (al1 wr (.cells #[.string (bb xn), .string (bb xl), .int .i64 xw, .int .i64 xh, .int .i64 xc, .slice po xp.length pc] 48)) HBw.out))
      have HROWa : Hid (Irow (wr.alloc (.cells #[.string (bb xn), .string (bb xl), .int .i64 xw, .int .i64 xh, .int .i64 xc, .slice po xp.length pc] 48)) w2.heap.size _ C) := Lib.hid (own_keep HROW.out (al1 ..))
      clear hp hps hx hcl hcr hQ hqh
      go_wp2_with fail
      refine (ccomm_of _ g c xc Q _ HGRa HWF HC1 HXR HQ).mono ?_
      rintro e w4 ⟨rfl, hb4⟩
      have hB4 := below_keep hb4 HBa.out
      have HB4 := Lib.hid hB4
      have HROW4 : Hid (Irow w4 w2.heap.size _ C) := Lib.hid (own_keep HROWa.out hb4)
      have hsz4 := hB4.size
      clear hb4 hB4 g0 g1 g2 g3 g4 q0 q1 q2 q3 q4 q5 hsz
      cases p
      · have HN := Lib.hid (memsK_no HP.out)
        go_wp2
        go_roundw
        case rel => exact ⟨k + 1, C, by go_num, by omega, by rw [HN.out, HC.out], HROW4.out, HB4.out⟩
        case measure => simp [intOf]; omega
      · have HN := Lib.hid (memsK_yes HP.out)
        go_wp2_with (at_builtin; refine app_in rfl (.tmp 32) (.tmp 34) rfl w2.heap.size _ C (k : Int) _ rfl rfl rfl HROW4 hCl (by omega) ?_; intro ao5 cap5 w5 hrow5 hgrow5; have hB5 := HB4.out.grown hgrow5 (by omega) (fun q hq => (World.ownsRow.lt HROW4.out q hq).1); clear hgrow5)
        go_roundw
        case rel => exact ⟨k + 1, C ++ [(k : Int)], by go_num, by omega, by rw [HN.out, HC.out], hrow5, hB5⟩
        case measure => simp [intOf]; omega
    · obtain rfl : k = g.ns.length := by omega
      obtain rfl : C = R := by rw [← HC.out, HR.out]
      go_wp2
      go_ret
      exact ⟨_, rfl, Irow.ins HROW.out, HBw.out⟩
end Go.Proofs.Ytjeacpohanadnaa.gra
