/-
  What Members of the reference of layer 11 returns. Condition: a graph in memory.
-/
import Derived.Test.YtjeacpohanadnaaGraRef8
import Derived.Test.YtjeacpohanadnaaGraRow
namespace Go.Proofs.Ytjeacpohanadnaa.gra
open Go.RowKit lex

/-- The members of a cluster among the first k nodes. -/
def memsK (g : Gr) (c : Int) (k : Nat) : List Int := ((List.range k).filter (has g c)).map fun n : Nat => (n : Int)
/-- What Members answers. -/
def memV (g : Gr) (c : Int) : List Int := if validE g ≠ 0 ∨ c < -1 ∨ (g.cs.length : Int) ≤ c then [] else memsK g c g.ns.length
theorem memsK_no {g : Gr} {c : Int} {k : Nat} (h : has g c k = false) : memsK g c (k + 1) = memsK g c k := by
  unfold memsK; rw [List.range_succ, List.filter_append]; simp [h]
theorem memsK_yes {g : Gr} {c : Int} {k : Nat} (h : has g c k = true) : memsK g c (k + 1) = memsK g c k ++ [(k : Int)] := by
  unfold memsK; rw [List.range_succ, List.filter_append]; simp [h]
theorem memsK_len (g : Gr) (c : Int) (k : Nat) : (memsK g c k).length ≤ k := by
  unfold memsK; rw [List.length_map]; exact Nat.le_trans (List.length_filter_le _ _) (by simp)
theorem valid_ns {g : Gr} (h : validE g = 0) : g.ns.length ≤ 64 := by
  unfold validE at h
  split at h
  · exact absurd h (by decide)
  · omega
/-- A list of numbers that a call leaves. -/
def InsOut (L : List Int) (w : World) (e : Ending) (w' : World) : Prop := ∃ v, e = .returned v ∧ Ins w' v L ∧ Below w.heap.size w w'
theorem Ins.nil (w : World) : Ins w (.slice none 0 0) [] := Rw.nil 1 inAt w
set_option maxRecDepth 100000 in
set_option maxHeartbeats 8000000 in
theorem gMembers_of (v : Value) (g : Gr) (c : Int) (R : List Int) (w : World) (h : Hid (GrV w v g)) (hr : Hid (memV g c = R)) :
    Calls Try.prog 20 #[v, .int .i64 c] w (InsOut R w) := by
  have hg := h.out
  obtain ⟨nv, ev, cv, rfl, hnl, hns, hes, hcs⟩ := h.out
  obtain ⟨no, nc, rfl, -, hm1, -⟩ := id hns
  obtain ⟨eo, ec, rfl, -, hm2, -⟩ := id hes
  obtain ⟨co, cc, rfl, -, hm3, -⟩ := id hcs
  have hfe := hr.out
  unfold memV at hfe
  have HG := Lib.hid (gat_new w (bb g.nm) g.dir (.slice no g.ns.length nc) (.slice eo g.es.length ec) (.slice co g.cs.length cc) 26)
  have HB := Lib.hid (al1 w (.cells #[.string (bb g.nm), .bool g.dir, .slice no g.ns.length nc, .slice eo g.es.length ec, .slice co g.cs.length cc] 26))
  have HGR := Lib.hid (hg.keep HB.out)
  clear hns hes hcs hm1 hm2 hm3 hnl h hr
  obtain ⟨V, hV⟩ : ∃ V, validE g = V := ⟨_, rfl⟩
  have HV := Lib.hid hV
  rw [hV] at hfe
  clear hV
  go_enter Try.func20, Try.ntmps20
  go_wp2_with fail
  refine (gvalid_of _ g V _ HGR HV).mono ?_
  rintro e w1 ⟨rfl, hb1⟩
  have HB1 := Lib.hid (below_keep hb1 HB.out)
  have HG1 := Lib.hid (gat_keep HG.out hb1)
  have HGR1 := Lib.hid (hg.keep HB1.out)
  obtain ⟨g0, g1, g2, g3, g4⟩ := HG1.out
  clear hb1 HGR
  by_cases v0 : V = 0
  case neg =>
    have b0 : (V != 0) = true := by rw [bne_iff_ne]; exact v0
    rw [if_pos (Or.inl v0)] at hfe
    subst hfe
    clear v0
    go_wp2
    go_ret
    exact ⟨_, rfl, Ins.nil _, HB1.out⟩
  have b0 : (V != 0) = false := by rw [v0]; rfl
  by_cases c0 : c < -1
  · rw [if_pos (Or.inr (Or.inl c0))] at hfe
    subst hfe
    clear v0
    go_wp2
    go_ret
    exact ⟨_, rfl, Ins.nil _, HB1.out⟩
  by_cases c1 : (g.cs.length : Int) ≤ c
  · rw [if_pos (Or.inr (Or.inr c1))] at hfe
    subst hfe
    clear v0
    go_wp2
    go_ret
    exact ⟨_, rfl, Ins.nil _, HB1.out⟩
  rw [if_neg (by omega)] at hfe
  have hvw := valid_wf g (HV.out.trans v0)
  have h64 := valid_ns (HV.out.trans v0)
  have HWF := Lib.hid hvw.1
  have HCR := Lib.hid hvw.2
  have HR : Hid (memsK g c g.ns.length = R) := Lib.hid hfe
  have d0 : decide (c < -1) = false := by rw [decide_eq_false_iff_not]; omega
  have d1 : decide ((g.cs.length : Int) ≤ c) = false := by rw [decide_eq_false_iff_not]; omega
  clear v0 hfe HV hvw c0 c1
  go_wp2_with fail
  clear g0 g1 g2 g3 g4 b0 HG HGR1 d0 d1
  go_loopw [5, 6] (fun ov iv wr => ∃ (k : Nat) (C : List Int), iv = .int .i64 k ∧ k ≤ g.ns.length ∧ memsK g c k = C ∧ Irow wr w1.heap.size ov C ∧ Below w1.heap.size w1 wr) (fun _ iv _ => g.ns.length - (intOf iv).toNat)
  case atStart => exact ⟨0, [], rfl, Nat.zero_le _, rfl, own_nil _ _ _ _, Below.refl _ _⟩
  case round =>
    obtain ⟨k, C, rfl, hk, hC, hrow, hB2⟩ := hrel
    rename World => wr
    have HBw := Lib.hid (below_keep hB2 HB1.out)
    have HGQ := Lib.hid (gat_keep HG1.out hB2)
    have HGR := Lib.hid (hg.keep HBw.out)
    have HB2 := Lib.hid hB2
    have HROW := Lib.hid hrow
    have HC := Lib.hid hC
    have hCl : C.length ≤ 1000000 := by
      have := memsK_len g c k
      rw [hC] at this
      omega
    obtain ⟨g0, g1, g2, g3, g4⟩ := HGQ.out
    clear hB2 hrow hC
    by_cases hlt : k < g.ns.length
    · obtain ⟨p, hp⟩ : ∃ p, has g c k = p := ⟨_, rfl⟩
      have HP := Lib.hid hp
      have HXR := Lib.hid (HCR.out k hlt)
      clear hp
      go_wp2_with fail
      refine (ghas_of _ g c k p wr HGR hlt HWF HXR HP).mono ?_
      rintro e w2 ⟨rfl, hb2⟩
      have hB3 := below_keep hb2 HB2.out
      have HB3 := Lib.hid hB3
      have HROW2 : Hid (Irow w2 w1.heap.size _ C) := Lib.hid (own_keep HROW.out hb2)
      have hsz := hB3.size
      clear hb2 hB3
      cases p
      · have HN := Lib.hid (memsK_no HP.out)
        go_wp2
        go_roundw
        case rel => exact ⟨k + 1, C, by go_num, by omega, by rw [HN.out, HC.out], HROW2.out, HB3.out⟩
        case measure => simp [intOf]; omega
      · have HN := Lib.hid (memsK_yes HP.out)
        go_wp2_with (at_builtin; refine app_in rfl (.tmp 32) (.tmp 34) rfl w1.heap.size _ C (k : Int) _ rfl rfl rfl HROW2 hCl (by omega) ?_; intro ao4 cap4 w4 hrow4 hgrow4; have hB4 := HB3.out.grown hgrow4 (by omega) (fun q hq => (World.ownsRow.lt HROW2.out q hq).1); clear hgrow4)
        go_roundw
        case rel => exact ⟨k + 1, C ++ [(k : Int)], by go_num, by omega, by rw [HN.out, HC.out], hrow4, hB4⟩
        case measure => simp [intOf]; omega
    · obtain rfl : k = g.ns.length := by omega
      obtain rfl : C = R := by rw [← HC.out, HR.out]
      go_wp2
      go_ret
      exact ⟨_, rfl, Irow.ins HROW.out, HBw.out⟩
end Go.Proofs.Ytjeacpohanadnaa.gra
