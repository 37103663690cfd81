/-
  What awake of the statements of layer 10 returns, over the premise AttOk. No condition.
  The walks of AttrsPorts, AttrsMerges and AttrsNumbers over the premise AttOk. Condition: where numbers are read, short texts.
-/
import Derived.Test.YthcglcnhdgeaeaaDoorMAf
namespace Go.Proofs.YthcglcnhdgeaeaaDoor.att
open Go.RowKit lex tre

set_option maxRecDepth 100000 in
set_option maxHeartbeats 8000000 in
theorem awk10 (C : AttOk) (w : World) (hMX : Hid (Mx w)) : Calls Tryd.prog 10 #[] w fun e w' => e = .returned (.bool true) ∧ Below w.heap.size w w' := by
  have hN : ∀ (l : List Pr), l.all (fun r => decide (r.1.length ≤ 100) && decide (r.2.length ≤ 100)) = true → Bnd l ∧ Small l := fun l h => bnd_small h
  go_enter Tryd.func10, Tryd.ntmps10
  go_wp2_with fail
  refine (C.ports _ [([105, 110], 0), ([111, 117, 116], 2)] 0 w (mxh hMX (by first | exact Below.refl _ _ | assumption)) (by decide) (Lib.hid x_ports1)).mono ?_
  rintro e w1 ⟨v1, rfl, hp1, hb1⟩
  have HB1 := Lib.hid hb1
  have HP1 := Lib.hid hp1
  clear hb1 hp1
  go_wp2_with fail
  refine (C.ports _ [] 4 w1 (mxh hMX (by first | exact Below.refl _ _ | assumption)) (by decide) (Lib.hid x_ports2)).mono ?_
  rintro e w2 ⟨v2, rfl, -, hb2⟩
  have HB2 := Lib.hid (below_keep hb2 HB1.out)
  have HP2 := Lib.hid (HP1.out.keep hb2)
  clear hb2
  go_wp2_with fail
  refine (C.ports _ [] 6 w2 (mxh hMX (by first | exact Below.refl _ _ | assumption)) (by decide) (Lib.hid x_ports3)).mono ?_
  rintro e w3 ⟨v3, rfl, -, hb3⟩
  have HB3 := Lib.hid (below_keep hb3 HB2.out)
  have HP3 := Lib.hid (HP2.out.keep hb3)
  clear hb3
  have hl1 := prs_lit w3 [([98], [49]), ([97], [50])] (by decide) (hN _ rfl).1 28
  have hal1 := al1 w3 (.cells #[.string ⟨#[98]⟩, .string ⟨#[49]⟩, .string ⟨#[97]⟩, .string ⟨#[50]⟩] 28)
  have hl2 := prs_lit (w3.alloc (.cells #[.string ⟨#[98]⟩, .string ⟨#[49]⟩, .string ⟨#[97]⟩, .string ⟨#[50]⟩] 28)) [([98], [51])] (by decide) (hN _ rfl).1 28
  have hal2 := al1 (w3.alloc (.cells #[.string ⟨#[98]⟩, .string ⟨#[49]⟩, .string ⟨#[97]⟩, .string ⟨#[50]⟩] 28)) (.cells #[.string ⟨#[98]⟩, .string ⟨#[51]⟩] 28)
  have HL1 : Hid (Prs ((w3.alloc (.cells #[.string ⟨#[98]⟩, .string ⟨#[49]⟩, .string ⟨#[97]⟩, .string ⟨#[50]⟩] 28)).alloc (.cells #[.string ⟨#[98]⟩, .string ⟨#[51]⟩] 28)) (.slice (some ⟨w3.heap.size, 0, none⟩) 2 2) [([98], [49]), ([97], [50])]) := Lib.hid (Prs.keep hl1 hal2)
  have HL2 : Hid (Prs ((w3.alloc (.cells #[.string ⟨#[98]⟩, .string ⟨#[49]⟩, .string ⟨#[97]⟩, .string ⟨#[50]⟩] 28)).alloc (.cells #[.string ⟨#[98]⟩, .string ⟨#[51]⟩] 28)) (.slice (some ⟨w3.heap.size + 1, 0, none⟩) 1 1) [([98], [51])]) := Lib.hid (by have h := hl2; rw [show (w3.alloc (.cells #[.string ⟨#[98]⟩, .string ⟨#[49]⟩, .string ⟨#[97]⟩, .string ⟨#[50]⟩] 28)).heap.size = w3.heap.size + 1 by simp] at h; exact h)
  have HB3' := Lib.hid (below_keep hal2 (below_keep hal1 HB3.out))
  have HP3' := Lib.hid ((HP3.out.keep hal1).keep hal2)
  clear hl1 hal1 hl2 hal2
  go_wp2_with fail
  generalize ((w3.alloc (.cells #[.string ⟨#[98]⟩, .string ⟨#[49]⟩, .string ⟨#[97]⟩, .string ⟨#[50]⟩] 28)).alloc (.cells #[.string ⟨#[98]⟩, .string ⟨#[51]⟩] 28)) = wa at HL1 HL2 HB3' HP3' ⊢
  refine (C.merge _ _ _ _ wa HL1 HL2 (by decide) (by decide) (Lib.hid (hN _ rfl).1) (Lib.hid (hN _ rfl).1)).mono ?_
  rintro e w4 ⟨v4, rfl, hm4, hb4⟩
  rw [x_merge] at hm4
  have HB4 := Lib.hid (below_keep hb4 HB3'.out)
  have HP4 := Lib.hid (HP3'.out.keep hb4)
  have HM4 := Lib.hid hm4
  clear hb4 hm4 HL1 HL2
  go_wp2_with fail
  refine (C.check 1 ([119, 105, 100, 116, 104], [49, 50, 46, 53]) 0 w4 (mxh hMX (by first | exact Below.refl _ _ | assumption)) (by decide) (by decide) (Lib.hid x_check1)).mono ?_
  rintro e w5 ⟨rfl, hb5⟩
  have HB5 := Lib.hid (below_keep hb5 HB4.out)
  have HP5 := Lib.hid (HP4.out.keep hb5)
  have HM5 := Lib.hid (HM4.out.keep hb5)
  clear hb5
  go_wp2_with fail
  refine (C.check 1 ([119, 105, 100, 116, 104], [48]) 7 w5 (mxh hMX (by first | exact Below.refl _ _ | assumption)) (by decide) (by decide) (Lib.hid x_check2)).mono ?_
  rintro e w6 ⟨rfl, hb6⟩
  have HB6 := Lib.hid (below_keep hb6 HB5.out)
  have HP6 := Lib.hid (HP5.out.keep hb6)
  have HM6 := Lib.hid (HM5.out.keep hb6)
  clear hb6
  go_wp2_with fail
  refine (C.check 3 ([119, 105, 100, 116, 104], [49]) 1 w6 (mxh hMX (by first | exact Below.refl _ _ | assumption)) (by decide) (by decide) (Lib.hid x_check3)).mono ?_
  rintro e w7 ⟨rfl, hb7⟩
  have HB7 := Lib.hid (below_keep hb7 HB6.out)
  have HP7 := Lib.hid (HP6.out.keep hb7)
  have HM7 := Lib.hid (HM6.out.keep hb7)
  clear hb7
  go_wp2_with fail
  refine (C.number 1 _ [] _ 20000 w7 (Lib.hid (Prs.nil w7)) (by decide) (by decide) (Lib.hid x_num1)).mono ?_
  rintro e w8 ⟨rfl, hb8⟩
  have HB8 := Lib.hid (below_keep hb8 HB7.out)
  have HP8 := Lib.hid (HP7.out.keep hb8)
  have HM8 := Lib.hid (HM7.out.keep hb8)
  clear hb8
  have hl9 := prs_lit w8 [([119, 101, 105, 103, 104, 116], [51])] (by decide) (hN _ rfl).1 28
  have hal9 := al1 w8 (.cells #[.string ⟨#[119, 101, 105, 103, 104, 116]⟩, .string ⟨#[51]⟩] 28)
  have HL9 : Hid (Prs (w8.alloc (.cells #[.string ⟨#[119, 101, 105, 103, 104, 116]⟩, .string ⟨#[51]⟩] 28)) (.slice (some ⟨w8.heap.size, 0, none⟩) 1 1) [([119, 101, 105, 103, 104, 116], [51])]) := Lib.hid hl9
  have HB9 := Lib.hid (below_keep hal9 HB8.out)
  have HP9 := Lib.hid (HP8.out.keep hal9)
  have HM9 := Lib.hid (HM8.out.keep hal9)
  clear hl9 hal9
  go_wp2_with fail
  generalize w8.alloc (.cells #[.string ⟨#[119, 101, 105, 103, 104, 116]⟩, .string ⟨#[51]⟩] 28) = w9 at HL9 HB9 HP9 HM9 ⊢
  refine (C.number 2 _ _ _ 3 w9 HL9 (by decide) (by decide) (Lib.hid x_num2)).mono ?_
  rintro e wb ⟨rfl, hbb⟩
  have HBb := Lib.hid (below_keep hbb HB9.out)
  have HPb := Lib.hid (HP9.out.keep hbb)
  have HMb := Lib.hid (HM9.out.keep hbb)
  clear hbb
  have hlc := pos_lit wb [([105, 110], 0), ([111, 117, 116], 2)] (by decide)
  have halc := al1 wb (.cells #[.string ⟨#[105, 110]⟩, .int .i64 0, .string ⟨#[111, 117, 116]⟩, .int .i64 2] 49)
  have HLc : Hid (Pos (wb.alloc (.cells #[.string ⟨#[105, 110]⟩, .int .i64 0, .string ⟨#[111, 117, 116]⟩, .int .i64 2] 49)) (.slice (some ⟨wb.heap.size, 0, none⟩) 2 2) [([105, 110], 0), ([111, 117, 116], 2)]) := Lib.hid hlc
  have HBc := Lib.hid (below_keep halc HBb.out)
  have HPc := Lib.hid (HPb.out.keep halc)
  have HMc := Lib.hid (HMb.out.keep halc)
  clear hlc halc
  go_wp2_with fail
  generalize wb.alloc (.cells #[.string ⟨#[105, 110]⟩, .int .i64 0, .string ⟨#[111, 117, 116]⟩, .int .i64 2] 49) = wc at HLc HBc HPc HMc ⊢
  refine (lports_of _ _ _ wc HPc HLc).mono ?_
  rintro e wd ⟨rfl, hbd⟩
  have HBd := Lib.hid (below_keep hbd HBc.out)
  have HMd := Lib.hid (HMc.out.keep hbd)
  clear hbd
  have hle := prs_lit wd [([97], [50]), ([98], [51])] (by decide) (hN _ rfl).1 28
  have hale := al1 wd (.cells #[.string ⟨#[97]⟩, .string ⟨#[50]⟩, .string ⟨#[98]⟩, .string ⟨#[51]⟩] 28)
  have HLe : Hid (Prs (wd.alloc (.cells #[.string ⟨#[97]⟩, .string ⟨#[50]⟩, .string ⟨#[98]⟩, .string ⟨#[51]⟩] 28)) (.slice (some ⟨wd.heap.size, 0, none⟩) 2 2) [([97], [50]), ([98], [51])]) := Lib.hid hle
  have HBe := Lib.hid (below_keep hale HBd.out)
  have HMe := Lib.hid (HMd.out.keep hale)
  clear hle hale
  go_wp2_with fail
  generalize wd.alloc (.cells #[.string ⟨#[97]⟩, .string ⟨#[50]⟩, .string ⟨#[98]⟩, .string ⟨#[51]⟩] 28) = we at HLe HBe HMe ⊢
  refine (lsame_of _ _ _ we HMe HLe).mono ?_
  rintro e wf ⟨rfl, hbf⟩
  have HBf := Lib.hid (below_keep hbf HBe.out)
  clear hbf
  go_wp2
  go_ret
  exact ⟨rfl, HBf.out⟩
end Go.Proofs.YthcglcnhdgeaeaaDoor.att
namespace Go.Proofs.YthcglcnhdgeaeaaDoor.att
open Go.RowKit lex tre

theorem prs_bnd {w : World} {v : Value} {l : List Pr} (h : Prs w v l) : Bnd l := by
  obtain ⟨ao, cap, rfl, h1, h2, h3⟩ := h
  intro r hr
  obtain ⟨i, hi, rfl⟩ := List.mem_iff_getElem.1 hr
  obtain ⟨A, _, h4⟩ := h3 (by omega)
  exact (h4 i hi).2.2
theorem few_len {l : List Pr} (h : fewV l = true) : l.length ≤ 60 := by
  unfold fewV at h
  simp only [Bool.and_eq_true, decide_eq_true_eq] at h
  exact h.1
set_option maxRecDepth 100000 in
set_option maxHeartbeats 4000000 in
theorem wpor (C : AttOk) (s : ByteArray) (w : World) (hMX : Hid (Mx w)) :
    Calls Tryd.prog 6 #[.string s] w fun e w' => e = .returned (.bool true) ∧ Below w.heap.size w w' := by
  by_cases h : 300 < s.size
  · have bs : decide ((300 : Int) < (s.size : Int)) = true := by simp; omega
    go_enter Tryd.func6, Tryd.ntmps6
    go_wp2_with fail
    refine (awk10 C w (mxh hMX (by first | exact Below.refl _ _ | assumption))).mono ?_
    rintro e w1 ⟨rfl, hb1⟩
    go_wp2
    go_ret
    exact ⟨rfl, hb1⟩
  have bs : decide ((300 : Int) < (s.size : Int)) = false := by simp; omega
  obtain ⟨l, e0, hp⟩ : ∃ l e0, portsL s.data.toList = (l, e0) := ⟨_, _, rfl⟩
  have HP := Lib.hid hp
  have h1 : s.size ≤ 1000 := by omega
  have h2 : s.size ≤ 20000 := by omega
  clear hp
  go_enter Tryd.func6, Tryd.ntmps6
  go_wp2_with fail
  refine (C.ports s l e0 w (mxh hMX (by first | exact Below.refl _ _ | assumption)) h1 HP).mono ?_
  rintro e w1 ⟨v1, rfl, hp1, hb1⟩
  have HB1 := Lib.hid hb1
  have HP1 := Lib.hid hp1
  clear hb1 hp1
  go_wp2_with fail
  refine (rports_of s l e0 w1 h2 HP).mono ?_
  rintro e w2 ⟨v2, rfl, hp2, hb2⟩
  have HB2 := Lib.hid (below_keep hb2 HB1.out)
  have HQ2 := Lib.hid (HP1.out.keep hb2)
  have HP2 := Lib.hid hp2
  clear hb2 hp2
  go_wp2_with fail
  refine (lports_of _ _ l w2 HQ2 HP2).mono ?_
  rintro e w3 ⟨rfl, hb3⟩
  have HB3 := Lib.hid (below_keep hb3 HB2.out)
  clear hb3
  go_wp2_with fail
  refine (awk10 C w3 (mxh hMX (by first | exact Below.refl _ _ | assumption))).mono ?_
  rintro e w4 ⟨rfl, hb4⟩
  have HB4 := Lib.hid (below_keep hb4 HB3.out)
  clear hb4
  go_wp2
  go_ret
  exact ⟨ret_bool (by simp), HB4.out⟩
set_option maxRecDepth 100000 in
set_option maxHeartbeats 4000000 in
theorem wmer (C : AttOk) (v v2 : Value) (l m : List Pr) (s : ByteArray) (w : World) (hl : Hid (Prs w v l)) (hm : Hid (Prs w v2 m)) (hMX : Hid (Mx w)) :
    Calls Tryd.prog 4 #[v, v2, .string s] w fun e w' => e = .returned (.bool true) ∧ Below w.heap.size w w' := by
  obtain ⟨f1, hf1⟩ : ∃ b, fewV l = b := ⟨_, rfl⟩
  obtain ⟨f2, hf2⟩ : ∃ b, fewV m = b := ⟨_, rfl⟩
  have HF1 := Lib.hid hf1
  have HF2 := Lib.hid hf2
  clear hf1 hf2
  cases f1
  · go_enter Tryd.func4, Tryd.ntmps4
    go_wp2_with fail
    refine (rfew_of v l false w hl HF1).mono ?_
    rintro e w1 ⟨rfl, hb1⟩
    go_wp2_with fail
    refine (awk10 C w1 (mxh hMX (by first | exact Below.refl _ _ | assumption))).mono ?_
    rintro e w2 ⟨rfl, hb2⟩
    go_wp2
    go_ret
    exact ⟨rfl, below_keep hb2 hb1⟩
  cases f2
  · go_enter Tryd.func4, Tryd.ntmps4
    go_wp2_with fail
    refine (rfew_of v l true w hl HF1).mono ?_
    rintro e w1 ⟨rfl, hb1⟩
    have HB1 := Lib.hid hb1
    have HM1 := Lib.hid (hm.out.keep hb1)
    clear hb1
    go_wp2_with fail
    refine (rfew_of v2 m false w1 HM1 HF2).mono ?_
    rintro e w2 ⟨rfl, hb2⟩
    have HB2 := Lib.hid (below_keep hb2 HB1.out)
    clear hb2
    go_wp2_with fail
    refine (awk10 C w2 (mxh hMX (by first | exact Below.refl _ _ | assumption))).mono ?_
    rintro e w3 ⟨rfl, hb3⟩
    go_wp2
    go_ret
    exact ⟨rfl, below_keep hb3 HB2.out⟩
  have h1 := few_len HF1.out
  have h2 := few_len HF2.out
  have HD1 := Lib.hid (prs_bnd hl.out)
  have HD2 := Lib.hid (prs_bnd hm.out)
  obtain ⟨x, r, hg⟩ : ∃ x r, getL m s.data.toList = (x, r) := ⟨_, _, rfl⟩
  have HG := Lib.hid hg
  clear hg
  go_enter Tryd.func4, Tryd.ntmps4
  go_wp2_with fail
  refine (rfew_of v l true w hl HF1).mono ?_
  rintro e w1 ⟨rfl, hb1⟩
  have HB1 := Lib.hid hb1
  have HL1 := Lib.hid (hl.out.keep hb1)
  have HM1 := Lib.hid (hm.out.keep hb1)
  clear hb1
  go_wp2_with fail
  refine (rfew_of v2 m true w1 HM1 HF2).mono ?_
  rintro e w2 ⟨rfl, hb2⟩
  have HB2 := Lib.hid (below_keep hb2 HB1.out)
  have HL2 := Lib.hid (HL1.out.keep hb2)
  have HM2 := Lib.hid (HM1.out.keep hb2)
  clear hb2 HL1 HM1
  go_wp2_with fail
  refine (C.get v2 m s x r w2 HM2 h2 HG).mono ?_
  rintro e w3 ⟨rfl, hb3⟩
  have HB3 := Lib.hid (below_keep hb3 HB2.out)
  have HL3 := Lib.hid (HL2.out.keep hb3)
  have HM3 := Lib.hid (HM2.out.keep hb3)
  clear hb3 HL2 HM2
  go_wp2_with fail
  refine (rget_of v2 m s x r w3 HM3 HG).mono ?_
  rintro e w4 ⟨rfl, rfl⟩
  go_wp2_with fail
  refine (C.merge v v2 l m w3 HL3 HM3 h1 h2 HD1 HD2).mono ?_
  rintro e w5 ⟨v5, rfl, hp5, hb5⟩
  have HB5 := Lib.hid (below_keep hb5 HB3.out)
  have HL5 := Lib.hid (HL3.out.keep hb5)
  have HM5 := Lib.hid (HM3.out.keep hb5)
  have HP5 := Lib.hid hp5
  clear hb5 hp5 HL3 HM3
  go_wp2_with fail
  refine (rmerge_of v v2 l m w5 HL5 HM5 h1 h2 HD1 HD2).mono ?_
  rintro e w6 ⟨v6, rfl, hp6, hb6⟩
  have HB6 := Lib.hid (below_keep hb6 HB5.out)
  have HQ6 := Lib.hid (HP5.out.keep hb6)
  have HP6 := Lib.hid hp6
  clear hb6 hp6 HL5 HM5
  go_wp2_with fail
  refine (lsame_of v5 v6 (mergeL l m) w6 HQ6 HP6).mono ?_
  rintro e w7 ⟨rfl, hb7⟩
  have HB7 := Lib.hid (below_keep hb7 HB6.out)
  clear hb7 HQ6 HP6
  go_wp2_with fail
  refine (awk10 C w7 (mxh hMX (by first | exact Below.refl _ _ | assumption))).mono ?_
  rintro e w8 ⟨rfl, hb8⟩
  have HB8 := Lib.hid (below_keep hb8 HB7.out)
  clear hb8
  go_wp2
  go_ret
  exact ⟨ret_bool (by simp), HB8.out⟩
set_option maxRecDepth 100000 in
set_option maxHeartbeats 4000000 in
theorem wnum (C : AttOk) (k : Int) (v : Value) (l : List Pr) (s : ByteArray) (hs : s.size ≤ maxLen) (w : World) (hl : Hid (Prs w v l)) (hsm : Hid (fewV l = true → Small l)) (hMX : Hid (Mx w)) :
    Calls Tryd.prog 5 #[.int .i64 k, v, .string s] w fun e w' => e = .returned (.bool true) ∧ Below w.heap.size w w' := by
  obtain ⟨f1, hf1⟩ : ∃ b, fewV l = b := ⟨_, rfl⟩
  have HF1 := Lib.hid hf1
  clear hf1
  cases f1
  · go_enter Tryd.func5, Tryd.ntmps5
    go_wp2_with fail
    refine (rfew_of v l false w hl HF1).mono ?_
    rintro e w1 ⟨rfl, hb1⟩
    go_wp2_with fail
    refine (awk10 C w1 (mxh hMX (by first | exact Below.refl _ _ | assumption))).mono ?_
    rintro e w2 ⟨rfl, hb2⟩
    go_wp2
    go_ret
    exact ⟨rfl, below_keep hb2 hb1⟩
  have h1 := few_len HF1.out
  have HS := Lib.hid (hsm.out HF1.out)
  have HS2 : Hid (∀ r ∈ l, r.2.length ≤ 20000) := Lib.hid fun r hr => by have := (HS.out r hr).2; omega
  obtain ⟨n, hn⟩ : ∃ n, numL k l s.data.toList = n := ⟨_, rfl⟩
  have HN := Lib.hid hn
  clear hn
  go_enter Tryd.func5, Tryd.ntmps5
  go_wp2_with fail
  refine (rfew_of v l true w hl HF1).mono ?_
  rintro e w1 ⟨rfl, hb1⟩
  have HB1 := Lib.hid hb1
  have HL1 := Lib.hid (hl.out.keep hb1)
  clear hb1
  go_wp2_with fail
  refine (C.number k v l s n w1 HL1 h1 hs HN).mono ?_
  rintro e w2 ⟨rfl, hb2⟩
  have HB2 := Lib.hid (below_keep hb2 HB1.out)
  have HL2 := Lib.hid (HL1.out.keep hb2)
  clear hb2 HL1
  go_wp2_with fail
  refine (rnum_of k v l s n w2 HL2 HS2 HN).mono ?_
  rintro e w3 ⟨rfl, hb3⟩
  have HB3 := Lib.hid (below_keep hb3 HB2.out)
  clear hb3 HL2
  go_wp2_with fail
  refine (awk10 C w3 (mxh hMX (by first | exact Below.refl _ _ | assumption))).mono ?_
  rintro e w4 ⟨rfl, hb4⟩
  have HB4 := Lib.hid (below_keep hb4 HB3.out)
  clear hb4
  go_wp2
  go_ret
  exact ⟨ret_bool (by simp), HB4.out⟩
end Go.Proofs.YthcglcnhdgeaeaaDoor.att
