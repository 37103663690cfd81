/-
  The walk of the statement TreeChecks of layer 7, over the premise that the code answers as its plain functions say.
-/
import Derived.Test.YtgnhpjbkbefgpaaTreOk
namespace Go.Proofs.Ytgnhpjbkbefgpaa.tre
open Go.RowKit lex

/-- A contract of a tree, called where the tree lies in an earlier world too. -/
theorem callS {f : Nat} {v : Value} {T : Tr} {Q : World → Ending → World → Prop} {W0 w : World} {p : Prop} (hc : ∀ w, Hid (TrV w v T) → Calls Try.prog f #[v] w (Q w)) (HT : Hid (TrV W0 v T)) (h : Below W0.heap.size W0 w ∧ p) : Calls Try.prog f #[v] w (Q w) :=
  hc _ (Lib.hid (HT.out.keep h.1))
theorem t_drew {W w : World} {b : Nat} {x : ByteArray} {d : Bool} {bv : Value} (h : Below W.heap.size W w ∧ w.cell? ⟨b, 0, none⟩ = some (.string x) ∧ w.cell? ⟨b, 1, none⟩ = some (.bool d) ∧ w.cell? ⟨b, 2, none⟩ = some bv) :
    Below W.heap.size W w.drew ∧ w.drew.cell? ⟨b, 0, none⟩ = some (.string x) ∧ w.drew.cell? ⟨b, 1, none⟩ = some (.bool d) ∧ w.drew.cell? ⟨b, 2, none⟩ = some bv := ⟨h.1.drew, h.2⟩
set_option maxRecDepth 100000 in
set_option maxHeartbeats 8000000 in
theorem wchk (C : TreOk) (AW : Awake) (v : Value) (T : Tr) (w : World) (hT : Hid (TrV w v T)) :
    Calls Try.prog 3 #[v] w fun e w' => e = .returned (.bool true) ∧ Below w.heap.size w w' := by
  have hmx : Try.prog.follows .mixedOrders = true := by kernel_rfl
  obtain ⟨bv, rfl, -, -⟩ := id hT.out
  obtain ⟨X, hX⟩ : ∃ X, bb T.name = X := ⟨_, rfl⟩
  obtain ⟨d, hd⟩ : ∃ d, T.dir = d := ⟨_, rfl⟩
  rw [hX, hd] at hT ⊢
  clear hX hd
  have hB := al1 w (.cells #[.string X, .bool d, bv] 24)
  have HT0 := Lib.hid (hT.out.keep hB)
  obtain ⟨c0, c1, c2⟩ := at3_new w X d bv 24
  obtain ⟨fw, hfw⟩ : ∃ b, few T.body = b := ⟨_, rfl⟩
  have HF := Lib.hid hfw
  clear hT hfw
  cases fw
  · go_enter Try.func3, Try.ntmps3
    go_wp2_with (first | (go_at_call 8; refine (few_of T _ _ false HT0 HF).mono ?_; rintro e w2 ⟨rfl, hb2⟩) | (go_at_call 9; refine (AW _).mono ?_; rintro e w3 ⟨rfl, hb3⟩))
    go_ret
    exact ⟨rfl, below_keep hb3 (below_keep hb2 hB)⟩
  obtain ⟨hcn, hok⟩ := few_spec HF.out
  obtain ⟨E, hE⟩ : ∃ E, validT T = E := ⟨_, rfl⟩
  obtain ⟨D, hD⟩ : ∃ D, depL (preL T.body 0) = D := ⟨_, rfl⟩
  have HE := Lib.hid hE
  have HD := Lib.hid hD
  have hE0 : E = 0 → D ≤ 6 ∧ (cnt T.body : Int) ≤ 512 := fun e => by
    have h0 : validT T = 0 := by rw [hE]; exact e
    have h1 := valid_depth h0
    have h2 := ((valid_iff T).1 h0).2.1
    rw [hD] at h1
    exact ⟨h1, by omega⟩
  have HE0 := Lib.hid hE0
  clear hE hD hE0
  go_enter Try.func3, Try.ntmps3
  go_wp2_with fail
  refine (few_of T _ _ true HT0 HF).mono ?_
  rintro e w2 ⟨rfl, hb2⟩
  have hB2 := below_keep hb2 hB
  have HT2 := Lib.hid (HT0.out.keep hb2)
  have k0 := cell_keep hb2 c0
  have k1 := cell_keep hb2 c1
  have k2 := cell_keep hb2 c2
  clear c0 c1 c2 HT0 hb2 hB
  go_wp2_with fail
  refine (C.valid _ T E _ HT2 HF.out HE).mono ?_
  rintro e w3 ⟨rfl, hb3⟩
  have hB3 := below_keep hb3 hB2
  have HT3 := Lib.hid (HT2.out.keep hb3)
  have c0 := cell_keep hb3 k0
  have c1 := cell_keep hb3 k1
  have c2 := cell_keep hb3 k2
  clear k0 k1 k2 HT2 hb3 hB2
  by_cases he : E = 0
  · obtain ⟨g1, g2⟩ := HE0.out he
    subst he
    have d1 : ¬ (6 < D) := by omega
    have d2 : ¬ ((512 : Int) < (cnt T.body : Int)) := by omega
    go_wp2_with fail
    refine (C.depth _ T D _ HT3 HF.out HD).mono ?_
    rintro e w4 ⟨rfl, hb4⟩
    have hB4 := below_keep hb4 hB3
    have HT4 := Lib.hid (HT3.out.keep hb4)
    have k0 := cell_keep hb4 c0
    have k1 := cell_keep hb4 c1
    have k2 := cell_keep hb4 c2
    clear c0 c1 c2 HT3 hb4 hB3
    go_wp2_with fail
    refine (C.count _ T _ HT4 HF.out).mono ?_
    rintro e w5 ⟨rfl, hb5⟩
    have hB5 := below_keep hb5 hB4
    have HT5 := Lib.hid (HT4.out.keep hb5)
    have c0 := cell_keep hb5 k0
    have c1 := cell_keep hb5 k1
    have c2 := cell_keep hb5 k2
    clear k0 k1 k2 HT4 hb5 hB4
    go_wp2_with fail
    have hP0 : Below w5.heap.size w5 w5 ∧ w5.cell? ⟨w.heap.size, 0, none⟩ = some (.string X) ∧ w5.cell? ⟨w.heap.size, 1, none⟩ = some (.bool d) ∧ w5.cell? ⟨w.heap.size, 2, none⟩ = some bv := ⟨Below.refl _ _, c0, c1, c2⟩
    go_region_held3 (fun w' => Below w5.heap.size w5 w' ∧ w'.cell? ⟨w.heap.size, 0, none⟩ = some (.string X) ∧ w'.cell? ⟨w.heap.size, 1, none⟩ = some (.bool d) ∧ w'.cell? ⟨w.heap.size, 2, none⟩ = some bv)
      (first | assumption | (with_reducible refine t_drew ?_; assumption))
      (first
      | (go_at_call 13; refine (callS (fun w h => rvalid_of _ T _ w h hcn HE) HT5 (by assumption)).mono ?_; rintro e w6 ⟨rfl, hb6⟩; have hP := t_keep (by assumption) hb6)
      | (go_at_call 12; refine (callS (fun w h => C.count _ T w h HF.out) HT5 (by assumption)).mono ?_; rintro e w6 ⟨rfl, hb6⟩; have hP := t_keep (by assumption) hb6)
      | (go_at_call 14; refine (callS (fun w h => rcount_of _ T w h hcn) HT5 (by assumption)).mono ?_; rintro e w6 ⟨rfl, hb6⟩; have hP := t_keep (by assumption) hb6)
      | (go_at_call 11; refine (callS (fun w h => C.depth _ T D w h HF.out HD) HT5 (by assumption)).mono ?_; rintro e w6 ⟨rfl, hb6⟩; have hP := t_keep (by assumption) hb6)
      | (go_at_call 15; refine (callS (fun w h => rdepth_of _ T D w h hcn HD) HT5 (by assumption)).mono ?_; rintro e w6 ⟨rfl, hb6⟩; have hP := t_keep (by assumption) hb6)
      | (go_at_call 9; refine (AW _).mono ?_; rintro e w6 ⟨rfl, hb6⟩; have hP := t_keep (by assumption) hb6))
    all_goals
      go_split_ands
      go_wp2
      go_ret
      exact ⟨rfl, below_keep (by assumption) hB5⟩
  · have b1 : (E == 0) = false := by rw [beq_eq_false_iff_ne]; exact he
    go_wp2_with fail
    have hP0 : Below w3.heap.size w3 w3 ∧ w3.cell? ⟨w.heap.size, 0, none⟩ = some (.string X) ∧ w3.cell? ⟨w.heap.size, 1, none⟩ = some (.bool d) ∧ w3.cell? ⟨w.heap.size, 2, none⟩ = some bv := ⟨Below.refl _ _, c0, c1, c2⟩
    go_region_held3 (fun w' => Below w3.heap.size w3 w' ∧ w'.cell? ⟨w.heap.size, 0, none⟩ = some (.string X) ∧ w'.cell? ⟨w.heap.size, 1, none⟩ = some (.bool d) ∧ w'.cell? ⟨w.heap.size, 2, none⟩ = some bv)
      (first | assumption | (with_reducible refine t_drew ?_; assumption))
      (first
      | (go_at_call 13; refine (callS (fun w h => rvalid_of _ T _ w h hcn HE) HT3 (by assumption)).mono ?_; rintro e w6 ⟨rfl, hb6⟩; have hP := t_keep (by assumption) hb6)
      | (go_at_call 12; refine (callS (fun w h => C.count _ T w h HF.out) HT3 (by assumption)).mono ?_; rintro e w6 ⟨rfl, hb6⟩; have hP := t_keep (by assumption) hb6)
      | (go_at_call 14; refine (callS (fun w h => rcount_of _ T w h hcn) HT3 (by assumption)).mono ?_; rintro e w6 ⟨rfl, hb6⟩; have hP := t_keep (by assumption) hb6)
      | (go_at_call 11; refine (callS (fun w h => C.depth _ T D w h HF.out HD) HT3 (by assumption)).mono ?_; rintro e w6 ⟨rfl, hb6⟩; have hP := t_keep (by assumption) hb6)
      | (go_at_call 15; refine (callS (fun w h => rdepth_of _ T D w h hcn HD) HT3 (by assumption)).mono ?_; rintro e w6 ⟨rfl, hb6⟩; have hP := t_keep (by assumption) hb6)
      | (go_at_call 9; refine (AW _).mono ?_; rintro e w6 ⟨rfl, hb6⟩; have hP := t_keep (by assumption) hb6))
    all_goals
      go_split_ands
      go_wp2
      go_ret
      exact ⟨rfl, below_keep (by assumption) hB3⟩
end Go.Proofs.Ytgnhpjbkbefgpaa.tre
