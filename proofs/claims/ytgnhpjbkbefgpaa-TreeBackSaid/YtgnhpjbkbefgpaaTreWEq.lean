/-
  The walk of the statement TreeEquals of layer 7, over the premise that the code answers as its plain functions say.
-/
import Derived.Test.YtgnhpjbkbefgpaaTreWChk
namespace Go.Proofs.Ytgnhpjbkbefgpaa.tre
open Go.RowKit lex

theorem callS2 {f : Nat} {v v' : Value} {T T' : Tr} {Q : World → Ending → World → Prop} {W0 w : World} {p : Prop} (hc : ∀ w, Hid (TrV w v T) → Hid (TrV w v' T') → Calls Try.prog f #[v, v'] w (Q w)) (HT : Hid (TrV W0 v T)) (HT' : Hid (TrV W0 v' T')) (h : Below W0.heap.size W0 w ∧ p) :
    Calls Try.prog f #[v, v'] w (Q w) := hc _ (Lib.hid (HT.out.keep h.1)) (Lib.hid (HT'.out.keep h.1))
theorem t2_keep {W w w' : World} {b b' : Nat} {x x' : ByteArray} {d d' : Bool} {bv bv' : Value} (h : Below W.heap.size W w ∧ w.cell? ⟨b, 0, none⟩ = some (.string x) ∧ w.cell? ⟨b, 1, none⟩ = some (.bool d) ∧ w.cell? ⟨b, 2, none⟩ = some bv ∧ w.cell? ⟨b', 0, none⟩ = some (.string x') ∧ w.cell? ⟨b', 1, none⟩ = some (.bool d') ∧ w.cell? ⟨b', 2, none⟩ = some bv') (hb : Below w.heap.size w w') :
    Below W.heap.size W w' ∧ w'.cell? ⟨b, 0, none⟩ = some (.string x) ∧ w'.cell? ⟨b, 1, none⟩ = some (.bool d) ∧ w'.cell? ⟨b, 2, none⟩ = some bv ∧ w'.cell? ⟨b', 0, none⟩ = some (.string x') ∧ w'.cell? ⟨b', 1, none⟩ = some (.bool d') ∧ w'.cell? ⟨b', 2, none⟩ = some bv' := ⟨below_keep hb h.1, cell_keep hb h.2.1, cell_keep hb h.2.2.1, cell_keep hb h.2.2.2.1, cell_keep hb h.2.2.2.2.1, cell_keep hb h.2.2.2.2.2.1, cell_keep hb h.2.2.2.2.2.2⟩
theorem t2_drew {W w : World} {b b' : Nat} {x x' : ByteArray} {d d' : Bool} {bv bv' : Value} (h : Below W.heap.size W w ∧ w.cell? ⟨b, 0, none⟩ = some (.string x) ∧ w.cell? ⟨b, 1, none⟩ = some (.bool d) ∧ w.cell? ⟨b, 2, none⟩ = some bv ∧ w.cell? ⟨b', 0, none⟩ = some (.string x') ∧ w.cell? ⟨b', 1, none⟩ = some (.bool d') ∧ w.cell? ⟨b', 2, none⟩ = some bv') : Below W.heap.size W w.drew ∧ w.drew.cell? ⟨b, 0, none⟩ = some (.string x) ∧ w.drew.cell? ⟨b, 1, none⟩ = some (.bool d) ∧ w.drew.cell? ⟨b, 2, none⟩ = some bv ∧ w.drew.cell? ⟨b', 0, none⟩ = some (.string x') ∧ w.drew.cell? ⟨b', 1, none⟩ = some (.bool d') ∧ w.drew.cell? ⟨b', 2, none⟩ = some bv' := ⟨h.1.drew, h.2⟩
set_option maxRecDepth 100000 in
set_option maxHeartbeats 8000000 in
theorem weq (C : TreOk) (AW : Awake) (v v' : Value) (S T : Tr) (w : World) (hS : Hid (TrV w v S)) (hT : Hid (TrV w v' T)) :
    Calls Try.prog 5 #[v, v'] w fun e w' => e = .returned (.bool true) ∧ Below w.heap.size w w' := by
  have hmx : Try.prog.follows .mixedOrders = true := by kernel_rfl
  obtain ⟨bv, rfl, -, -⟩ := id hS.out
  obtain ⟨bv', rfl, -, -⟩ := id hT.out
  obtain ⟨X, hX⟩ : ∃ X, bb S.name = X := ⟨_, rfl⟩
  obtain ⟨d, hd⟩ : ∃ d, S.dir = d := ⟨_, rfl⟩
  obtain ⟨Y, hY⟩ : ∃ X, bb T.name = X := ⟨_, rfl⟩
  obtain ⟨d', hd'⟩ : ∃ d, T.dir = d := ⟨_, rfl⟩
  rw [hX, hd] at hS ⊢
  rw [hY, hd'] at hT ⊢
  clear hX hd hY hd'
  have hB1 := al1 w (.cells #[.string X, .bool d, bv] 24)
  have hB := hB1.alloc (by simp) (.cells #[.string Y, .bool d', bv'] 24)
  have HS0 := Lib.hid (hS.out.keep hB)
  have HT0 := Lib.hid (hT.out.keep hB)
  have hc0 := at3_keep (at3_new w X d bv 24) (al1 (w.alloc (.cells #[.string X, .bool d, bv] 24)) (.cells #[.string Y, .bool d', bv'] 24))
  have hc1 := at3_new (w.alloc (.cells #[.string X, .bool d, bv] 24)) Y d' bv' 24
  rw [World.size_alloc] at hc1
  obtain ⟨c0, c1, c2⟩ := hc0
  obtain ⟨e0, e1, e2⟩ := hc1
  obtain ⟨fw, hfw⟩ : ∃ b, few S.body = b := ⟨_, rfl⟩
  obtain ⟨fw', hfw'⟩ : ∃ b, few T.body = b := ⟨_, rfl⟩
  have HF := Lib.hid hfw
  have HF' := Lib.hid hfw'
  clear hS hT hfw hfw' hB1
  cases fw
  · go_enter Try.func5, Try.ntmps5
    go_wp2_with (first | (go_at_call 8; refine (few_of S _ _ false HS0 HF).mono ?_; rintro e w2 ⟨rfl, hb2⟩) | (go_at_call 9; refine (AW _).mono ?_; rintro e w3 ⟨rfl, hb3⟩))
    go_ret
    exact ⟨rfl, below_keep hb3 (below_keep hb2 hB)⟩
  go_enter Try.func5, Try.ntmps5
  go_wp2_with fail
  refine (few_of S _ _ true HS0 HF).mono ?_
  rintro e w2 ⟨rfl, hb2⟩
  have hB2 := below_keep hb2 hB
  have HS2 := Lib.hid (HS0.out.keep hb2)
  have HT2 := Lib.hid (HT0.out.keep hb2)
  have k0 := cell_keep hb2 c0
  have k1 := cell_keep hb2 c1
  have k2 := cell_keep hb2 c2
  have j0 := cell_keep hb2 e0
  have j1 := cell_keep hb2 e1
  have j2 := cell_keep hb2 e2
  clear c0 c1 c2 e0 e1 e2 HS0 HT0 hb2 hB
  cases fw'
  · go_wp2_with (first | (go_at_call 8; refine (few_of T _ _ false HT2 HF').mono ?_; rintro e w4 ⟨rfl, hb4⟩) | (go_at_call 9; refine (AW _).mono ?_; rintro e w3 ⟨rfl, hb3⟩))
    go_ret
    exact ⟨rfl, below_keep hb3 (below_keep hb4 hB2)⟩
  go_wp2_with fail
  refine (few_of T _ _ true HT2 HF').mono ?_
  rintro e w3 ⟨rfl, hb3⟩
  have hB3 := below_keep hb3 hB2
  have HS3 := Lib.hid (HS2.out.keep hb3)
  have HT3 := Lib.hid (HT2.out.keep hb3)
  have c0 := cell_keep hb3 k0
  have c1 := cell_keep hb3 k1
  have c2 := cell_keep hb3 k2
  have e0 := cell_keep hb3 j0
  have e1 := cell_keep hb3 j1
  have e2 := cell_keep hb3 j2
  clear k0 k1 k2 j0 j1 j2 HS2 HT2 hb3 hB2
  obtain ⟨q, hq⟩ : ∃ q, eqT S T = q := ⟨_, rfl⟩
  have HQ := Lib.hid hq
  have HQ2 : Hid (eqT T S = q) := Lib.hid (by
    rw [← hq, Bool.eq_iff_iff, eqT_iff, eqT_iff]
    exact ⟨fun e => e.symm, fun e => e.symm⟩)
  have HQ3 : Hid (eqT S S = true) := Lib.hid ((eqT_iff S S).2 rfl)
  have hqq : (q == q) = true := by simp
  clear hq
  go_wp2_with fail
  have hP0 : Below w3.heap.size w3 w3 ∧ w3.cell? ⟨w.heap.size, 0, none⟩ = some (.string X) ∧ w3.cell? ⟨w.heap.size, 1, none⟩ = some (.bool d) ∧ w3.cell? ⟨w.heap.size, 2, none⟩ = some bv ∧ w3.cell? ⟨w.heap.size + 1, 0, none⟩ = some (.string Y) ∧ w3.cell? ⟨w.heap.size + 1, 1, none⟩ = some (.bool d') ∧ w3.cell? ⟨w.heap.size + 1, 2, none⟩ = some bv' := ⟨Below.refl _ _, c0, c1, c2, e0, e1, e2⟩
  go_region_held3 (fun w' => Below w3.heap.size w3 w' ∧ w'.cell? ⟨w.heap.size, 0, none⟩ = some (.string X) ∧ w'.cell? ⟨w.heap.size, 1, none⟩ = some (.bool d) ∧ w'.cell? ⟨w.heap.size, 2, none⟩ = some bv ∧ w'.cell? ⟨w.heap.size + 1, 0, none⟩ = some (.string Y) ∧ w'.cell? ⟨w.heap.size + 1, 1, none⟩ = some (.bool d') ∧ w'.cell? ⟨w.heap.size + 1, 2, none⟩ = some bv')
    (first | assumption | (with_reducible refine t2_drew ?_; assumption))
    (first
      | (go_at_call 21; (with_reducible refine (callS2 (fun w h h' => C.equal _ _ S T q w h h' HQ) HS3 HT3 (by assumption)).mono ?_); rintro e w6 ⟨rfl, hb6⟩; have hP := t2_keep (by assumption) hb6)
      | (go_at_call 21; (with_reducible refine (callS2 (fun w h h' => C.equal _ _ T S q w h h' HQ2) HT3 HS3 (by assumption)).mono ?_); rintro e w6 ⟨rfl, hb6⟩; have hP := t2_keep (by assumption) hb6)
      | (go_at_call 21; (with_reducible refine (callS2 (fun w h h' => C.equal _ _ S S true w h h' HQ3) HS3 HS3 (by assumption)).mono ?_); rintro e w6 ⟨rfl, hb6⟩; have hP := t2_keep (by assumption) hb6)
      | (go_at_call 22; (with_reducible refine (callS2 (fun w h h' => requal_of _ _ S T q w h h' HQ) HS3 HT3 (by assumption)).mono ?_); rintro e w6 ⟨rfl, hb6⟩; have hP := t2_keep (by assumption) hb6)
      | (go_at_call 9; refine (AW _).mono ?_; rintro e w6 ⟨rfl, hb6⟩; have hP := t2_keep (by assumption) hb6))
  all_goals
    go_split_ands
    go_wp2
    go_ret
    exact ⟨rfl, below_keep (by assumption) hB3⟩
end Go.Proofs.Ytgnhpjbkbefgpaa.tre
