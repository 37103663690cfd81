/-
  The walk of the statement TreeNames of layer 7, over the premise that the code answers as its plain functions say.
-/
import Derived.Test.YtgnhpjbkbefgpaaTreWChk
namespace Go.Proofs.Ytgnhpjbkbefgpaa.tre
open Go.RowKit lex

theorem nl_at {w1 w2 : World} {v : Value} {l : List (List UInt8)} (hb : Below w1.heap.size w1 w2) (h : Nl w1 v l) : Nl w2 v l := h.keep hb
set_option maxRecDepth 100000 in
set_option maxHeartbeats 8000000 in
theorem wnam (C : TreOk) (AW : Awake) (v : Value) (T : Tr) (w : World) (hT : Hid (TrV w v T)) :
    Calls Try.prog 4 #[v] w fun e w' => e = .returned (.bool true) ∧ Below w.heap.size w w' := by
  have hmx : Try.prog.follows .mixedOrders = true := by kernel_rfl
  obtain ⟨bv, rfl, -, -⟩ := id hT.out
  obtain ⟨X, hX⟩ : ∃ X, bb T.name = X := ⟨_, rfl⟩
  obtain ⟨d, hd⟩ : ∃ d, T.dir = d := ⟨_, rfl⟩
  rw [hX, hd] at hT ⊢
  clear hX hd
  have hB := al1 w (.cells #[.string X, .bool d, bv] 24)
  have HT0 := Lib.hid (hT.out.keep hB)
  obtain ⟨c0, c1, c2⟩ := at3_new w X d bv 24
  obtain ⟨fw, hfw⟩ : ∃ b, few T.body = b := ⟨_, rfl⟩
  have HF := Lib.hid hfw
  clear hT hfw
  cases fw
  · go_enter Try.func4, Try.ntmps4
    go_wp2_with (first | (go_at_call 8; refine (few_of T _ _ false HT0 HF).mono ?_; rintro e w2 ⟨rfl, hb2⟩) | (go_at_call 9; refine (AW _).mono ?_; rintro e w3 ⟨rfl, hb3⟩))
    go_ret
    exact ⟨rfl, below_keep hb3 (below_keep hb2 hB)⟩
  obtain ⟨hcn, hok⟩ := few_spec HF.out
  obtain ⟨L, hL⟩ : ∃ L, namesT T = L := ⟨_, rfl⟩
  obtain ⟨K, hK⟩ : ∃ K, clustersT T = K := ⟨_, rfl⟩
  have HL := Lib.hid hL
  have HK := Lib.hid hK
  have HLL : Hid ((L == L) = true) := Lib.hid (by simp)
  have HKK : Hid ((K == K) = true) := Lib.hid (by simp)
  clear hL hK
  go_enter Try.func4, Try.ntmps4
  go_wp2_with fail
  refine (few_of T _ _ true HT0 HF).mono ?_
  rintro e w2 ⟨rfl, hb2⟩
  have hB2 := below_keep hb2 hB
  have HT2 := Lib.hid (HT0.out.keep hb2)
  have k0 := cell_keep hb2 c0
  have k1 := cell_keep hb2 c1
  have k2 := cell_keep hb2 c2
  clear c0 c1 c2 HT0 hb2 hB
  go_wp2_with fail
  have hP0 : Below w2.heap.size w2 w2 ∧ w2.cell? ⟨w.heap.size, 0, none⟩ = some (.string X) ∧ w2.cell? ⟨w.heap.size, 1, none⟩ = some (.bool d) ∧ w2.cell? ⟨w.heap.size, 2, none⟩ = some bv := ⟨Below.refl _ _, k0, k1, k2⟩
  go_region_held3 (fun w' => Below w2.heap.size w2 w' ∧ w'.cell? ⟨w.heap.size, 0, none⟩ = some (.string X) ∧ w'.cell? ⟨w.heap.size, 1, none⟩ = some (.bool d) ∧ w'.cell? ⟨w.heap.size, 2, none⟩ = some bv)
    (first | assumption | (with_reducible refine t_drew ?_; assumption))
    (first
      | (go_at_call 17; refine (callS (fun w h => C.names _ T _ w h HF.out HL) HT2 (by assumption)).mono ?_; rintro e w6 ⟨v6, rfl, n1, hb6⟩; have hP := t_keep (by assumption) hb6)
      | (go_at_call 18; refine (callS (fun w h => rnms_of _ T _ w h hcn hok HL) HT2 (by assumption)).mono ?_; rintro e w7 ⟨v7, rfl, n2, hb7⟩; have hP := t_keep (by assumption) hb7; have m1 := nl_at hb7 (by exact n1))
      | (go_at_call 16; refine (same_of _ _ L L true _ (Lib.hid (by exact m1)) (Lib.hid (by exact n2)) HLL).mono ?_; rintro e w8 ⟨rfl, hb8⟩; have hP := t_keep (by assumption) hb8; clear n1 n2 m1)
      | (go_at_call 19; refine (callS (fun w h => C.clusters _ T _ w h HF.out HK) HT2 (by assumption)).mono ?_; rintro e w6 ⟨v6, rfl, n3, hb6⟩; have hP := t_keep (by assumption) hb6)
      | (go_at_call 20; refine (callS (fun w h => rclu_of _ T _ w h hcn HK) HT2 (by assumption)).mono ?_; rintro e w7 ⟨v7, rfl, n4, hb7⟩; have hP := t_keep (by assumption) hb7; have m3 := nl_at hb7 (by exact n3))
      | (go_at_call 16; refine (same_of _ _ K K true _ (Lib.hid (by exact m3)) (Lib.hid (by exact n4)) HKK).mono ?_; rintro e w8 ⟨rfl, hb8⟩; have hP := t_keep (by assumption) hb8)
      | (go_at_call 9; refine (AW _).mono ?_; rintro e w6 ⟨rfl, hb6⟩; have hP := t_keep (by assumption) hb6))
  all_goals
    go_split_ands
    go_wp2
    go_ret
    exact ⟨rfl, below_keep (by assumption) hB2⟩
end Go.Proofs.Ytgnhpjbkbefgpaa.tre
