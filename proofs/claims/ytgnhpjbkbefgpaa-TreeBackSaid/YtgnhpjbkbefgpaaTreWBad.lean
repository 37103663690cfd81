/-
  The walk of the statement TreeBack of layer 7 where it asks nothing, over the premise that the code answers as its plain functions say.
-/
import Derived.Test.YtgnhpjbkbefgpaaTreWChk
namespace Go.Proofs.Ytgnhpjbkbefgpaa.tre
open Go.RowKit lex

set_option maxRecDepth 100000 in
set_option maxHeartbeats 8000000 in
theorem wback_few (AW : Awake) (v : Value) (T : Tr) (a b : ByteArray) (w : World) (hT : Hid (TrV w v T)) (hf : few T.body = false) :
    Calls Try.prog 7 #[v, .string a, .string b] w fun e w' => e = .returned (.bool true) ∧ Below w.heap.size w w' := by
  obtain ⟨bv, rfl, -, -⟩ := id hT.out
  obtain ⟨X, hX⟩ : ∃ X, bb T.name = X := ⟨_, rfl⟩
  obtain ⟨d, hd⟩ : ∃ d, T.dir = d := ⟨_, rfl⟩
  rw [hX, hd] at hT ⊢
  clear hX hd
  have hB := al1 w (.cells #[.string X, .bool d, bv] 24)
  have HT0 := Lib.hid (hT.out.keep hB)
  obtain ⟨c0, c1, c2⟩ := at3_new w X d bv 24
  have HF := Lib.hid hf
  clear hT hf
  go_enter Try.func7, Try.ntmps7
  go_wp2_with (first | (go_at_call 8; refine (few_of T _ _ false HT0 HF).mono ?_; rintro e w2 ⟨rfl, hb2⟩) | (go_at_call 9; refine (AW _).mono ?_; rintro e w3 ⟨rfl, hb3⟩))
  go_ret
  exact ⟨rfl, below_keep hb3 (below_keep hb2 hB)⟩
set_option maxRecDepth 100000 in
set_option maxHeartbeats 8000000 in
theorem wback_bad (C : TreOk) (AW : Awake) (v : Value) (T : Tr) (a b : ByteArray) (w : World) (hT : Hid (TrV w v T)) (ham : a.size ≤ maxLen) (hbm : b.size ≤ maxLen) (hf : few T.body = true)
    (hbad : (clustersT T).contains a.data.toList = true ∨ renE T a.data.toList b.data.toList ≠ 0) :
    Calls Try.prog 7 #[v, .string a, .string b] w fun e w' => e = .returned (.bool true) ∧ Below w.heap.size w w' := by
  obtain ⟨bv, rfl, -, -⟩ := id hT.out
  obtain ⟨X, hX⟩ : ∃ X, bb T.name = X := ⟨_, rfl⟩
  obtain ⟨d, hd⟩ : ∃ d, T.dir = d := ⟨_, rfl⟩
  rw [hX, hd] at hT ⊢
  clear hX hd
  have HF := Lib.hid hf
  obtain ⟨hcn, hok⟩ := few_spec hf
  obtain ⟨K, hK⟩ : ∃ K, clustersT T = K := ⟨_, rfl⟩
  obtain ⟨E, hE⟩ : ∃ E, renE T a.data.toList b.data.toList = E := ⟨_, rfl⟩
  obtain ⟨U, hU⟩ : ∃ U, renO T a.data.toList b.data.toList = U := ⟨_, rfl⟩
  rw [hK, hE] at hbad
  have HK := Lib.hid hK
  have HE := Lib.hid hE
  have HU := Lib.hid hU
  have HBAD := Lib.hid hbad
  have hB := al1 w (.cells #[.string X, .bool d, bv] 24)
  have HT0 := Lib.hid (hT.out.keep hB)
  have g1 := at3_new w X d bv 24
  obtain ⟨c0, c1, c2⟩ := id g1
  clear hT hf hK hE hU hbad
  go_enter Try.func7, Try.ntmps7
  go_wp2_with fail
  refine (few_of T _ _ true HT0 HF).mono ?_
  rintro e w2 ⟨rfl, hb2⟩
  have hB2 := below_keep hb2 hB
  have HT2 := Lib.hid (HT0.out.keep hb2)
  have g2 := at3_keep g1 hb2
  clear c0 c1 c2 g1 HT0 hb2 hB
  obtain ⟨c0, c1, c2⟩ := id g2
  go_wp2_with fail
  refine (rclu_of _ T K _ HT2 hcn HK).mono ?_
  rintro e w3 ⟨v3, rfl, n3, hb3⟩
  have hB3 := below_keep hb3 hB2
  have HT3 := Lib.hid (HT2.out.keep hb3)
  have g3 := at3_keep g2 hb3
  have N3 := Lib.hid n3
  obtain ⟨ao, cap, rfl, hc1, hm1, -⟩ := n3
  unfold maxLen at hm1
  have hKl : K.length ≤ 9223372036854775807 := by omega
  clear c0 c1 c2 g2 HT2 hb3 hB2 hc1 hm1
  go_wp2_with fail
  go_loop [8] (fun iv => ∃ k : Nat, iv = .int .i64 k ∧ k ≤ K.length ∧ (K.take k).contains a.data.toList = false) (fun iv => K.length - (intOf iv).toNat)
  case atStart => exact ⟨0, rfl, Nat.zero_le _, rfl⟩
  case round =>
    obtain ⟨k, rfl, hk, hno⟩ := hrel
    have HNO := Lib.hid hno
    clear hno
    by_cases hlt : k < K.length
    · obtain ⟨A, rfl, hcell⟩ := N3.out.get hlt
      have htk : K.take (k + 1) = K.take k ++ [K[k]] := by rw [List.take_add_one, List.getElem?_eq_getElem hlt]; rfl
      obtain ⟨y, hy⟩ : ∃ y, K[k] = y := ⟨_, rfl⟩
      rw [hy] at htk hcell
      obtain ⟨Y, hY⟩ : ∃ Y, bb y = Y := ⟨_, rfl⟩
      have hY2 : Y.toList = y := by rw [← hY, ByteArray.toList_eq]
      rw [hY] at hcell
      have HTK := Lib.hid htk
      have i0 : (0 : Int) ≤ (k : Int) := by omega
      have i1 : (k : Int) < (K.length : Int) := by omega
      obtain ⟨q, hq⟩ : ∃ q, (Y.toList == a.toList) = q := ⟨_, rfl⟩
      have HQ : Hid ((y == a.data.toList) = q) := Lib.hid (by rw [← hq, hY2, ByteArray.toList_eq])
      clear hy hY hY2 htk
      cases q
      · have HN : Hid ((K.take (k + 1)).contains a.data.toList = false) := Lib.hid (by
          have := HQ.out
          rw [beq_eq_false_iff_ne] at this
          rw [HTK.out, List.contains_append, HNO.out, Bool.false_or]
          simp only [List.contains_cons, List.contains_nil, Bool.or_false, beq_eq_false_iff_ne, ne_eq]
          exact fun e => this e.symm)
        go_wp2
        go_round
        case rel => exact ⟨k + 1, by go_num, by omega, HN.out⟩
        case measure => simp [intOf]; omega
      · go_wp2_with (go_at_call 9; refine (AW _).mono ?_; rintro e w4 ⟨rfl, hb4⟩)
        go_ret
        exact ⟨rfl, below_keep hb4 hB3⟩
    · obtain rfl : k = K.length := by omega
      have hE0 : E ≠ 0 := by
        rcases HBAD.out with h | h
        · have := HNO.out
          rw [List.take_length, h] at this
          cases this
        · exact h
      have b1 : (E != 0) = true := by rw [bne_iff_ne]; exact hE0
      obtain ⟨c0, c1, c2⟩ := id g3
      clear hE0
      go_wp2_with fail
      refine (C.rename _ T a b E _ HT3 HF.out ham hbm HE).mono ?_
      rintro e w4 ⟨v4, rfl, hu, hb4⟩
      rw [HU.out] at hu
      obtain ⟨bu, rfl, -, hus⟩ := hu
      obtain ⟨uo, uc, rfl, -, -, -⟩ := hus
      have b4 := below_keep hb4 hB3
      have b5 := below_keep (al1 w4 (.cells #[.string (bb U.name), .bool U.dir, .slice uo U.body.length uc] 24)) b4
      go_wp2_with (go_at_call 9; refine (AW _).mono ?_; rintro e w6 ⟨rfl, hb6⟩)
      go_ret
      exact ⟨rfl, below_keep hb6 b5⟩
end Go.Proofs.Ytgnhpjbkbefgpaa.tre
