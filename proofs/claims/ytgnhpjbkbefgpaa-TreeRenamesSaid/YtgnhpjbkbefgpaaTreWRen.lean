/-
  The walk of the statement TreeRenames of layer 7, over the premises that the code, awake and the reference's Rename answer as their plain functions say.
-/
import Derived.Test.YtgnhpjbkbefgpaaTreWChk
namespace Go.Proofs.Ytgnhpjbkbefgpaa.tre
open Go.RowKit lex

/-- What the reference's Rename answers. -/
def RefRen : Prop := ∀ (v : Value) (T : Tr) (a b : ByteArray) (E : Int) (w : World), Hid (TrV w v T) → few T.body = true → a.size ≤ maxLen → b.size ≤ maxLen → Hid (renE T a.data.toList b.data.toList = E) →
  Calls Try.prog 24 #[v, .string a, .string b] w fun e w' => ∃ rv, e = .returned (.tuple #[rv, .int .i64 E]) ∧ TrV w' rv (renO T a.data.toList b.data.toList) ∧ Below w.heap.size w w'
set_option maxRecDepth 100000 in
set_option maxHeartbeats 8000000 in
theorem wren_bad (AW : Awake) (v : Value) (T : Tr) (a b : ByteArray) (w : World) (hT : Hid (TrV w v T)) (hbad : few T.body = false ∨ (few T.body = true ∧ (100 < a.size ∨ (a.size ≤ 100 ∧ 100 < b.size)))) :
    Calls Try.prog 6 #[v, .string a, .string b] w fun e w' => e = .returned (.bool true) ∧ Below w.heap.size w w' := by
  obtain ⟨bv, rfl, -, -⟩ := id hT.out
  obtain ⟨X, hX⟩ : ∃ X, bb T.name = X := ⟨_, rfl⟩
  obtain ⟨d, hd⟩ : ∃ d, T.dir = d := ⟨_, rfl⟩
  rw [hX, hd] at hT ⊢
  clear hX hd
  have hB := al1 w (.cells #[.string X, .bool d, bv] 24)
  have HT0 := Lib.hid (hT.out.keep hB)
  obtain ⟨c0, c1, c2⟩ := at3_new w X d bv 24
  clear hT
  rcases hbad with hf | ⟨hf, ha | ⟨ha, hb⟩⟩
  · have HF := Lib.hid hf
    clear hf
    go_enter Try.func6, Try.ntmps6
    go_wp2_with (first | (go_at_call 8; refine (few_of T _ _ false HT0 HF).mono ?_; rintro e w2 ⟨rfl, hb2⟩) | (go_at_call 9; refine (AW _).mono ?_; rintro e w3 ⟨rfl, hb3⟩))
    go_ret
    exact ⟨rfl, below_keep hb3 (below_keep hb2 hB)⟩
  · have HF := Lib.hid hf
    have d1 : (100 : Int) < (a.size : Int) := by omega
    clear hf
    go_enter Try.func6, Try.ntmps6
    go_wp2_with (first | (go_at_call 8; refine (few_of T _ _ true HT0 HF).mono ?_; rintro e w2 ⟨rfl, hb2⟩) | (go_at_call 9; refine (AW _).mono ?_; rintro e w3 ⟨rfl, hb3⟩))
    go_ret
    exact ⟨rfl, below_keep hb3 (below_keep hb2 hB)⟩
  · have HF := Lib.hid hf
    have d1 : ¬ (100 : Int) < (a.size : Int) := by omega
    have d2 : (100 : Int) < (b.size : Int) := by omega
    clear hf
    go_enter Try.func6, Try.ntmps6
    go_wp2_with (first | (go_at_call 8; refine (few_of T _ _ true HT0 HF).mono ?_; rintro e w2 ⟨rfl, hb2⟩) | (go_at_call 9; refine (AW _).mono ?_; rintro e w3 ⟨rfl, hb3⟩))
    go_ret
    exact ⟨rfl, below_keep hb3 (below_keep hb2 hB)⟩
set_option maxRecDepth 100000 in
set_option maxHeartbeats 8000000 in
theorem wren_good (C : TreOk) (AW : Awake) (RR : RefRen) (v : Value) (T : Tr) (a b : ByteArray) (w : World) (hT : Hid (TrV w v T)) (hf : few T.body = true) (ha : a.size ≤ 100) (hb : b.size ≤ 100) :
    Calls Try.prog 6 #[v, .string a, .string b] w fun e w' => e = .returned (.bool true) ∧ Below w.heap.size w w' := by
  obtain ⟨bv, rfl, -, -⟩ := id hT.out
  obtain ⟨X, hX⟩ : ∃ X, bb T.name = X := ⟨_, rfl⟩
  obtain ⟨d, hd⟩ : ∃ d, T.dir = d := ⟨_, rfl⟩
  rw [hX, hd] at hT ⊢
  clear hX hd
  have HF := Lib.hid hf
  obtain ⟨hcn, hok⟩ := few_spec hf
  obtain ⟨L, hL⟩ : ∃ L, namesT T = L := ⟨_, rfl⟩
  obtain ⟨E, hE⟩ : ∃ E, renE T a.data.toList b.data.toList = E := ⟨_, rfl⟩
  obtain ⟨U, hU⟩ : ∃ U, renO T a.data.toList b.data.toList = U := ⟨_, rfl⟩
  have HL := Lib.hid hL
  have HE := Lib.hid hE
  have HU := Lib.hid hU
  have HLL : Hid ((L == L) = true) := Lib.hid (by simp)
  have HUU : Hid (eqT U U = true) := Lib.hid ((eqT_iff U U).2 rfl)
  have ham : a.size ≤ maxLen := by unfold maxLen; omega
  have hbm : b.size ≤ maxLen := by unfold maxLen; omega
  have d1 : ¬ (100 : Int) < (a.size : Int) := by omega
  have d2 : ¬ (100 : Int) < (b.size : Int) := by omega
  have b1 := al1 w (.cells #[.string X, .bool d, bv] 24)
  have HT1 := Lib.hid (hT.out.keep b1)
  have g1 := at3_new w X d bv 24
  obtain ⟨c0, c1, c2⟩ := id g1
  clear hT hf hL hE hU
  go_enter Try.func6, Try.ntmps6
  go_wp2_with fail
  refine (few_of T _ _ true HT1 HF).mono ?_
  rintro e w2 ⟨rfl, hb2⟩
  have b2 := below_keep hb2 b1
  have HT2 := Lib.hid (HT1.out.keep hb2)
  have g2 := at3_keep g1 hb2
  clear c0 c1 c2 g1 HT1 hb2 b1
  obtain ⟨c0, c1, c2⟩ := id g2
  go_wp2_with fail
  refine (rnms_of _ T L _ HT2 hcn hok HL).mono ?_
  rintro e w3 ⟨v3, rfl, n3, hb3⟩
  have b3 := below_keep hb3 b2
  have HT3 := Lib.hid (HT2.out.keep hb3)
  have g3 := at3_keep g2 hb3
  have N3 := Lib.hid n3
  clear c0 c1 c2 g2 HT2 hb3 b2 n3
  obtain ⟨c0, c1, c2⟩ := id g3
  go_wp2_with fail
  refine (C.rename _ T a b E _ HT3 HF.out ham hbm HE).mono ?_
  rintro e w4 ⟨v4, rfl, hu, hb4⟩
  rw [HU.out] at hu
  have HU4 := Lib.hid hu
  obtain ⟨bu, rfl, -, hus⟩ := hu
  obtain ⟨uo, uc, rfl, -, -, -⟩ := hus
  have b4 := below_keep hb4 b3
  have HT4 := Lib.hid (HT3.out.keep hb4)
  have g4 := at3_keep g3 hb4
  have N4 := Lib.hid (N3.out.keep hb4)
  clear c0 c1 c2 g3 HT3 hb4 b3 N3
  obtain ⟨c0, c1, c2⟩ := id g4
  obtain ⟨Z, hZ⟩ : ∃ Z, bb U.name = Z := ⟨_, rfl⟩
  obtain ⟨z, hz⟩ : ∃ z, U.dir = z := ⟨_, rfl⟩
  rw [hZ, hz] at HU4 ⊢
  have hb5 := al1 w4 (.cells #[.string Z, .bool z, .slice uo U.body.length uc] 24)
  have b5 := below_keep hb5 b4
  have HT5 := Lib.hid (HT4.out.keep hb5)
  have g5 := at3_keep g4 hb5
  have N5 := Lib.hid (N4.out.keep hb5)
  have HU5 := Lib.hid (HU4.out.keep hb5)
  have u5 := at3_new w4 Z z (.slice uo U.body.length uc) 24
  have s5 : w4.heap.size < (w4.alloc (.cells #[.string Z, .bool z, .slice uo U.body.length uc] 24)).heap.size := by simp
  obtain ⟨p0, p1, p2⟩ := id g5
  clear g4 HT4 hb5 b4 N4 HU4
  go_wp2_with fail
  refine (RR _ T a b E _ HT5 HF.out ham hbm HE).mono ?_
  rintro e w6 ⟨v6, rfl, hu, hb6⟩
  rw [HU.out] at hu
  have HV6 := Lib.hid hu
  obtain ⟨bu2, rfl, -, hus⟩ := hu
  obtain ⟨uo2, uc2, rfl, -, -, -⟩ := hus
  rw [hZ, hz] at HV6 ⊢
  have b6 := below_keep hb6 b5
  have HT6 := Lib.hid (HT5.out.keep hb6)
  have g6 := at3_keep g5 hb6
  have N6 := Lib.hid (N5.out.keep hb6)
  have HU6 := Lib.hid (HU5.out.keep hb6)
  have u6 := at3_keep u5 hb6
  clear c0 c1 c2 p0 p1 p2 g5 HT5 hb6 b5 N5 HU5 u5 s5
  have hb7 := al1 w6 (.cells #[.string Z, .bool z, .slice uo2 U.body.length uc2] 24)
  have b7 := below_keep hb7 b6
  have HT7 := Lib.hid (HT6.out.keep hb7)
  have g7 := at3_keep g6 hb7
  have N7 := Lib.hid (N6.out.keep hb7)
  have HU7 := Lib.hid (HU6.out.keep hb7)
  have HV7 := Lib.hid (HV6.out.keep hb7)
  have u7 := at3_keep u6 hb7
  have y7 := at3_new w6 Z z (.slice uo2 U.body.length uc2) 24
  obtain ⟨c0, c1, c2⟩ := id g7
  obtain ⟨e0, e1, e2⟩ := id u7
  obtain ⟨f0, f1, f2⟩ := id y7
  clear g6 HT6 hb7 b6 N6 HU6 HV6 u6
  go_wp2_with fail
  refine (requal_of _ _ U U true _ HU7 HV7 HUU).mono ?_
  rintro e w8 ⟨rfl, hb8⟩
  have b8 := below_keep hb8 b7
  have HT8 := Lib.hid (HT7.out.keep hb8)
  have g8 := at3_keep g7 hb8
  have N8 := Lib.hid (N7.out.keep hb8)
  clear c0 c1 c2 e0 e1 e2 f0 f1 f2 g7 HT7 hb8 b7 N7 HU7 HV7 u7 y7
  obtain ⟨c0, c1, c2⟩ := id g8
  go_wp2_with fail
  refine (rnms_of _ T L _ HT8 hcn hok HL).mono ?_
  rintro e w9 ⟨v9, rfl, n9, hb9⟩
  have b9 := below_keep hb9 b8
  have N9 := Lib.hid (N8.out.keep hb9)
  have M9 := Lib.hid n9
  clear c0 c1 c2 g8 HT8 hb9 b8 N8 n9
  go_wp2_with fail
  refine (same_of _ _ L L true _ M9 N9 HLL).mono ?_
  rintro e wa ⟨rfl, hba⟩
  have ba := below_keep hba b9
  clear hba b9 N9 M9
  go_wp2_with fail
  refine (AW _).mono ?_
  rintro e wb ⟨rfl, hbb⟩
  have bb' := below_keep hbb ba
  clear hbb ba
  go_wp2
  go_ret
  exact ⟨rfl, bb'⟩
theorem wren (C : TreOk) (AW : Awake) (RR : RefRen) (v : Value) (T : Tr) (a b : ByteArray) (w : World) (hT : Hid (TrV w v T)) :
    Calls Try.prog 6 #[v, .string a, .string b] w fun e w' => e = .returned (.bool true) ∧ Below w.heap.size w w' := by
  cases hf : few T.body
  · exact wren_bad AW v T a b w hT (Or.inl hf)
  · by_cases ha : 100 < a.size
    · exact wren_bad AW v T a b w hT (Or.inr ⟨hf, Or.inl ha⟩)
    · by_cases hb : 100 < b.size
      · exact wren_bad AW v T a b w hT (Or.inr ⟨hf, Or.inr ⟨by omega, hb⟩⟩)
      · exact wren_good C AW RR v T a b w hT hf (by omega) (by omega)
end Go.Proofs.Ytgnhpjbkbefgpaa.tre
