/-
  The walk of the statement TreeBack of layer 7, over the premise that the code answers as its plain functions say.
-/
import Derived.Test.YtgnhpjbkbefgpaaTreWBad
import Derived.Test.YtgnhpjbkbefgpaaTreWEq
import Derived.Test.YtgnhpjbkbefgpaaTreWNam
namespace Go.Proofs.Ytgnhpjbkbefgpaa.tre
open Go.RowKit lex

theorem count_at (C : TreOk) (v : Value) (T : Tr) (n : Nat) (w : World) (h : Hid (TrV w v T)) (hf : Hid (few T.body = true)) (hn : Hid (cnt T.body = n)) :
    Calls Try.prog 12 #[v] w fun e w' => e = .returned (.int .i64 (n : Int)) ∧ Below w.heap.size w w' := by
  rw [← hn.out]; exact C.count v T w h hf.out
theorem t3_keep {W w w' : World} {b c f : Nat} {x y : ByteArray} {d z : Bool} {bv bu bw : Value} (h : Below W.heap.size W w ∧ w.cell? ⟨b, 0, none⟩ = some (.string x) ∧ w.cell? ⟨b, 1, none⟩ = some (.bool d) ∧ w.cell? ⟨b, 2, none⟩ = some bv ∧ w.cell? ⟨c, 0, none⟩ = some (.string y) ∧ w.cell? ⟨c, 1, none⟩ = some (.bool z) ∧ w.cell? ⟨c, 2, none⟩ = some bu ∧ w.cell? ⟨f, 0, none⟩ = some (.string x) ∧ w.cell? ⟨f, 1, none⟩ = some (.bool d) ∧ w.cell? ⟨f, 2, none⟩ = some bw) (hb : Below w.heap.size w w') :
    Below W.heap.size W w' ∧ w'.cell? ⟨b, 0, none⟩ = some (.string x) ∧ w'.cell? ⟨b, 1, none⟩ = some (.bool d) ∧ w'.cell? ⟨b, 2, none⟩ = some bv ∧ w'.cell? ⟨c, 0, none⟩ = some (.string y) ∧ w'.cell? ⟨c, 1, none⟩ = some (.bool z) ∧ w'.cell? ⟨c, 2, none⟩ = some bu ∧ w'.cell? ⟨f, 0, none⟩ = some (.string x) ∧ w'.cell? ⟨f, 1, none⟩ = some (.bool d) ∧ w'.cell? ⟨f, 2, none⟩ = some bw := by
  obtain ⟨h, h1, h2, h3, h4, h5, h6, h7, h8, h9⟩ := h
  exact ⟨below_keep hb h, cell_keep hb h1, cell_keep hb h2, cell_keep hb h3, cell_keep hb h4, cell_keep hb h5, cell_keep hb h6, cell_keep hb h7, cell_keep hb h8, cell_keep hb h9⟩
theorem t3_drew {W w : World} {b c f : Nat} {x y : ByteArray} {d z : Bool} {bv bu bw : Value} (h : Below W.heap.size W w ∧ w.cell? ⟨b, 0, none⟩ = some (.string x) ∧ w.cell? ⟨b, 1, none⟩ = some (.bool d) ∧ w.cell? ⟨b, 2, none⟩ = some bv ∧ w.cell? ⟨c, 0, none⟩ = some (.string y) ∧ w.cell? ⟨c, 1, none⟩ = some (.bool z) ∧ w.cell? ⟨c, 2, none⟩ = some bu ∧ w.cell? ⟨f, 0, none⟩ = some (.string x) ∧ w.cell? ⟨f, 1, none⟩ = some (.bool d) ∧ w.cell? ⟨f, 2, none⟩ = some bw) :
    Below W.heap.size W w.drew ∧ w.drew.cell? ⟨b, 0, none⟩ = some (.string x) ∧ w.drew.cell? ⟨b, 1, none⟩ = some (.bool d) ∧ w.drew.cell? ⟨b, 2, none⟩ = some bv ∧ w.drew.cell? ⟨c, 0, none⟩ = some (.string y) ∧ w.drew.cell? ⟨c, 1, none⟩ = some (.bool z) ∧ w.drew.cell? ⟨c, 2, none⟩ = some bu ∧ w.drew.cell? ⟨f, 0, none⟩ = some (.string x) ∧ w.drew.cell? ⟨f, 1, none⟩ = some (.bool d) ∧ w.drew.cell? ⟨f, 2, none⟩ = some bw := ⟨h.1.drew, h.2⟩
set_option maxRecDepth 100000 in
set_option maxHeartbeats 8000000 in
theorem wback_good (C : TreOk) (AW : Awake) (v : Value) (T : Tr) (a b : ByteArray) (w : World) (hT : Hid (TrV w v T)) (ham : a.size ≤ maxLen) (hbm : b.size ≤ maxLen) (hf : few T.body = true)
    (hcl : (clustersT T).contains a.data.toList = false) (hE : renE T a.data.toList b.data.toList = 0) :
    Calls Try.prog 7 #[v, .string a, .string b] w fun e w' => e = .returned (.bool true) ∧ Below w.heap.size w w' := by
  have hmx : Try.prog.follows .mixedOrders = true := by kernel_rfl
  obtain ⟨bv, rfl, -, -⟩ := id hT.out
  obtain ⟨X, hX⟩ : ∃ X, bb T.name = X := ⟨_, rfl⟩
  obtain ⟨d, hd⟩ : ∃ d, T.dir = d := ⟨_, rfl⟩
  rw [hX, hd] at hT ⊢
  have HX := Lib.hid hX
  have HDD := Lib.hid hd
  clear hX hd
  have HF := Lib.hid hf
  obtain ⟨hcn, hok⟩ := few_spec hf
  have hnc : a.data.toList ∉ clustersT T := by
    intro h
    rw [List.contains_iff_mem.2 h] at hcl
    cases hcl
  obtain ⟨hE2, hW, hne⟩ := back_ok hE hnc
  obtain ⟨K, hK⟩ : ∃ K, clustersT T = K := ⟨_, rfl⟩
  obtain ⟨L, hL⟩ : ∃ L, namesT T = L := ⟨_, rfl⟩
  obtain ⟨n, hn⟩ : ∃ n, cnt T.body = n := ⟨_, rfl⟩
  obtain ⟨D, hD⟩ : ∃ D, depL (preL T.body 0) = D := ⟨_, rfl⟩
  obtain ⟨U, hU⟩ : ∃ U, renT a.data.toList b.data.toList T = U := ⟨_, rfl⟩
  have HUO : Hid (renO T a.data.toList b.data.toList = U) := Lib.hid (by unfold renO; rw [if_pos hE]; exact hU)
  have HFU : Hid (few U.body = true) := Lib.hid (by rw [← hU]; exact (few_ren _ _ _).trans hf)
  have HEU : Hid (renE U b.data.toList a.data.toList = 0) := Lib.hid (by rw [← hU]; exact hE2)
  have HWO : Hid (renO U b.data.toList a.data.toList = T) := Lib.hid (by unfold renO; rw [if_pos HEU.out, ← hU]; exact hW)
  have HQW : Hid (eqT T T = true) := Lib.hid ((eqT_iff T T).2 rfl)
  have HQU : Hid (eqT U T = false) := Lib.hid (by
    cases h : eqT U T
    · rfl
    · exact absurd ((eqT_iff U T).1 h) (by rw [← hU]; exact hne))
  have HNU : Hid (cnt U.body = n) := Lib.hid (by rw [← hU]; exact (cnt_ren _ _ _).trans hn)
  have HDU : Hid (depL (preL U.body 0) = D) := Lib.hid (by rw [← hU]; exact (dep_ren _ _ _ _).trans hD)
  have HKU : Hid (clustersT U = K) := Lib.hid (by rw [← hU, clusters_ren hE]; exact hK)
  obtain ⟨M, hM⟩ : ∃ M, L.map (mp a.data.toList b.data.toList) = M := ⟨_, rfl⟩
  have HLU : Hid (namesT U = M) := Lib.hid (by rw [← hU, names_ren hE, hL, hM])
  have HML : Hid (M.length = L.length) := Lib.hid (by rw [← hM, List.length_map])
  have HMG : Hid (∀ i (h : i < L.length) (h2 : i < M.length), M[i] = mp a.data.toList b.data.toList L[i]) := Lib.hid (by subst hM; intro i h h2; exact List.getElem_map _)
  rw [hK] at hcl
  have HCL := Lib.hid hcl
  have HK := Lib.hid hK
  have HL := Lib.hid hL
  have HN := Lib.hid hn
  have HD := Lib.hid hD
  have HE := Lib.hid hE
  have HKK : Hid ((K == K) = true) := Lib.hid (by simp)
  have b1 := al1 w (.cells #[.string X, .bool d, bv] 24)
  have HT1 := Lib.hid (hT.out.keep b1)
  have g1 := at3_new w X d bv 24
  obtain ⟨c0, c1, c2⟩ := id g1
  clear hT hf hK hL hn hD hE hE2 hW hne hU hcl hnc hM
  go_enter Try.func7, Try.ntmps7
  go_wp2_with fail
  refine (few_of T _ _ true HT1 HF).mono ?_
  rintro e w2 ⟨rfl, hb2⟩
  have b2 := below_keep hb2 b1
  have HT2 := Lib.hid (HT1.out.keep hb2)
  have g2 := at3_keep g1 hb2
  clear c0 c1 c2 g1 HT1 hb2 b1
  obtain ⟨c0, c1, c2⟩ := id g2
  go_wp2_with fail
  refine (rclu_of _ T K _ HT2 hcn HK).mono ?_
  rintro e w3 ⟨v3, rfl, n3, hb3⟩
  have b3 := below_keep hb3 b2
  have HT3 := Lib.hid (HT2.out.keep hb3)
  have g3 := at3_keep g2 hb3
  have N3 := Lib.hid n3
  obtain ⟨ao, cap, rfl, hc1, hm1, -⟩ := n3
  unfold maxLen at hm1
  have hKl : K.length ≤ 9223372036854775807 := by omega
  clear c0 c1 c2 g2 HT2 hb3 b2 hc1 hm1
  go_wp2_with fail
  go_loop [8] (fun iv => ∃ k : Nat, iv = .int .i64 k ∧ k ≤ K.length) (fun iv => K.length - (intOf iv).toNat)
  case atStart => exact ⟨0, rfl, Nat.zero_le _⟩
  case round =>
    obtain ⟨k, rfl, hk⟩ := hrel
    by_cases hlt : k < K.length
    · obtain ⟨A, rfl, hcell⟩ := N3.out.get hlt
      have hyk : (K[k] == a.data.toList) = false := by
        rw [beq_eq_false_iff_ne]
        intro h
        have h2 : K.contains a.data.toList = true := List.contains_iff_mem.2 (h ▸ List.getElem_mem hlt)
        rw [HCL.out] at h2
        cases h2
      obtain ⟨y, hy⟩ : ∃ y, K[k] = y := ⟨_, rfl⟩
      rw [hy] at hyk hcell
      obtain ⟨Y, hY⟩ : ∃ Y, bb y = Y := ⟨_, rfl⟩
      have hY2 : Y.toList = y := by rw [← hY, ByteArray.toList_eq]
      rw [hY] at hcell
      have i0 : (0 : Int) ≤ (k : Int) := by omega
      have i1 : (k : Int) < (K.length : Int) := by omega
      have hq : (Y.toList == a.toList) = false := by rw [hY2, ByteArray.toList_eq]; exact hyk
      clear hy hY hY2 hyk
      go_wp2
      go_round
      case rel => exact ⟨k + 1, by go_num, by omega⟩
      case measure => simp [intOf]; omega
    · obtain rfl : k = K.length := by omega
      obtain ⟨c0, c1, c2⟩ := id g3
      go_wp2_with fail
      refine (C.rename _ T a b 0 _ HT3 HF.out ham hbm HE).mono ?_
      rintro e w4 ⟨v4, rfl, hu, hb4⟩
      rw [HUO.out] at hu
      have HU4 := Lib.hid hu
      obtain ⟨bu, rfl, -, hus⟩ := hu
      obtain ⟨uo, uc, rfl, -, -, -⟩ := hus
      have b4 := below_keep hb4 b3
      have HT4 := Lib.hid (HT3.out.keep hb4)
      have g4 := at3_keep g3 hb4
      clear c0 c1 c2 g3 HT3 hb4 b3 N3 hKl hlt hk
      obtain ⟨c0, c1, c2⟩ := id g4
      obtain ⟨Z, hZ⟩ : ∃ Z, bb U.name = Z := ⟨_, rfl⟩
      obtain ⟨z, hz⟩ : ∃ z, U.dir = z := ⟨_, rfl⟩
      obtain ⟨nu, hnu⟩ : ∃ nu, U.body.length = nu := ⟨_, rfl⟩
      rw [hZ, hz, hnu] at HU4 ⊢
      clear hZ hz hnu
      have hb5 := al1 w4 (.cells #[.string Z, .bool z, .slice uo nu uc] 24)
      have b5 := below_keep hb5 b4
      have HT5 := Lib.hid (HT4.out.keep hb5)
      have g5 := at3_keep g4 hb5
      have HU5 := Lib.hid (HU4.out.keep hb5)
      have u5 := at3_new w4 Z z (.slice uo nu uc) 24
      obtain ⟨p0, p1, p2⟩ := id g5
      obtain ⟨e0, e1, e2⟩ := id u5
      clear g4 HT4 hb5 b4 HU4
      go_wp2_with fail
      refine (C.rename _ U b a 0 _ HU5 HFU.out hbm ham HEU).mono ?_
      rintro e w6 ⟨v6, rfl, hu, hb6⟩
      rw [HWO.out] at hu
      have HV6 := Lib.hid hu
      obtain ⟨bu2, rfl, -, hus⟩ := hu
      obtain ⟨wo, wc, rfl, -, -, -⟩ := hus
      obtain ⟨nw, hnw⟩ : ∃ nu, T.body.length = nu := ⟨_, rfl⟩
      rw [HX.out, HDD.out, hnw] at HV6 ⊢
      clear hnw
      have b6 := below_keep hb6 b5
      have HT6 := Lib.hid (HT5.out.keep hb6)
      have g6 := at3_keep g5 hb6
      have HU6 := Lib.hid (HU5.out.keep hb6)
      have u6 := at3_keep u5 hb6
      clear c0 c1 c2 p0 p1 p2 e0 e1 e2 g5 HT5 hb6 b5 HU5 u5
      have hb7 := al1 w6 (.cells #[.string X, .bool d, .slice wo nw wc] 24)
      have b7 := below_keep hb7 b6
      have HT7 := Lib.hid (HT6.out.keep hb7)
      have g7 := at3_keep g6 hb7
      have HU7 := Lib.hid (HU6.out.keep hb7)
      have HV7 := Lib.hid (HV6.out.keep hb7)
      have u7 := at3_keep u6 hb7
      have y7 := at3_new w6 X d (.slice wo nw wc) 24
      obtain ⟨c0, c1, c2⟩ := id g7
      obtain ⟨e0, e1, e2⟩ := id u7
      obtain ⟨f0, f1, f2⟩ := id y7
      clear g6 HT6 hb7 b6 HU6 HV6 u6
      go_wp2_with fail
      obtain ⟨w7, hw7⟩ : ∃ W, w6.alloc (.cells #[.string X, .bool d, .slice wo nw wc] 24) = W := ⟨_, rfl⟩
      rw [hw7] at b7 HT7 g7 HU7 HV7 u7 y7 c0 c1 c2 e0 e1 e2 f0 f1 f2 ⊢
      clear hw7 g7 u7 y7
      obtain ⟨B2, hB2⟩ : ∃ B, w4.heap.size = B := ⟨_, rfl⟩
      rw [hB2] at e0 e1 e2 ⊢
      obtain ⟨B3, hB3⟩ : ∃ B, w6.heap.size = B := ⟨_, rfl⟩
      rw [hB3] at f0 f1 f2 ⊢
      clear hB2 hB3
      have hP0 : Below w7.heap.size w7 w7 ∧ w7.cell? ⟨w.heap.size, 0, none⟩ = some (.string X) ∧ w7.cell? ⟨w.heap.size, 1, none⟩ = some (.bool d) ∧ w7.cell? ⟨w.heap.size, 2, none⟩ = some bv ∧ w7.cell? ⟨B2, 0, none⟩ = some (.string Z) ∧ w7.cell? ⟨B2, 1, none⟩ = some (.bool z) ∧ w7.cell? ⟨B2, 2, none⟩ = some (.slice uo nu uc) ∧ w7.cell? ⟨B3, 0, none⟩ = some (.string X) ∧ w7.cell? ⟨B3, 1, none⟩ = some (.bool d) ∧ w7.cell? ⟨B3, 2, none⟩ = some (.slice wo nw wc) := ⟨Below.refl _ _, c0, c1, c2, e0, e1, e2, f0, f1, f2⟩
      clear c0 c1 c2 e0 e1 e2 f0 f1 f2
      have bne1 : ((n : Int) != (n : Int)) = false := by simp
      have bne2 : (D != D) = false := by simp
      go_region_held3 (fun w' => Below w7.heap.size w7 w' ∧ w'.cell? ⟨w.heap.size, 0, none⟩ = some (.string X) ∧ w'.cell? ⟨w.heap.size, 1, none⟩ = some (.bool d) ∧ w'.cell? ⟨w.heap.size, 2, none⟩ = some bv ∧ w'.cell? ⟨B2, 0, none⟩ = some (.string Z) ∧ w'.cell? ⟨B2, 1, none⟩ = some (.bool z) ∧ w'.cell? ⟨B2, 2, none⟩ = some (.slice uo nu uc) ∧ w'.cell? ⟨B3, 0, none⟩ = some (.string X) ∧ w'.cell? ⟨B3, 1, none⟩ = some (.bool d) ∧ w'.cell? ⟨B3, 2, none⟩ = some (.slice wo nw wc))
        (first | assumption | (with_reducible refine t3_drew ?_; assumption))
        (first
          | (go_at_call 21; (with_reducible refine (callS2 (fun w h h' => C.equal _ _ T T true w h h' HQW) HV7 HT7 (by assumption)).mono ?_); rintro e w8 ⟨rfl, hb8⟩; have hP := t3_keep (by assumption) hb8)
          | (go_at_call 21; (with_reducible refine (callS2 (fun w h h' => C.equal _ _ U T false w h h' HQU) HU7 HT7 (by assumption)).mono ?_); rintro e w8 ⟨rfl, hb8⟩; have hP := t3_keep (by assumption) hb8)
          | (go_at_call 12; (with_reducible refine (callS (fun w h => count_at C _ U n w h HFU HNU) HU7 (by assumption)).mono ?_); rintro e w8 ⟨rfl, hb8⟩; have hP := t3_keep (by assumption) hb8)
          | (go_at_call 12; (with_reducible refine (callS (fun w h => count_at C _ T n w h HF HN) HT7 (by assumption)).mono ?_); rintro e w8 ⟨rfl, hb8⟩; have hP := t3_keep (by assumption) hb8)
          | (go_at_call 11; (with_reducible refine (callS (fun w h => C.depth _ U D w h HFU.out HDU) HU7 (by assumption)).mono ?_); rintro e w8 ⟨rfl, hb8⟩; have hP := t3_keep (by assumption) hb8)
          | (go_at_call 11; (with_reducible refine (callS (fun w h => C.depth _ T D w h HF.out HD) HT7 (by assumption)).mono ?_); rintro e w8 ⟨rfl, hb8⟩; have hP := t3_keep (by assumption) hb8)
          | (go_at_call 19; (with_reducible refine (callS (fun w h => C.clusters _ U K w h HFU.out HKU) HU7 (by assumption)).mono ?_); rintro e w8 ⟨v8, rfl, n3, hb8⟩; have hP := t3_keep (by assumption) hb8)
          | (go_at_call 19; (with_reducible refine (callS (fun w h => C.clusters _ T K w h HF.out HK) HT7 (by assumption)).mono ?_); rintro e w8 ⟨v9, rfl, n4, hb8⟩; have hP := t3_keep (by assumption) hb8; have m3 := nl_at hb8 (by exact n3))
          | (go_at_call 16; refine (same_of _ _ K K true _ (Lib.hid (by exact m3)) (Lib.hid (by exact n4)) HKK).mono ?_; rintro e w8 ⟨rfl, hb8⟩; have hP := t3_keep (by assumption) hb8; clear n3 n4 m3))
      have hP9 : Below w7.heap.size w7 w8 ∧ w8.cell? ⟨w.heap.size, 0, none⟩ = some (.string X) ∧ w8.cell? ⟨w.heap.size, 1, none⟩ = some (.bool d) ∧ w8.cell? ⟨w.heap.size, 2, none⟩ = some bv ∧ w8.cell? ⟨B2, 0, none⟩ = some (.string Z) ∧ w8.cell? ⟨B2, 1, none⟩ = some (.bool z) ∧ w8.cell? ⟨B2, 2, none⟩ = some (.slice uo nu uc) ∧ w8.cell? ⟨B3, 0, none⟩ = some (.string X) ∧ w8.cell? ⟨B3, 1, none⟩ = some (.bool d) ∧ w8.cell? ⟨B3, 2, none⟩ = some (.slice wo nw wc) := by assumption
      clear HQW HQU HNU HDU HKU HCL HK HN HD HE HKK HV7 HX HDD HUO HEU HWO bne1 bne2
      go_wp2_with fail
      go_region_held3 (fun w' => Below w7.heap.size w7 w' ∧ w'.cell? ⟨w.heap.size, 0, none⟩ = some (.string X) ∧ w'.cell? ⟨w.heap.size, 1, none⟩ = some (.bool d) ∧ w'.cell? ⟨w.heap.size, 2, none⟩ = some bv ∧ w'.cell? ⟨B2, 0, none⟩ = some (.string Z) ∧ w'.cell? ⟨B2, 1, none⟩ = some (.bool z) ∧ w'.cell? ⟨B2, 2, none⟩ = some (.slice uo nu uc) ∧ w'.cell? ⟨B3, 0, none⟩ = some (.string X) ∧ w'.cell? ⟨B3, 1, none⟩ = some (.bool d) ∧ w'.cell? ⟨B3, 2, none⟩ = some (.slice wo nw wc))
        (first | assumption | (with_reducible refine t3_drew ?_; assumption))
        (first
          | (go_at_call 17; (with_reducible refine (callS (fun w h => C.names _ U M w h HFU.out HLU) HU7 (by assumption)).mono ?_); rintro e wb ⟨vb, rfl, n6, hb8⟩; have hP := t3_keep (by assumption) hb8; have m5 := nl_at hb8 (by exact n5); obtain ⟨ao6, cap6, rfl, hc6, hm6, -⟩ := id n6)
          | (go_at_call 17; (with_reducible refine (callS (fun w h => C.names _ T L w h HF.out HL) HT7 (by assumption)).mono ?_); rintro e wa ⟨va, rfl, n5, hb8⟩; have hP := t3_keep (by assumption) hb8; obtain ⟨ao5, cap5, rfl, hc5, hm5, -⟩ := id n5))
      have hbF : Below w7.heap.size w7 wb := (by assumption : Below w7.heap.size w7 wb ∧ _).1
      have hBF := below_keep hbF b7
      have N5 := Lib.hid m5
      have N6 := Lib.hid n6
      have hLm : L.length ≤ 9223372036854775807 := by unfold maxLen at hm5; omega
      have hMm : M.length ≤ 9223372036854775807 := by rw [HML.out]; exact hLm
      have b0 : ((L.length : Int) != (M.length : Int)) = false := by rw [HML.out, bne_eq_false_iff_eq]
      clear hm5 hc5 hm6 hc6 m5 n6 n5 hb8
      clear HT7 HU7 HF HFU HL HLU C hcn hok
      go_wp2_with fail
      go_loopw [15] (fun iv wr => ∃ k : Nat, iv = .int .i64 k ∧ k ≤ L.length ∧ Below wb.heap.size wb wr) (fun iv _ => L.length - (intOf iv).toNat)
      case atStart => exact ⟨0, rfl, Nat.zero_le _, Below.refl _ _⟩
      case round =>
        obtain ⟨k, rfl, hk, hB⟩ := hrel
        rename World => wr
        by_cases hlt : k < L.length
        · have hlt2 : k < M.length := by rw [HML.out]; exact hlt
          obtain ⟨A5, rfl, ca⟩ := (N5.out.keep hB).get hlt
          obtain ⟨A6, rfl, cb⟩ := (N6.out.keep hB).get hlt2
          have hxy := HMG.out k hlt hlt2
          obtain ⟨x, hx⟩ : ∃ x, L[k] = x := ⟨_, rfl⟩
          obtain ⟨y, hy⟩ : ∃ y, M[k] = y := ⟨_, rfl⟩
          rw [hx, hy] at hxy
          rw [hx] at ca
          rw [hy] at cb
          have i0 : (0 : Int) ≤ (k : Int) := by omega
          have i1 : (k : Int) < (L.length : Int) := by omega
          have i2 : (k : Int) < (M.length : Int) := by omega
          obtain ⟨X5, hX⟩ : ∃ X, bb x = X := ⟨_, rfl⟩
          obtain ⟨Y5, hY⟩ : ∃ Y, bb y = Y := ⟨_, rfl⟩
          have hX2 : X5.toList = x := by rw [← hX, ByteArray.toList_eq]
          have hY2 : Y5.toList = y := by rw [← hY, ByteArray.toList_eq]
          rw [hX] at ca
          rw [hY] at cb
          have ha2 : a.toList = a.data.toList := ByteArray.toList_eq a
          have hb2' : b.toList = b.data.toList := ByteArray.toList_eq b
          have key : (∃ q, (X5.toList == a.toList) = true ∧ (X5.toList != a.toList) = false ∧ (Y5.toList == b.toList) = true ∧ (Y5.toList != b.toList) = false ∧ (X5.toList == Y5.toList) = q ∧ (X5.toList != Y5.toList) = !q) ∨ ((X5.toList == a.toList) = false ∧ (X5.toList != a.toList) = true ∧ (X5.toList == Y5.toList) = true ∧ (X5.toList != Y5.toList) = false) := by
            rw [hX2, hY2, ha2, hb2', hxy]
            unfold mp
            by_cases c : x = a.data.toList
            · rw [if_pos c]
              refine Or.inl ⟨(x == b.data.toList), by rw [beq_iff_eq]; exact c, by rw [bne_eq_false_iff_eq]; exact c, by simp, by simp, rfl, rfl⟩
            · rw [if_neg c]
              refine Or.inr ⟨by rw [beq_eq_false_iff_ne]; exact c, by rw [bne_iff_ne]; exact c, by simp, by simp⟩
          clear hxy hx hy hX hY hX2 hY2 ha2 hb2' N5 N6 HMG HML
          have hBB := below_keep hB hBF
          rcases key with ⟨q, k1, k2, k3, k4, k5, k6⟩ | ⟨k1, k2, k5, k6⟩
          · cases q
            all_goals
              go_wp2_with fail
              go_quiet (fail)
              have hB2 := below_keep (below_drewT wr nq) hB
              generalize wr.drewN nq = wn at hB2 ⊢
              go_wp2
              go_roundw
              case rel => exact ⟨k + 1, by go_num, by omega, hB2⟩
              case measure => simp [intOf]; omega
          · go_wp2_with fail
            go_quiet (fail)
            have hB2 := below_keep (below_drewT wr nq) hB
            generalize wr.drewN nq = wn at hB2 ⊢
            go_wp2
            go_roundw
            case rel => exact ⟨k + 1, by go_num, by omega, hB2⟩
            case measure => simp [intOf]; omega
        · have hBB := below_keep hB hBF
          obtain rfl : k = L.length := by omega
          go_wp2_with (go_at_call 9; refine (AW _).mono ?_; rintro e w6 ⟨rfl, hb6⟩)
          go_ret
          exact ⟨rfl, below_keep hb6 hBB⟩
theorem wback (C : TreOk) (AW : Awake) (v : Value) (T : Tr) (a b : ByteArray) (w : World) (hT : Hid (TrV w v T)) (ham : a.size ≤ maxLen) (hbm : b.size ≤ maxLen) :
    Calls Try.prog 7 #[v, .string a, .string b] w fun e w' => e = .returned (.bool true) ∧ Below w.heap.size w w' := by
  cases hf : few T.body
  · exact wback_few AW v T a b w hT hf
  · cases hc : (clustersT T).contains a.data.toList
    · by_cases hE : renE T a.data.toList b.data.toList = 0
      · exact wback_good C AW v T a b w hT ham hbm hf hc hE
      · exact wback_bad C AW v T a b w hT ham hbm hf (Or.inr hE)
    · exact wback_bad C AW v T a b w hT ham hbm hf (Or.inl hc)
end Go.Proofs.Ytgnhpjbkbefgpaa.tre
