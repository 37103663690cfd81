/-
  The walk of the statement PrinterApart of layer 8. Condition: trees of at most two million statements.
-/
import Derived.Test.YtmpjdlhigmofdaaMPs
import Derived.Test.YtmpjdlhigmofdaaTreCEq
namespace Go.Proofs.Ytmpjdlhigmofdaa.prt
open Go.RowKit lex tre

theorem callP2 {f : Nat} {v v' : Value} {T T' : Tr} {Q : World → Ending → World → Prop} {W0 w : World} {p : Prop} (hc : ∀ w, Hid (TrV w v T) → Hid (TrV w v' T') → Calls Try.prog f #[v, v'] w (Q w)) (HT : Hid (TrV W0 v T)) (HT' : Hid (TrV W0 v' T')) (h : Below W0.heap.size W0 w ∧ p) :
    Calls Try.prog f #[v, v'] w (Q w) := hc _ (Lib.hid (HT.out.keep h.1)) (Lib.hid (HT'.out.keep h.1))
theorem p2_keep {W w w' : World} {b b' : Nat} {x x' : ByteArray} {d d' : Bool} {bv bv' : Value} (h : Below W.heap.size W w ∧ w.cell? ⟨b, 0, none⟩ = some (.string x) ∧ w.cell? ⟨b, 1, none⟩ = some (.bool d) ∧ w.cell? ⟨b, 2, none⟩ = some bv ∧ w.cell? ⟨b', 0, none⟩ = some (.string x') ∧ w.cell? ⟨b', 1, none⟩ = some (.bool d') ∧ w.cell? ⟨b', 2, none⟩ = some bv') (hb : Below w.heap.size w w') :
    Below W.heap.size W w' ∧ w'.cell? ⟨b, 0, none⟩ = some (.string x) ∧ w'.cell? ⟨b, 1, none⟩ = some (.bool d) ∧ w'.cell? ⟨b, 2, none⟩ = some bv ∧ w'.cell? ⟨b', 0, none⟩ = some (.string x') ∧ w'.cell? ⟨b', 1, none⟩ = some (.bool d') ∧ w'.cell? ⟨b', 2, none⟩ = some bv' := ⟨below_keep hb h.1, cell_keep hb h.2.1, cell_keep hb h.2.2.1, cell_keep hb h.2.2.2.1, cell_keep hb h.2.2.2.2.1, cell_keep hb h.2.2.2.2.2.1, cell_keep hb h.2.2.2.2.2.2⟩
theorem p2_drew {W w : World} {b b' : Nat} {x x' : ByteArray} {d d' : Bool} {bv bv' : Value} (h : Below W.heap.size W w ∧ w.cell? ⟨b, 0, none⟩ = some (.string x) ∧ w.cell? ⟨b, 1, none⟩ = some (.bool d) ∧ w.cell? ⟨b, 2, none⟩ = some bv ∧ w.cell? ⟨b', 0, none⟩ = some (.string x') ∧ w.cell? ⟨b', 1, none⟩ = some (.bool d') ∧ w.cell? ⟨b', 2, none⟩ = some bv') :
    Below W.heap.size W w.drew ∧ w.drew.cell? ⟨b, 0, none⟩ = some (.string x) ∧ w.drew.cell? ⟨b, 1, none⟩ = some (.bool d) ∧ w.drew.cell? ⟨b, 2, none⟩ = some bv ∧ w.drew.cell? ⟨b', 0, none⟩ = some (.string x') ∧ w.drew.cell? ⟨b', 1, none⟩ = some (.bool d') ∧ w.drew.cell? ⟨b', 2, none⟩ = some bv' := ⟨h.1.drew, h.2⟩
set_option maxRecDepth 100000 in
set_option maxHeartbeats 8000000 in
theorem wapt (v v' : Value) (S T : Tr) (w : World) (hS : Hid (TrV w v S)) (hT : Hid (TrV w v' T)) (hcS : cnt S.body ≤ 2000000) (hcT : cnt T.body ≤ 2000000) :
    Calls Try.prog 5 #[v, v'] w fun e w' => e = .returned (.bool true) ∧ Below w.heap.size w w' := by
  have hmx : Try.prog.follows .mixedOrders = true := by kernel_rfl
  obtain ⟨bv, rfl, -, hbs⟩ := id hS.out
  obtain ⟨bv', rfl, -, hbt⟩ := id hT.out
  obtain ⟨bo, bn, bc, rfl⟩ : ∃ a n c, bv = .slice a n c := by obtain ⟨a, c, rfl, _⟩ := hbs; exact ⟨_, _, _, rfl⟩
  obtain ⟨yo, yn, yc, rfl⟩ : ∃ a n c, bv' = .slice a n c := by obtain ⟨a, c, rfl, _⟩ := hbt; exact ⟨_, _, _, rfl⟩
  obtain ⟨X, hX⟩ : ∃ X, bb S.name = X := ⟨_, rfl⟩
  obtain ⟨d, hd⟩ : ∃ d, S.dir = d := ⟨_, rfl⟩
  obtain ⟨Y, hY⟩ : ∃ X, bb T.name = X := ⟨_, rfl⟩
  obtain ⟨d', hd'⟩ : ∃ d, T.dir = d := ⟨_, rfl⟩
  rw [hX, hd] at hS ⊢
  rw [hY, hd'] at hT ⊢
  clear hX hd hY hd' hbs hbt
  have hB1 := al1 w (.cells #[.string X, .bool d, .slice bo bn bc] 24)
  have hB := hB1.alloc (by simp) (.cells #[.string Y, .bool d', .slice yo yn yc] 24)
  have HS0 := Lib.hid (hS.out.keep hB)
  have HT0 := Lib.hid (hT.out.keep hB)
  have hc0 := at3_keep (at3_new w X d (.slice bo bn bc) 24) (al1 (w.alloc (.cells #[.string X, .bool d, .slice bo bn bc] 24)) (.cells #[.string Y, .bool d', .slice yo yn yc] 24))
  have hc1 := at3_new (w.alloc (.cells #[.string X, .bool d, .slice bo bn bc] 24)) Y d' (.slice yo yn yc) 24
  rw [World.size_alloc] at hc1
  obtain ⟨c0, c1, c2⟩ := hc0
  obtain ⟨e0, e1, e2⟩ := hc1
  clear hS hT hB1
  go_enter Try.func5, Try.ntmps5
  go_wp2_with fail
  refine (small_of S _ _ HS0 hcS).mono ?_
  rintro e w2 ⟨s1, rfl, hs1, hb2⟩
  have hB2 := below_keep hb2 hB
  have HS2 := Lib.hid (HS0.out.keep hb2)
  have HT2 := Lib.hid (HT0.out.keep hb2)
  have k0 := cell_keep hb2 c0
  have k1 := cell_keep hb2 c1
  have k2 := cell_keep hb2 c2
  have j0 := cell_keep hb2 e0
  have j1 := cell_keep hb2 e1
  have j2 := cell_keep hb2 e2
  clear c0 c1 c2 e0 e1 e2 HS0 HT0 hb2 hB
  cases s1
  · go_wp2_with (go_at_call 8; refine (pawk _).mono ?_; rintro e w3 ⟨rfl, hb3⟩)
    go_ret
    exact ⟨rfl, below_keep hb3 hB2⟩
  obtain ⟨hS60, hSok⟩ := hs1 rfl
  go_wp2_with fail
  refine (small_of T _ _ HT2 hcT).mono ?_
  rintro e w3 ⟨s2, rfl, hs2, hb3⟩
  have hB3 := below_keep hb3 hB2
  have HS3 := Lib.hid (HS2.out.keep hb3)
  have HT3 := Lib.hid (HT2.out.keep hb3)
  have c0 := cell_keep hb3 k0
  have c1 := cell_keep hb3 k1
  have c2 := cell_keep hb3 k2
  have e0 := cell_keep hb3 j0
  have e1 := cell_keep hb3 j1
  have e2 := cell_keep hb3 j2
  clear k0 k1 k2 j0 j1 j2 HS2 HT2 hb3 hB2 hs1
  cases s2
  · go_wp2_with (go_at_call 8; refine (pawk _).mono ?_; rintro e w4 ⟨rfl, hb4⟩)
    go_ret
    exact ⟨rfl, below_keep hb4 hB3⟩
  obtain ⟨hT60, hTok⟩ := hs2 rfl
  have HSO := Lib.hid hSok
  have HTO := Lib.hid hTok
  have hS600 : cnt S.body ≤ 600 := by omega
  have hT600 : cnt T.body ≤ 600 := by omega
  obtain ⟨E, hE⟩ : ∃ E, validT S = E := ⟨_, rfl⟩
  obtain ⟨E', hE'⟩ : ∃ E, validT T = E := ⟨_, rfl⟩
  have HE := Lib.hid hE
  have HE' := Lib.hid hE'
  have HS60 := Lib.hid hS60
  have HT60 := Lib.hid hT60
  clear hs2 hSok hTok hE hE' hS60 hT60
  go_wp2_with fail
  refine (rvalid_of _ S E _ HS3 hS600 HE).mono ?_
  rintro e w4 ⟨rfl, hb4⟩
  have hB4 := below_keep hb4 hB3
  have HS4 := Lib.hid (HS3.out.keep hb4)
  have HT4 := Lib.hid (HT3.out.keep hb4)
  have k0 := cell_keep hb4 c0
  have k1 := cell_keep hb4 c1
  have k2 := cell_keep hb4 c2
  have j0 := cell_keep hb4 e0
  have j1 := cell_keep hb4 e1
  have j2 := cell_keep hb4 e2
  clear c0 c1 c2 e0 e1 e2 HS3 HT3 hb4 hB3
  by_cases hz : E ≠ 0
  · have b1 : (E != 0) = true := by simp [hz]
    go_wp2_with (go_at_call 8; refine (pawk _).mono ?_; rintro e w5 ⟨rfl, hb5⟩)
    go_ret
    exact ⟨rfl, below_keep hb5 hB4⟩
  obtain rfl := Decidable.not_not.1 hz
  clear hz
  go_wp2_with fail
  refine (rvalid_of _ T E' _ HT4 hT600 HE').mono ?_
  rintro e w5 ⟨rfl, hb5⟩
  have hB5 := below_keep hb5 hB4
  have HS5 := Lib.hid (HS4.out.keep hb5)
  have HT5 := Lib.hid (HT4.out.keep hb5)
  have c0 := cell_keep hb5 k0
  have c1 := cell_keep hb5 k1
  have c2 := cell_keep hb5 k2
  have e0 := cell_keep hb5 j0
  have e1 := cell_keep hb5 j1
  have e2 := cell_keep hb5 j2
  clear k0 k1 k2 j0 j1 j2 HS4 HT4 hb5 hB4
  by_cases hz : E' ≠ 0
  · have b1 : (E' != 0) = true := by simp [hz]
    go_wp2_with (go_at_call 8; refine (pawk _).mono ?_; rintro e w6 ⟨rfl, hb6⟩)
    go_ret
    exact ⟨rfl, below_keep hb6 hB5⟩
  obtain rfl := Decidable.not_not.1 hz
  clear hz
  obtain ⟨P, hP⟩ : ∃ Q, bb (prtT prL S) = Q := ⟨_, rfl⟩
  obtain ⟨Q, hQ⟩ : ∃ Q, bb (prtT prL T) = Q := ⟨_, rfl⟩
  have HP : Hid (prtT prL S = P.data.toList) := Lib.hid (by rw [← hP])
  have HQ : Hid (prtT prL T = Q.data.toList) := Lib.hid (by rw [← hQ])
  have hpz : P.size ≤ 900000 := by rw [← b_size, ← hP]; exact prt_len HS60.out HSO.out
  have hqz : Q.size ≤ 900000 := by rw [← b_size, ← hQ]; exact prt_len HT60.out HTO.out
  obtain ⟨r, hr⟩ : ∃ r, eqT S T = r := ⟨_, rfl⟩
  have HR := Lib.hid hr
  have hpq : (P.toList == Q.toList) = r := by
    rw [ByteArray.toList_eq, ByteArray.toList_eq, ← HP.out, ← HQ.out, ← hr, Bool.eq_iff_iff, beq_iff_eq, eqT_iff]
    unfold prtT
    rw [if_pos HE.out, if_pos HE'.out]
    exact txt_inj prL_form HE.out HE'.out
  have hrr : (r == r) = true := by simp
  clear hP hQ hr
  go_wp2_with fail
  have hP0 : Below w5.heap.size w5 w5 ∧ w5.cell? ⟨w.heap.size, 0, none⟩ = some (.string X) ∧ w5.cell? ⟨w.heap.size, 1, none⟩ = some (.bool d) ∧ w5.cell? ⟨w.heap.size, 2, none⟩ = some (.slice bo bn bc) ∧ w5.cell? ⟨w.heap.size + 1, 0, none⟩ = some (.string Y) ∧ w5.cell? ⟨w.heap.size + 1, 1, none⟩ = some (.bool d') ∧ w5.cell? ⟨w.heap.size + 1, 2, none⟩ = some (.slice yo yn yc) := ⟨Below.refl _ _, c0, c1, c2, e0, e1, e2⟩
  go_region_held3 (fun w' => Below w5.heap.size w5 w' ∧ w'.cell? ⟨w.heap.size, 0, none⟩ = some (.string X) ∧ w'.cell? ⟨w.heap.size, 1, none⟩ = some (.bool d) ∧ w'.cell? ⟨w.heap.size, 2, none⟩ = some (.slice bo bn bc) ∧ w'.cell? ⟨w.heap.size + 1, 0, none⟩ = some (.string Y) ∧ w'.cell? ⟨w.heap.size + 1, 1, none⟩ = some (.bool d') ∧ w'.cell? ⟨w.heap.size + 1, 2, none⟩ = some (.slice yo yn yc))
    (first | assumption | (with_reducible refine p2_drew ?_; assumption))
    (first
    | (go_at_call 9; (with_reducible refine (callP (fun w h => cprint_of S _ P w h hS600 HSO HP hpz) HS5 (by assumption)).mono ?_); rintro e w6 ⟨rfl, hb6⟩; have hP := p2_keep (by assumption) hb6)
    | (go_at_call 9; (with_reducible refine (callP (fun w h => cprint_of T _ Q w h hT600 HTO HQ hqz) HT5 (by assumption)).mono ?_); rintro e w6 ⟨rfl, hb6⟩; have hP := p2_keep (by assumption) hb6)
    | (go_at_call 14; (with_reducible refine (callP2 (fun w h h' => cequal_of _ _ S T r w h h' HR) HS5 HT5 (by assumption)).mono ?_); rintro e w6 ⟨rfl, hb6⟩; have hP := p2_keep (by assumption) hb6)
    | (go_at_call 8; (with_reducible refine (pawk _).mono ?_); rintro e w6 ⟨rfl, hb6⟩; have hP := p2_keep (by assumption) hb6))
  all_goals
    go_split_ands
    go_wp2
    go_ret
    exact ⟨rfl, below_keep (by assumption) hB5⟩
end Go.Proofs.Ytmpjdlhigmofdaa.prt
