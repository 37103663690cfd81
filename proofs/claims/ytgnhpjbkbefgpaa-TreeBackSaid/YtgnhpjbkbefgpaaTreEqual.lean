/-
  What Equal of the reference of layer 7 returns. Condition: trees in memory.
-/
import Derived.Test.YtgnhpjbkbefgpaaTreEq
namespace Go.Proofs.Ytgnhpjbkbefgpaa.tre
open Go.RowKit lex

theorem eq_ok (l : List St) : EqOk l := lst_ind eq_step l
set_option maxRecDepth 100000 in
set_option maxHeartbeats 8000000 in
theorem requal_of (v v' : Value) (S T : Tr) (R : Bool) (w : World) (hS : Hid (TrV w v S)) (hT : Hid (TrV w v' T)) (hR : Hid (eqT S T = R)) :
    Calls Try.prog 22 #[v, v'] w fun e w' => e = .returned (.bool R) ∧ Below w.heap.size w w' := by
  obtain ⟨bv, rfl, -, hs⟩ := hS.out
  obtain ⟨bv', rfl, -, ht⟩ := hT.out
  have hr := hR.out
  unfold eqT at hr
  obtain ⟨X, hX⟩ : ∃ X, bb S.name = X := ⟨_, rfl⟩
  obtain ⟨Y, hY⟩ : ∃ Y, bb T.name = Y := ⟨_, rfl⟩
  have hX2 : X.toList = S.name := by rw [← hX, ByteArray.toList_eq]
  have hY2 : Y.toList = T.name := by rw [← hY, ByteArray.toList_eq]
  rw [hX, hY]
  obtain ⟨d, hd⟩ : ∃ d, S.dir = d := ⟨_, rfl⟩
  obtain ⟨d', hd'⟩ : ∃ d, T.dir = d := ⟨_, rfl⟩
  rw [hd, hd'] at hr ⊢
  have hB1 := al1 w (.cells #[.string X, .bool d, bv] 24)
  have hB := hB1.alloc (by simp) (.cells #[.string Y, .bool d', bv'] 24)
  have HS := Lib.hid (hs.keep hB)
  have HT := Lib.hid (ht.keep hB)
  obtain ⟨q, hq⟩ : ∃ q, eqL S.body T.body = q := ⟨_, rfl⟩
  have HQ := Lib.hid hq
  rw [hq] at hr
  have HR := Lib.hid hr
  obtain ⟨n, hn⟩ : ∃ n, decide (S.name = T.name) = n := ⟨_, rfl⟩
  rw [hn] at hr
  have hxy : (X.toList == Y.toList) = n := by rw [hX2, hY2, ← hn, Bool.eq_iff_iff]; simp
  have HRN : Hid ((n && (d == d') && q) = R) := Lib.hid hr
  have hc0 := at3_keep (at3_new w X d bv 24) (al1 (w.alloc (.cells #[.string X, .bool d, bv] 24)) (.cells #[.string Y, .bool d', bv'] 24))
  have hc1 := at3_new (w.alloc (.cells #[.string X, .bool d, bv] 24)) Y d' bv' 24
  rw [World.size_alloc] at hc1
  obtain ⟨c0, c1, c2⟩ := hc0
  obtain ⟨e0, e1, e2⟩ := hc1
  clear hS hT hR hs ht hX hY hX2 hY2 hd hd' hq hn hr HR hB1
  cases n
  · have HN : Hid (R = false) := Lib.hid (by rw [← HRN.out]; rfl)
    obtain rfl := HN.out
    go_enter Try.func22, Try.ntmps22
    go_wp2
    go_ret
    exact ⟨rfl, hB⟩
  · cases d <;> cases d'
    case true.false.true =>
      have HN : Hid (R = false) := Lib.hid (by rw [← HRN.out]; rfl)
      obtain rfl := HN.out
      go_enter Try.func22, Try.ntmps22
      go_wp2
      go_ret
      exact ⟨rfl, hB⟩
    case true.true.false =>
      have HN : Hid (R = false) := Lib.hid (by rw [← HRN.out]; rfl)
      obtain rfl := HN.out
      go_enter Try.func22, Try.ntmps22
      go_wp2
      go_ret
      exact ⟨rfl, hB⟩
    all_goals
      have HN : Hid (q = R) := Lib.hid (by rw [← HRN.out]; rfl)
      obtain rfl := HN.out
      go_enter Try.func22, Try.ntmps22
      go_wp2_with (go_at_call 42; refine (eq_ok S.body T.body _ _ _ q HS.out HT.out HQ.out).mono ?_; rintro e w5 ⟨rfl, hb5⟩)
      go_ret
      exact ⟨rfl, below_keep hb5 hB⟩
end Go.Proofs.Ytgnhpjbkbefgpaa.tre
