/-
  PolyCrosses: for every two lists of points, Crossings and Same answer as the reference does, and Crossings in either order of both, as the statement says. No condition.
-/
import Derived.Test.YtllhdalfhhjigaaPolyAwake
import Derived.Test.YtllhdalfhhjigaaRefCrossings
namespace Go.Proofs.Ytllhdalfhhjigaa.lcrosses
open Go.ChangeShapes Go.WideShapes Go.ChangeAt Go.RowKit

theorem sgX_comm (s t : Sg) : sgX s t = sgX t s := by
  unfold sgX cross crs vld4
  rw [Bool.and_comm (sep s.1.1 s.1.2 s.2.1 s.2.2 t.1.1 t.1.2 t.2.1 t.2.2)]
  congr 1
  cases vld s.1.1 s.1.2 <;> cases vld s.2.1 s.2.2 <;> cases vld t.1.1 t.1.2 <;> cases vld t.2.1 t.2.2 <;> rfl
theorem xAll_nil (ps : List Pt) : ∀ a, xAll (sgs ps a) [] = 0
  | 0 => rfl
  | a + 1 => by rw [sgs_succ, xAll_snoc, xAll_nil ps a]; rfl
theorem xAll_step (ps qs : List Pt) (b : Nat) : ∀ a, xAll (sgs ps a) (sgs qs (b + 1)) = xAll (sgs ps a) (sgs qs b) + xIn (pa qs b, pa qs (b + 1)) (sgs ps a)
  | 0 => by simp [sgs, xAll, xIn]
  | a + 1 => by
    rw [sgs_succ ps a, xAll_snoc, xAll_snoc, xAll_step ps qs b a, xIn_snoc, sgs_succ qs b, xIn_snoc, sgX_comm]
    split <;> omega
theorem xAll_comm (ps qs : List Pt) (a : Nat) : ∀ b, xAll (sgs ps a) (sgs qs b) = xAll (sgs qs b) (sgs ps a)
  | 0 => by rw [show sgs qs 0 = [] from rfl, xAll_nil]; rfl
  | b + 1 => by rw [xAll_step, xAll_comm ps qs a b, sgs_succ, xAll_snoc]
theorem crsV_comm (ps qs : List Pt) : crsV qs ps = crsV ps qs := by
  unfold crsV
  rw [Bool.and_comm, xAll_comm]

set_option maxHeartbeats 1000000 in
theorem far (ao bo : Option Addr) (n m cap cbp : Nat) (w : World) (h : (60 : Int) < n) :
    Calls Try.prog 5 #[.slice ao n cap, .slice bo m cbp] w fun e w' => e = .returned (.bool true) ∧ Below w.heap.size w w' := by
  go_enter Try.func5, Try.ntmps5
  go_wp2_with fail
  refine (awake_any _).mono ?_
  rintro e w1 ⟨rfl, hb1⟩
  go_wp2
  go_ret
  exact ⟨rfl, hb1⟩
set_option maxHeartbeats 1000000 in
theorem far2 (ao bo : Option Addr) (n m cap cbp : Nat) (w : World) (h : ¬ (60 : Int) < n) (h2 : (60 : Int) < m) :
    Calls Try.prog 5 #[.slice ao n cap, .slice bo m cbp] w fun e w' => e = .returned (.bool true) ∧ Below w.heap.size w w' := by
  go_enter Try.func5, Try.ntmps5
  go_wp2_with fail
  refine (awake_any _).mono ?_
  rintro e w1 ⟨rfl, hb1⟩
  go_wp2
  go_ret
  exact ⟨rfl, hb1⟩

set_option maxRecDepth 100000 in
set_option maxHeartbeats 4000000 in
theorem near (ao bo : Option Addr) (cap cbp : Nat) (l m : List Pt) (w0 : World) (hl : l.length ≤ 60) (hk : m.length ≤ 60) (pL0 : Pl w0 (.slice ao l.length cap) l) (pM0 : Pl w0 (.slice bo m.length cbp) m) :
    Calls Try.prog 5 #[.slice ao l.length cap, .slice bo m.length cbp] w0 fun e w' => e = .returned (.bool true) ∧ Below w0.heap.size w0 w' := by
  have hml : l.length ≤ maxLen := by unfold maxLen; omega
  have hmm : m.length ≤ maxLen := by unfold maxLen; omega
  obtain ⟨n, hn⟩ : ∃ n, crsV l m = n := ⟨_, rfl⟩
  have HN := Lib.hid hn
  have HNr : Hid (crsV m l = n) := Lib.hid (by rw [crsV_comm, hn])
  obtain ⟨s, hs⟩ : ∃ s, samB l m = s := ⟨_, rfl⟩
  have HS := Lib.hid hs
  have HT := Lib.hid (sam_yes l l rfl (fun _ _ => rfl))
  have ess : (s == s) = true := by simp
  clear hn hs
  have hB0 := Below.refl w0.heap.size w0
  go_enter Try.func5, Try.ntmps5
  go_wp2_with fail
  refine (rcrossings_at _ _ _ l rfl hml _ pL0 _ _ _ m rfl pM0 hmm n HN).mono ?_
  rintro e w1 ⟨rfl, hb1⟩
  have pL1 := pL0.keep hb1
  have pM1 := pM0.keep hb1
  have hB1 := below_keep hb1 hB0
  clear pL0 pM0 hB0 hb1
  go_wp2_with fail
  refine (crossings_at _ _ _ l rfl hml _ pL1 _ _ _ m rfl pM1 hmm n HN).mono ?_
  rintro e w2 ⟨rfl, hb2⟩
  have pL2 := pL1.keep hb2
  have pM2 := pM1.keep hb2
  have hB2 := below_keep hb2 hB1
  clear pL1 pM1 hB1 hb2
  go_wp2_with fail
  refine (crossings_at _ _ _ m rfl hmm _ pM2 _ _ _ l rfl pL2 hml n HNr).mono ?_
  rintro e w3 ⟨rfl, hb3⟩
  have pL3 := pL2.keep hb3
  have pM3 := pM2.keep hb3
  have hB3 := below_keep hb3 hB2
  clear pL2 pM2 hB2 hb3
  go_wp2_with fail
  refine (same_at _ _ _ l rfl hml _ pL3 _ _ _ m rfl pM3 s HS).mono ?_
  rintro e w4 ⟨rfl, hb4⟩
  have pL4 := pL3.keep hb4
  have pM4 := pM3.keep hb4
  have hB4 := below_keep hb4 hB3
  clear pL3 pM3 hB3 hb4
  go_wp2_with fail
  refine (rsame_at _ _ _ l rfl hml _ pL4 _ _ _ m rfl pM4 s HS).mono ?_
  rintro e w5 ⟨rfl, hb5⟩
  have pL5 := pL4.keep hb5
  have pM5 := pM4.keep hb5
  have hB5 := below_keep hb5 hB4
  clear pL4 pM4 hB4 hb5
  go_wp2_with fail
  refine (same_at _ _ _ l rfl hml _ pL5 _ _ _ l rfl pL5 true HT).mono ?_
  rintro e w6 ⟨rfl, hb6⟩
  have pL6 := pL5.keep hb6
  have hB6 := below_keep hb6 hB5
  clear pL5 hB5 hb6
  go_wp2_with fail
  refine (awake_any _).mono ?_
  rintro e w7 ⟨rfl, hb7⟩
  have hB7 := below_keep hb7 hB6
  clear  hB6 hb7
  go_wp2
  go_ret
  exact ⟨rfl, hB7⟩

theorem top (v0 : Value) (l0 : List Pt) (v1 : Value) (l1 : List Pt) (W : World) (s0 : Pl W v0 l0) (_m0 : l0.length ≤ maxLen) (s1 : Pl W v1 l1) (_m1 : l1.length ≤ maxLen) :
    Calls Try.prog 5 #[v0, v1] W fun e w' => e = .returned (.bool true) ∧ Below W.heap.size W w' := by
  obtain ⟨ao, cap, rfl, hx⟩ := id s0
  obtain ⟨bo, cbp, rfl, hy⟩ := id s1
  by_cases h : l0.length ≤ 60
  · by_cases h2 : l1.length ≤ 60
    · exact near ao bo cap cbp l0 l1 W h h2 s0 s1
    · exact far2 ao bo _ _ cap cbp W (by omega) (by omega)
  · exact far ao bo _ _ cap cbp W (by omega)

set_option maxRecDepth 100000 in
theorem lifted (os : Os) (started : os.Started) (H : Type) (enc : TypeId × Value → H) :
    ReturnsInHanded {} Try.checked os 5 .any (Rows.polyCrossesSpec.pre6 enc Try.prog Try.f5 Rows.polyCrossesRow.domain false) (Rows.polyCrossesSpec.post enc Try.prog Try.f5 false true false false) := by
  refine returnsInHanded_of_change (C := Try.checked) own started (by kernel_rfl) Try.func5
    (ChangeSpec.witness6 (enc := enc) (C := Try.checked) false ⟨#[], #[.slice none 0 0, .slice none 0 0], []⟩ 8 (by kernel_rfl) (by kernel_rfl) (by kernel_rfl) (by kernel_rfl)) ?_
  intro W base args ds gs before hval0 hW _ _
  have hval : ∀ (j : Nat) t v, Try.f5.params[j]? = some t → args[j]? = some v → Value.okWide Try.prog W .any base t v := hval0
  have hW' := hW
  obtain ⟨p, q, hA0, hV, rfl, hfz, hnd⟩ := hW
  have hA : DataW.TrodAll enc Try.prog W 0 (fun _ => true) true Try.f5.params.toList args.toList ds p := hA0
  rw [Try.params5] at hA hval
  obtain ⟨v0, v1, d0, d1, p0, p1, rfl, rfl, rfl, h0, h1⟩ := trodAll_two hA
  obtain ⟨rfl, rfl⟩ := trodVars_none hV
  obtain ⟨l0, s0, m0⟩ := open_points (hval 0 22 v0 rfl rfl) h0
  obtain ⟨l1, s1, m1⟩ := open_points (hval 1 22 v1 rfl rfl) h1
  clear hA0 hval0
  simp only [List.append_nil] at hW'
  have hlt0 : ∀ x ∈ p0, x.block < W.heap.size := fun x hx => by simpa using hW'.lt x (by simp [hx])
  have hlt1 : ∀ x ∈ p1, x.block < W.heap.size := fun x hx => by simpa using hW'.lt x (by simp [hx])
  refine (top v0 l0 v1 l1 W s0 m0 s1 m1).mono fun e W' ⟨he, hb⟩ => ?_
  subst he
  exact ⟨_, rfl, _, _, _, [], (p0 ++ p1), [], hW', trodAll_mk1 (shut_bool Try.underlying4 _), (by have h := trodAll_mk2 (Below.trod laidOut (by kernel_rfl) (of_decide_eq_true (by kernel_rfl)) h0 hb hlt0) (Below.trod laidOut (by kernel_rfl) (of_decide_eq_true (by kernel_rfl)) h1 hb hlt1); first | (simp only [List.append_nil] at h; exact h) | exact h), rfl, hb.frame _, fun h => by cases h⟩

/-- The statement. -/
theorem holds : Rows.PolyCrossesSaid :=
  OpenClaim.holds_of_wide 5 Try.f5 rfl rfl rfl rfl rfl rfl rfl ⟨rfl, rfl, rfl, rfl, rfl⟩ rfl rfl rfl rfl rfl (by kernel_rfl) Try.func5 (by kernel_rfl)
    (of_decide_eq_true (by kernel_rfl)) (by unfold Func.isWrapper; first | (rw [if_pos (by decide +kernel)]; kernel_rfl) | (rw [if_neg (by decide +kernel)]; exact ⟨rfl, rfl⟩))
    (fun os started H enc _ => lifted os started H enc)
#print axioms holds


end Go.Proofs.Ytllhdalfhhjigaa.lcrosses
