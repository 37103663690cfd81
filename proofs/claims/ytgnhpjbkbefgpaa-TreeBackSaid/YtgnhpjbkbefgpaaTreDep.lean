/-
  What Depth of the reference of layer 7 returns. Condition: a tree of at most 600 statements in memory.
-/
import Derived.Test.YtgnhpjbkbefgpaaTreVal
import Derived.Lib.MinMax
namespace Go.Proofs.Ytgnhpjbkbefgpaa.tre
open Go.RowKit lex

/-- Levels lie between the first one and the first one plus how many there are. -/
theorem pre_lv : (∀ s : St, ∀ lv, ∀ x ∈ preS s lv, lv ≤ x.2 ∧ x.2 ≤ lv + (preS s lv).length) ∧ ∀ l : List St, ∀ lv, ∀ x ∈ preL l lv, lv ≤ x.2 ∧ x.2 ≤ lv + (preL l lv).length := by
  refine st_ind (fun k n r a b hb lv x hx => ?_) (fun _ x hx => by cases hx) (fun s t hs ht lv x hx => ?_)
  · rw [preS_eq] at hx ⊢
    rw [List.length_cons]
    rcases List.mem_cons.1 hx with rfl | hx
    · exact ⟨Int.le_refl _, by show lv ≤ _; omega⟩
    · have hk : (St.mk k n r a b).body = b := rfl
      rw [hk] at hx ⊢
      obtain ⟨q, hq⟩ : ∃ q : Int, (if (St.mk k n r a b).kind = 5 then lv + 1 else lv) = q := ⟨_, rfl⟩
      rw [hq] at hx ⊢
      have h1 : lv ≤ q ∧ q ≤ lv + 1 := by rw [← hq]; split <;> omega
      have := hb _ x hx
      omega
  · rw [preL_cons] at hx ⊢
    rw [List.length_append]
    rcases List.mem_append.1 hx with hx | hx
    · have := hs lv x hx; omega
    · have := ht lv x hx; omega
def depF (m : Int) (x : St × Int) : Int := if x.1.kind = 5 then max m (x.2 + 1) else m
theorem depL_eq (l : List (St × Int)) : depL l = l.foldl depF 0 := rfl
set_option maxRecDepth 100000 in
set_option maxHeartbeats 8000000 in
theorem rdepth_of (v : Value) (T : Tr) (R : Int) (w : World) (hT : Hid (TrV w v T)) (hc : cnt T.body ≤ 600) (hR : Hid (depL (preL T.body 0) = R)) :
    Calls Try.prog 15 #[v] w fun e w' => e = .returned (.int .i64 R) ∧ Below w.heap.size w w' := by
  obtain ⟨bv, rfl, hnl, hs⟩ := hT.out
  have HR : Hid ((preL T.body 0).foldl depF 0 = R) := hR
  have hB := al1 w (.cells #[.string (bb T.name), .bool T.dir, bv] 24)
  have HS1 := Lib.hid (hs.keep hB)
  clear hT hs hnl hR
  go_enter Try.func15, Try.ntmps15
  go_wp2_with fail
  refine (pre_ok T.body _ _ bv 0 (Below.refl _ _) HS1.out hc (by decide) (by omega)).mono ?_
  rintro e w2 ⟨g, oc, F, rfl, hown, hF, hfv, hb2⟩
  have hFl := fin_len hF
  have hF6 : F.length ≤ 600 := by omega
  have hB2 := below_keep hb2 hB
  have HO := Lib.hid hown
  have HF := Lib.hid hF
  have HLV : Hid (∀ x ∈ preL T.body 0, 0 ≤ x.2 ∧ x.2 ≤ 600) := Lib.hid (fun x hx => by
    have := pre_lv.2 T.body 0 x hx
    have : (preL T.body 0).length = cnt T.body := rfl
    omega)
  clear hown hF hfv hb2 hFl
  go_wp2_with fail
  go_loop [4, 5] (fun mv iv => ∃ (m : Int) (k : Nat), mv = .int .i64 m ∧ iv = .int .i64 k ∧ k ≤ F.length ∧ 0 ≤ m ∧ m ≤ 601 ∧ ((preL T.body 0).drop k).foldl depF m = R) (fun _ iv => F.length - (intOf iv).toNat)
  case atStart => exact ⟨0, 0, rfl, rfl, Nat.zero_le _, by omega, by omega, HR.out⟩
  case round =>
    obtain ⟨m, k, rfl, rfl, hk, hm0, hm1, hfe⟩ := hrel
    have HFE := Lib.hid hfe
    clear hfe HR
    by_cases hlt : k < F.length
    · obtain ⟨p0, -, -, -, -, p5⟩ := flat_at HO.out hlt
      obtain ⟨r0, -, -, -, -, r5⟩ := flat_at2 HO.out hlt
      obtain ⟨hk2, hgk⟩ := fin_get HF.out hlt
      have hlv := HLV.out _ (List.getElem_mem hk2)
      have hst := HFE.out
      rw [List.drop_eq_getElem_cons hk2, List.foldl_cons, hgk] at hst
      rw [hgk] at hlv
      obtain ⟨f, hfe⟩ : ∃ f, F[k] = f := ⟨_, rfl⟩
      rw [hfe] at p0 p5 r0 r5 hst hlv
      obtain ⟨s, lv, rv, av, bv'⟩ := f
      simp only at p0 p5 r0 r5 hst hlv
      obtain ⟨l0, l1⟩ := hlv
      have i0 : (0 : Int) ≤ (k : Int) := by omega
      have i1 : (k : Int) < (F.length : Int) := by omega
      have hd : depF m (s, lv) = if s.kind = 5 then max m (lv + 1) else m := rfl
      rw [hd] at hst
      clear hfe hgk HFE hd
      by_cases h5 : s.kind = 5
      · rw [if_pos h5] at hst
        have HN := Lib.hid hst
        have b5 : (s.kind == 5) = true := by rw [beq_iff_eq]; exact h5
        clear hst h5
        go_wp2
        go_round
        case rel => exact ⟨max m (lv + 1), k + 1, rfl, by go_num, by omega, by omega, by omega, HN.out⟩
        case measure => simp [intOf]; omega
      · rw [if_neg h5] at hst
        have HN := Lib.hid hst
        have b5 : (s.kind == 5) = false := by rw [beq_eq_false_iff_ne]; exact h5
        clear hst h5
        go_wp2
        go_round
        case rel => exact ⟨m, k + 1, rfl, by go_num, by omega, hm0, hm1, HN.out⟩
        case measure => simp [intOf]; omega
    · obtain rfl : k = F.length := by omega
      have HN : Hid (m = R) := Lib.hid (by
        have := HFE.out
        rw [← HF.out, List.drop_of_length_le (by rw [List.length_map]; exact Nat.le_refl _)] at this
        exact this)
      obtain rfl := HN.out
      go_wp2
      go_ret
      exact ⟨rfl, hB2⟩
end Go.Proofs.Ytgnhpjbkbefgpaa.tre
